package tests

import (
	"math"
	"slices"
	"testing"

	"loop.example/balancedpipes/impl"
)

func TestNumbersOfNets(t *testing.T) {
	got := []int{impl.MaxNodes, impl.MaxPipes, impl.MaxHold, impl.MaxCost, impl.MaxFlow}
	if want := []int{5, 7, 4, 9, 40}; !slices.Equal(got, want) {
		t.Fatalf("numbers are %v, not %v", got, want)
	}
}

func TestP1NodesAloneAreANet(t *testing.T) {
	for nodes := -2; nodes <= impl.MaxNodes+2; nodes++ {
		want := 2 <= nodes && nodes <= impl.MaxNodes
		if impl.NetOk(impl.Net{Nodes: nodes}) != want || impl.NetOk(impl.Net{Nodes: nodes, Pipes: []impl.Pipe{}}) != want {
			t.Errorf("%d nodes alone: not %v", nodes, want)
		}
	}
}

func TestP1WithoutTheLastPipeItIsANet(t *testing.T) {
	for _, net := range goodNets() {
		for len(net.Pipes) > 0 {
			if !impl.NetOk(net) {
				t.Fatalf("no net: %v", net)
			}
			net.Pipes = net.Pipes[:len(net.Pipes)-1]
		}
		if !impl.NetOk(net) {
			t.Fatalf("no net: %v", net)
		}
	}
}

func TestP1EachBoundOfAPipe(t *testing.T) {
	for from := -1; from <= 3; from++ {
		for to := -1; to <= 3; to++ {
			want := 0 <= from && from < 3 && 0 <= to && to < 3 && from != to
			if impl.NetOk(impl.Net{Nodes: 3, Pipes: []impl.Pipe{{From: from, To: to}}}) != want {
				t.Errorf("from %d to %d: not %v", from, to, want)
			}
		}
	}
	for least := -2; least <= impl.MaxHold+2; least++ {
		for most := -2; most <= impl.MaxHold+2; most++ {
			want := 0 <= least && least <= most && most <= impl.MaxHold
			if impl.NetOk(impl.Net{Nodes: 2, Pipes: []impl.Pipe{{From: 1, To: 0, Least: least, Most: most}}}) != want {
				t.Errorf("least %d and most %d: not %v", least, most, want)
			}
		}
	}
	for cost := -impl.MaxCost - 2; cost <= impl.MaxCost+2; cost++ {
		want := -impl.MaxCost <= cost && cost <= impl.MaxCost
		if impl.NetOk(impl.Net{Nodes: 2, Pipes: []impl.Pipe{{From: 0, To: 1, Cost: cost}}}) != want {
			t.Errorf("cost %d: not %v", cost, want)
		}
	}
}

func TestP1OthersAreNoNets(t *testing.T) {
	for why, net := range badNets() {
		if impl.NetOk(net) {
			t.Errorf("%s: a net", why)
		}
	}
}

func TestP2EmptyPipesAreAFlow(t *testing.T) {
	for _, net := range goodNets() {
		flow := filled(net, 0)
		if !impl.FlowOk(net, flow) {
			t.Fatalf("no flow of %v: %v", net, flow)
		}
		if len(flow) > 0 && impl.FlowOk(net, flow[:len(flow)-1]) {
			t.Fatalf("a flow of %v: %v without its last amount", net, flow)
		}
	}
}

func TestP2AmountsAtTheBounds(t *testing.T) {
	for _, net := range goodNets() {
		for _, flow := range someFlows(net) {
			if !impl.FlowOk(net, flow) {
				t.Fatalf("no flow of %v: %v", net, flow)
			}
		}
		for _, flow := range badFlows(net) {
			if impl.FlowOk(net, flow) {
				t.Fatalf("a flow of %v: %v", net, flow)
			}
		}
	}
}

func TestP2NoPipesHaveANilFlow(t *testing.T) {
	for _, pipes := range [][]impl.Pipe{nil, {}} {
		net := impl.Net{Nodes: 2, Pipes: pipes}
		if !impl.FlowOk(net, nil) || !impl.FlowOk(net, []int{}) || impl.FlowOk(net, []int{0}) {
			t.Errorf("flows of %#v", net)
		}
	}
}

func TestP2OthersHaveNoFlows(t *testing.T) {
	for why, net := range badNets() {
		if impl.FlowOk(net, filled(net, 0)) {
			t.Errorf("%s: a flow", why)
		}
	}
}

func TestP3OverAllNodesTheExcessIsNothing(t *testing.T) {
	for _, net := range goodNets() {
		turned := impl.TurnedNet(net)
		for _, flow := range someFlows(net) {
			sum := 0
			for node, want := range excesses(net, flow) {
				n := excessAt(t, net, flow, node)
				if n != want {
					t.Fatalf("excess of %v in %v at %d is %d, not %d", flow, net, node, n, want)
				}
				if m := excessAt(t, turned, flow, node); m != -n {
					t.Fatalf("excess of %v in %v turned at %d is %d, not %d", flow, net, node, m, -n)
				}
				sum += n
			}
			if sum != 0 {
				t.Fatalf("excess of %v in %v is together %d", flow, net, sum)
			}
		}
	}
}

func TestP3PipesWithTheSameEnds(t *testing.T) {
	net := sameEndsNet()
	flow := []int{1, 2, 4, 8, 16, 32, 40}
	if n := excessAt(t, net, flow, 0); n != 8+32+40-1-2-4-16 {
		t.Errorf("excess at 0 is %d", n)
	}
	if n := excessAt(t, net, flow, 1); n != 1+2+4+16-8-32-40 {
		t.Errorf("excess at 1 is %d", n)
	}
}

func TestP3NodesWithoutPipesHaveNone(t *testing.T) {
	for node := range impl.MaxNodes {
		if n := excessAt(t, impl.Net{Nodes: impl.MaxNodes}, nil, node); n != 0 {
			t.Errorf("excess at %d is %d", node, n)
		}
	}
	lone := impl.Net{Nodes: 3, Pipes: []impl.Pipe{{From: 0, To: 1}}}
	if n := excessAt(t, lone, []int{impl.MaxFlow}, 2); n != 0 {
		t.Errorf("excess at a node that no pipe has is %d", n)
	}
}

func TestP3OthersHaveNoExcess(t *testing.T) {
	none := func(net impl.Net, flow []int, node int) {
		t.Helper()
		if n, ok := impl.ExcessAt(net, flow, node); n != 0 || ok {
			t.Errorf("excess of %v in %v at %d is %d, %v", flow, net, node, n, ok)
		}
	}
	for _, net := range goodNets() {
		for _, node := range []int{-1, net.Nodes, net.Nodes + 1, math.MinInt, math.MaxInt} {
			none(net, filled(net, 1), node)
		}
		for _, flow := range badFlows(net) {
			none(net, flow, 0)
		}
	}
	for _, net := range badNets() {
		none(net, filled(net, 1), 0)
	}
}

func TestP4BalancedButForOneNodeIsBalanced(t *testing.T) {
	rings := 0
	for _, net := range goodNets() {
		if len(net.Pipes) > 6 {
			continue
		}
		turned := impl.TurnedNet(net)
		for _, flow := range smallFlows(net, 2) {
			want := true
			for node := range net.Nodes - 1 {
				want = want && excessAt(t, net, flow, node) == 0
			}
			if impl.BalancedOk(net, flow) != want || want != allZero(excesses(net, flow)) {
				t.Fatalf("%v in %v: not balanced is %v", flow, net, !want)
			}
			if impl.BalancedOk(turned, flow) != want {
				t.Fatalf("%v in %v turned: not %v", flow, net, want)
			}
			if want && !allZero(flow) {
				rings++
			}
		}
	}
	if rings == 0 {
		t.Fatal("no balanced flow but empty pipes was tried")
	}
}

func TestP4RingsAreBalanced(t *testing.T) {
	net := ringNet()
	for _, flow := range [][]int{{0, 0, 0, 0, 0}, {1, 1, 1, 0, 0}, {2, 5, 5, 3, 0}, {0, 0, 0, 40, 40}, {0, 40, 40, 40, 0}} {
		if !impl.BalancedOk(net, flow) {
			t.Errorf("not balanced: %v", flow)
		}
	}
	for _, flow := range [][]int{{1, 0, 0, 0, 0}, {1, 1, 0, 0, 0}, {1, 1, 2, 0, 0}, {0, 0, 0, 0, 1}} {
		if impl.BalancedOk(net, flow) {
			t.Errorf("balanced: %v", flow)
		}
	}
	if !impl.BalancedOk(impl.Net{Nodes: 2}, nil) || !impl.BalancedOk(impl.Net{Nodes: 2}, []int{}) {
		t.Error("not balanced: no pipes")
	}
}

func TestP4OthersAreNotBalanced(t *testing.T) {
	for _, net := range goodNets() {
		for _, flow := range badFlows(net) {
			if impl.BalancedOk(net, flow) {
				t.Fatalf("balanced: %v in %v", flow, net)
			}
		}
	}
	pair := impl.Net{Nodes: 2, Pipes: []impl.Pipe{{From: 0, To: 1}, {From: 1, To: 0}}}
	for _, amount := range []int{-1, impl.MaxFlow + 1, math.MaxInt} {
		if impl.BalancedOk(pair, []int{amount, amount}) {
			t.Errorf("balanced: %d in both pipes of a ring", amount)
		}
	}
	for why, net := range badNets() {
		if impl.BalancedOk(net, filled(net, 0)) {
			t.Errorf("%s: balanced", why)
		}
	}
}

func TestP5LeastAndMostAmountsAreHeld(t *testing.T) {
	for _, net := range goodNets() {
		turned := impl.TurnedNet(net)
		least := amountsOf(net, func(p impl.Pipe) int { return p.Least })
		most := amountsOf(net, func(p impl.Pipe) int { return p.Most })
		for _, flow := range [][]int{least, most} {
			if !impl.HoldsOk(net, flow) || !impl.HoldsOk(turned, flow) {
				t.Fatalf("not held: %v in %v", flow, net)
			}
		}
		for at := range net.Pipes {
			for _, flow := range [][]int{changed(least, at, -1), changed(most, at, 1)} {
				if impl.HoldsOk(net, flow) || impl.HoldsOk(turned, flow) {
					t.Fatalf("held: %v in %v", flow, net)
				}
			}
		}
	}
}

func changed(flow []int, at, by int) []int {
	flow = slices.Clone(flow)
	flow[at] += by
	return flow
}

func TestP5EachAmountOfEachPipe(t *testing.T) {
	for _, net := range goodNets() {
		if len(net.Pipes) > 4 {
			continue
		}
		turned := impl.TurnedNet(net)
		for _, flow := range smallFlows(net, impl.MaxHold+1) {
			want := true
			for at, p := range net.Pipes {
				want = want && p.Least <= flow[at] && flow[at] <= p.Most
			}
			if impl.HoldsOk(net, flow) != want || impl.HoldsOk(turned, flow) != want {
				t.Fatalf("held %v in %v: not %v", flow, net, want)
			}
		}
	}
}

func TestP5OthersAreNotHeld(t *testing.T) {
	for _, pipes := range [][]impl.Pipe{nil, {}} {
		net := impl.Net{Nodes: 2, Pipes: pipes}
		if !impl.HoldsOk(net, nil) || !impl.HoldsOk(net, []int{}) || impl.HoldsOk(net, []int{0}) {
			t.Error("flows of no pipes")
		}
	}
	for _, net := range goodNets() {
		for _, flow := range badFlows(net) {
			if impl.HoldsOk(net, flow) {
				t.Fatalf("held: %v in %v", flow, net)
			}
		}
	}
	for why, net := range badNets() {
		least := amountsOf(net, func(p impl.Pipe) int { return p.Least })
		if impl.HoldsOk(net, least) || impl.HoldsOk(net, filled(net, 0)) {
			t.Errorf("%s: held", why)
		}
	}
}

func TestP6BalancedFlowsAreAdded(t *testing.T) {
	for _, net := range goodNets() {
		flows := someFlows(net)
		for _, a := range flows {
			for _, b := range flows {
				checkBoth(t, net, a, b)
			}
		}
	}
}

func checkBoth(t *testing.T, net impl.Net, a, b []int) {
	t.Helper()
	want := slices.Clone(a)
	for at := range want {
		want[at] += b[at]
	}
	fits := len(want) == 0 || slices.Max(want) <= impl.MaxFlow
	both, ok := impl.BothFlows(net, a, b)
	swapped, swappedOk := impl.BothFlows(net, b, a)
	if ok != fits || swappedOk != fits || !slices.Equal(both, swapped) {
		t.Fatalf("%v and %v in %v: %v, %v and %v, %v", a, b, net, both, ok, swapped, swappedOk)
	}
	if !fits {
		if both != nil {
			t.Fatalf("%v and %v in %v: %v beside false", a, b, net, both)
		}
		return
	}
	if !slices.Equal(both, want) {
		t.Fatalf("%v and %v in %v: %v", a, b, net, both)
	}
	for node := range net.Nodes {
		if excessAt(t, net, both, node) != excessAt(t, net, a, node)+excessAt(t, net, b, node) {
			t.Fatalf("%v and %v in %v: excess at %d", a, b, net, node)
		}
	}
	if impl.BalancedOk(net, a) && impl.BalancedOk(net, b) && !impl.BalancedOk(net, both) {
		t.Fatalf("%v and %v in %v: not balanced", a, b, net)
	}
}

func TestP6RingsAreAdded(t *testing.T) {
	net := ringNet()
	both, ok := impl.BothFlows(net, []int{1, 1, 1, 0, 0}, []int{0, 39, 39, 40, 1})
	if !ok || !slices.Equal(both, []int{1, 40, 40, 40, 1}) || !impl.BalancedOk(net, both) {
		t.Errorf("both: %v, %v", both, ok)
	}
	if both, ok := impl.BothFlows(net, []int{1, 1, 1, 0, 0}, []int{0, 40, 40, 40, 0}); ok || both != nil {
		t.Errorf("past the bound: %v, %v", both, ok)
	}
	for _, none := range [][]int{nil, {}} {
		if both, ok := impl.BothFlows(impl.Net{Nodes: 2}, none, nil); !ok || len(both) != 0 {
			t.Errorf("no pipes: %v, %v", both, ok)
		}
	}
}

func TestP6OthersAreNotAdded(t *testing.T) {
	none := func(net impl.Net, a, b []int) {
		t.Helper()
		if both, ok := impl.BothFlows(net, a, b); both != nil || ok {
			t.Errorf("%v and %v in %v: %v, %v", a, b, net, both, ok)
		}
	}
	for _, net := range goodNets() {
		good := filled(net, 1)
		for _, bad := range badFlows(net) {
			none(net, good, bad)
			none(net, bad, good)
			none(net, bad, bad)
		}
	}
	for _, net := range badNets() {
		none(net, filled(net, 0), filled(net, 0))
	}
	one := impl.Net{Nodes: 2, Pipes: []impl.Pipe{{From: 0, To: 1}}}
	none(one, []int{impl.MaxFlow + 1}, []int{-1})
	none(one, []int{-1}, []int{2})
}

func TestP6SumsAreNewMemory(t *testing.T) {
	net := ringNet()
	a, b := roomy([]int{1, 1, 1, 0, 0}), roomy([]int{0, 0, 0, 2, 2})
	wholeA, wholeB := slices.Clone(a[:cap(a)]), slices.Clone(b[:cap(b)])
	for _, order := range [][2][]int{{a, b}, {b, a}, {a, a}} {
		both, _ := impl.BothFlows(net, order[0], order[1])
		for at := range both {
			both[at] = -1
		}
		_ = append(both, -1)
		if !slices.Equal(a[:cap(a)], wholeA) || !slices.Equal(b[:cap(b)], wholeB) {
			t.Fatal("an argument is written to, or shared")
		}
	}
}

// roomy gives a row spare memory behind it, enough for a row as long, in which a write would show.
func roomy[T any](row []T) []T {
	return append(make([]T, 0, 2*len(row)+1), row...)
}

func TestP7TurnedTwiceItIsAsBefore(t *testing.T) {
	for _, net := range goodNets() {
		before := copied(net)
		turned := impl.TurnedNet(net)
		if !impl.NetOk(turned) || turned.Nodes != net.Nodes || len(turned.Pipes) != len(net.Pipes) {
			t.Fatalf("%v turned: %v", net, turned)
		}
		for at, p := range turned.Pipes {
			was := net.Pipes[at]
			if p != (impl.Pipe{From: was.To, To: was.From, Least: was.Least, Most: was.Most, Cost: was.Cost}) {
				t.Fatalf("%v turned: %v", was, p)
			}
		}
		if twice := impl.TurnedNet(turned); !sameNet(twice, before) || !sameNet(net, before) {
			t.Fatalf("%v turned twice: %v", before, twice)
		}
	}
}

func TestP7NodesAloneAreTurned(t *testing.T) {
	for _, pipes := range [][]impl.Pipe{nil, {}} {
		if turned := impl.TurnedNet(impl.Net{Nodes: 3, Pipes: pipes}); turned.Nodes != 3 || len(turned.Pipes) != 0 {
			t.Errorf("three nodes alone turned: %v", turned)
		}
	}
}

func TestP7OthersAreNotTurned(t *testing.T) {
	for why, net := range badNets() {
		if turned := impl.TurnedNet(net); turned.Nodes != 0 || turned.Pipes != nil {
			t.Errorf("%s: turned to %v", why, turned)
		}
	}
}

func TestP7TurnedNetsAreNewMemory(t *testing.T) {
	net := ringNet()
	net.Pipes = roomy(net.Pipes)
	whole := slices.Clone(net.Pipes[:cap(net.Pipes)])
	turned := impl.TurnedNet(net)
	for at := range turned.Pipes {
		turned.Pipes[at].Cost = 7
	}
	_ = append(turned.Pipes, impl.Pipe{Cost: 7})
	if !slices.Equal(net.Pipes[:cap(net.Pipes)], whole) {
		t.Fatal("the argument is written to, or shared")
	}
}

func TestNetsAreOnlyRead(t *testing.T) {
	for _, net := range []impl.Net{exampleNet(), ringNet(), sameEndsNet()} {
		before, flow := copied(net), filled(net, 1)
		impl.NetOk(net)
		impl.FlowOk(net, flow)
		impl.ExcessAt(net, flow, 0)
		impl.BalancedOk(net, flow)
		impl.HoldsOk(net, flow)
		impl.BothFlows(net, flow, flow)
		if !sameNet(net, before) || !slices.Equal(flow, filled(net, 1)) {
			t.Fatalf("changed: %v, %v", net, flow)
		}
	}
}
