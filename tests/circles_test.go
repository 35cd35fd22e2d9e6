package tests

import (
	"math"
	"slices"
	"testing"

	"loop.example/balancedpipes/impl"
)

// tightNet has a ring whose pipes hold just one amount each, the same one.
func tightNet() impl.Net {
	return impl.Net{Nodes: 3, Pipes: []impl.Pipe{
		{From: 0, To: 1, Least: 2, Most: 2},
		{From: 1, To: 2, Least: 2, Most: 2},
		{From: 2, To: 0, Least: 2, Most: 2},
	}}
}

// dryNet has a pipe that may not be empty, and no other pipe to bring back what it takes.
func dryNet() impl.Net {
	return impl.Net{Nodes: 2, Pipes: []impl.Pipe{{From: 0, To: 1, Least: 1, Most: 4}}}
}

// forkNet has too much at node 2, and a lack at node 0, to which there are two ways, and at node 1, which is on one of them.
func forkNet() impl.Net {
	return impl.Net{Nodes: 3, Pipes: []impl.Pipe{
		{From: 0, To: 2, Least: 3, Most: 3},
		{From: 1, To: 2, Least: 1, Most: 1},
		{From: 2, To: 0, Most: 1},
		{From: 2, To: 1, Most: 4},
		{From: 1, To: 0, Most: 4},
	}}
}

// crossNet has too much at nodes 0 and 1, and a lack at 2 and 3: what 0 gives 2 at first, 1 has to give, so that 0 can give 3.
func crossNet() impl.Net {
	return impl.Net{Nodes: 4, Pipes: []impl.Pipe{
		{From: 2, To: 0, Least: 1, Most: 1},
		{From: 3, To: 1, Least: 1, Most: 1},
		{From: 0, To: 2, Most: 1},
		{From: 0, To: 3, Most: 1},
		{From: 1, To: 2, Most: 1},
	}}
}

// fedNet is a drawn net with two pipes that may not be empty, and others that hold little.
func (d *draws) fedNet() impl.Net {
	net := impl.Net{Nodes: 3 + d.below(impl.MaxNodes-2)}
	for at := range 4 + d.below(impl.MaxPipes-3) {
		p := d.pipe(net.Nodes)
		p.Least, p.Most = 0, 1+d.below(2)
		if at < 2 {
			p.Least = p.Most
		}
		net.Pipes = append(net.Pipes, p)
	}
	return net
}

// roundNet is a drawn net whose pipes hold a drawn sum of its rings, or nearly so.
func (d *draws) roundNet() impl.Net {
	net := impl.Net{Nodes: 2 + d.below(impl.MaxNodes-1)}
	for range 3 + d.below(impl.MaxPipes-2) {
		net.Pipes = append(net.Pipes, d.pipe(net.Nodes))
	}
	for at, amount := range sumOf(net, ringsIn(net), 2, d) {
		amount = min(amount, impl.MaxHold)
		net.Pipes[at].Least = max(0, amount-d.below(2)*d.below(4))
		net.Pipes[at].Most = min(impl.MaxHold, amount+d.below(4))
	}
	return net
}

// circleNets are the good nets, of which few have a circulation, and more nets that have one, or nearly so.
func circleNets() []impl.Net {
	nets := append(goodNets(), tightNet(), dryNet(), forkNet(), crossNet(), pairNet(), eightNet(), loopNet(), greatRingNet(), zigzagNet(), bothWaysNet(), twinsNet(), leastNet())
	d := &draws{state: 5}
	for range 300 {
		nets = append(nets, d.roundNet(), d.fedNet(), d.fedNet())
	}
	return nets
}

// allCirculations are all balanced flows that all pipes of a net hold, one by one.
func allCirculations(net impl.Net) [][]int {
	return slices.DeleteFunc(allHeldFlows(net), func(flow []int) bool { return !allZero(excesses(net, flow)) })
}

// circling tells what a test of circulations has come across.
type circling struct{ pushes, back, past, full, given, taken int }

func wantCirculation(net impl.Net, seen *circling) ([]int, bool) {
	return wantFed(net, leastFlow(net), make([]int, net.Nodes), seen)
}

// overs tells for each node by how much its excess is more than it needs.
func overs(net impl.Net, flow, needs []int) []int {
	over := excesses(net, flow)
	for node, need := range needs {
		over[node] -= need
	}
	return over
}

// wantFed pushes one by one, from the first node with too much to the first one with a lack that can be come to.
func wantFed(net impl.Net, flow, needs []int, seen *circling) ([]int, bool) {
	for {
		over := overs(net, flow, needs)
		from := slices.IndexFunc(over, func(n int) bool { return n > 0 })
		if from < 0 {
			return flow, true
		}
		way, to := wantWayToLack(net, flow, over, from, seen)
		if way == nil {
			return nil, false
		}
		more := wantAlong(net, flow, way, func(flow []int) bool {
			after := overs(net, flow, needs)
			return after[from] >= 0 && after[to] <= 0
		})
		seen.push(over, overs(net, more, needs), way, from, to)
		flow = more
	}
}

func wantWayToLack(net impl.Net, flow, over []int, from int, seen *circling) (way []int, to int) {
	past := false
	for node, n := range over {
		if n >= 0 {
			continue
		}
		if way = wantWay(net, flow, from, node); way != nil {
			if past {
				seen.past++
			}
			return way, node
		}
		past = true
	}
	return nil, 0
}

func (c *circling) push(before, after, way []int, from, to int) {
	c.pushes++
	if slices.ContainsFunc(way, func(step int) bool { return step%2 == 1 }) {
		c.back++
	}
	switch {
	case after[from] > 0 && after[to] < 0:
		c.full++
	case after[from] == 0 && before[from] < -before[to]:
		c.given++
	case after[to] == 0 && before[from] > -before[to]:
		c.taken++
	}
}

// wantBlocking tries all sides, one by one, without asking the program.
func wantBlocking(net impl.Net) (int, bool) {
	for side := 0; side <= allNodes(net); side++ {
		if wantRoom(net, side) < 0 {
			return side, true
		}
	}
	return -1, false
}

// fixedAt is the net with one pipe that holds just one amount.
func fixedAt(net impl.Net, at, amount int) impl.Net {
	net = copied(net)
	net.Pipes[at].Least, net.Pipes[at].Most = amount, amount
	return net
}

// forNoNets tries what is no net, also such that would have a circulation, or a side that blocks, if they were.
func forNoNets(try func(net impl.Net)) {
	for _, net := range badNets() {
		try(net)
	}
	for _, net := range badRingNets() {
		try(net)
		try(fixedAt(net, 0, 1))
	}
	for _, pipe := range badPipes() {
		try(impl.Net{Nodes: 3, Pipes: append(tightNet().Pipes, pipe)})
		try(impl.Net{Nodes: 3, Pipes: append(dryNet().Pipes, pipe)})
	}
	try(impl.Net{Nodes: 1, Pipes: dryNet().Pipes})
	try(impl.Net{Nodes: impl.MaxNodes + 1, Pipes: dryNet().Pipes})
}

func blockingSide(t *testing.T, net impl.Net) (int, bool) {
	t.Helper()
	side, ok := impl.BlockingSide(net)
	if !ok && side != -1 {
		t.Fatalf("the side that blocks %v is %d, %v", net, side, ok)
	}
	return side, ok
}

func circulates(t *testing.T, net impl.Net) bool {
	t.Helper()
	flow, ok := impl.CirculationOf(net)
	if !ok && len(flow) != 0 {
		t.Fatalf("the circulation of %v is %v, %v", net, flow, ok)
	}
	return ok
}

func withPipe(t *testing.T, net impl.Net, p impl.Pipe) impl.Net {
	t.Helper()
	more, ok := impl.WithPipe(net, p)
	if !ok {
		t.Fatalf("%v with %v is not told", net, p)
	}
	return more
}

func TestP28ThereIsACirculationJustIfNoSideBlocks(t *testing.T) {
	seen, some, none := &circling{}, 0, 0
	for _, net := range circleNets() {
		flow, ok := impl.CirculationOf(net)
		if want, wantOk := wantCirculation(net, seen); ok != wantOk || !slices.Equal(flow, want) {
			t.Fatalf("the circulation of %v is %v, %v, not %v, %v", net, flow, ok, want, wantOk)
		}
		if _, blocks := blockingSide(t, net); blocks == ok {
			t.Fatalf("the circulation of %v is %v, %v, and a side blocks: %v", net, flow, ok, blocks)
		}
		if ok != (len(allCirculations(net)) > 0) {
			t.Fatalf("the circulation of %v is %v, %v, but not one by one", net, flow, ok)
		}
		if !ok {
			none++
			continue
		}
		if !impl.BalancedOk(net, flow) || !impl.HoldsOk(net, flow) {
			t.Fatalf("the circulation of %v is %v", net, flow)
		}
		if !allZero(flow) {
			some++
		}
	}
	if some < 100 || none < 100 {
		t.Fatalf("%d circulations were tried, and %d nets without one", some, none)
	}
	if seen.back == 0 || seen.past == 0 || seen.full == 0 || seen.given == 0 || seen.taken == 0 {
		t.Fatalf("not each kind of push was tried: %+v", *seen)
	}
}

func TestP28FromTheLeastNodeToTheLeastOne(t *testing.T) {
	far := impl.Net{Nodes: 3, Pipes: []impl.Pipe{
		{From: 0, To: 2, Least: 1, Most: 1},
		{From: 1, To: 2, Least: 1, Most: 1},
		{From: 2, To: 1, Most: 2},
		{From: 1, To: 0, Most: 1},
	}}
	back := impl.Net{Nodes: 3, Pipes: []impl.Pipe{
		{From: 0, To: 1, Least: 2, Most: 4},
		{From: 0, To: 2, Most: 3},
		{From: 2, To: 0, Least: 1, Most: 1},
		{From: 1, To: 2, Most: 4},
		{From: 2, To: 0, Most: 4},
	}}
	for _, c := range []struct {
		why  string
		net  impl.Net
		want []int
	}{
		{"a push back by the shortest way", impl.Net{Nodes: 3, Pipes: []impl.Pipe{{From: 0, To: 1, Least: 2, Most: 3}, {From: 1, To: 2, Most: 1}, {From: 2, To: 0, Most: 3}, {From: 1, To: 0, Most: 3}}}, []int{2, 0, 0, 2}},
		{"a longer way where the shortest one is full", impl.Net{Nodes: 3, Pipes: []impl.Pipe{{From: 0, To: 1, Least: 3, Most: 3}, {From: 1, To: 2, Most: 2}, {From: 2, To: 0, Most: 3}, {From: 1, To: 0, Most: 1}}}, []int{3, 2, 2, 1}},
		{"the first one of two pipes", impl.Net{Nodes: 2, Pipes: []impl.Pipe{{From: 0, To: 1, Least: 3, Most: 4}, {From: 1, To: 0, Most: 2}, {From: 1, To: 0, Most: 4}}}, []int{3, 2, 1}},
		{"by no more than there is", impl.Net{Nodes: 2, Pipes: []impl.Pipe{{From: 0, To: 1, Least: 1, Most: 4}, {From: 1, To: 0, Most: 4}}}, []int{1, 1}},
		{"the least lack first, though it is farther", far, []int{1, 1, 2, 1}},
		{"a lack with two ways", forkNet(), []int{3, 1, 1, 3, 2}},
		{"from two nodes to one", impl.Net{Nodes: 3, Pipes: []impl.Pipe{{From: 2, To: 0, Least: 1, Most: 1}, {From: 2, To: 1, Least: 1, Most: 1}, {From: 0, To: 1, Most: 4}, {From: 1, To: 2, Most: 4}, {From: 0, To: 2, Most: 1}}}, []int{1, 1, 0, 1, 1}},
		{"an excess that waits until the least one is gone", back, []int{2, 0, 1, 2, 1}},
		{"a lack that cannot be come to is passed over", impl.Net{Nodes: 4, Pipes: []impl.Pipe{{From: 0, To: 3, Least: 1, Most: 1}, {From: 1, To: 2, Least: 1, Most: 1}, {From: 2, To: 1, Most: 1}, {From: 3, To: 0, Most: 1}}}, []int{1, 1, 1, 1}},
		{"what was pushed goes back", crossNet(), []int{1, 1, 0, 1, 1}},
		{"as many pipes as may be", sameEndsNet(), []int{0, 0, 0, 1, 4, 1, 2}},
		{"balanced from the first on", impl.Net{Nodes: 2, Pipes: []impl.Pipe{{From: 0, To: 1, Least: 2, Most: 4}, {From: 1, To: 0, Least: 2, Most: 3}}}, []int{2, 2}},
		{"free nets stay empty", exampleNet(), []int{0, 0, 0, 0, 0}},
		{"pipes of one amount each", tightNet(), []int{2, 2, 2}},
	} {
		if flow, ok := impl.CirculationOf(c.net); !ok || !slices.Equal(flow, c.want) {
			t.Errorf("%s: the circulation of %v is %v, %v, not %v", c.why, c.net, flow, ok, c.want)
		}
	}
}

func TestP28PipesOfOneAmountCirculateIfBalanced(t *testing.T) {
	balanced, others := 0, 0
	for _, net := range circleNets() {
		flows := [][]int{leastFlow(net), amountsOf(net, func(p impl.Pipe) int { return p.Most })}
		for _, flow := range append(flows, allCirculations(net)...) {
			fixed := copied(net)
			for at, amount := range flow {
				fixed = fixedAt(fixed, at, amount)
			}
			want := allZero(excesses(net, flow))
			got, ok := impl.CirculationOf(fixed)
			if ok != want || ok && !slices.Equal(got, flow) || !ok && len(got) != 0 {
				t.Fatalf("the circulation of %v is %v, %v", fixed, got, ok)
			}
			if want {
				balanced++
			} else {
				others++
			}
		}
	}
	if balanced == 0 || others == 0 {
		t.Fatalf("%d balanced flows were tried, and %d others", balanced, others)
	}
}

func TestP28NoFlowCanBalance(t *testing.T) {
	for _, net := range []impl.Net{
		dryNet(),
		leastNet(),
		{Nodes: 2, Pipes: []impl.Pipe{{From: 1, To: 0, Least: 4, Most: 4}}},
		{Nodes: 2, Pipes: []impl.Pipe{{From: 0, To: 1, Least: 3, Most: 3}, {From: 1, To: 0, Least: 2, Most: 2}}},
		{Nodes: 2, Pipes: []impl.Pipe{{From: 0, To: 1, Least: 3, Most: 4}, {From: 1, To: 0, Most: 2}}},
		{Nodes: 3, Pipes: []impl.Pipe{{From: 0, To: 1, Least: 2, Most: 3}, {From: 1, To: 2, Most: 1}, {From: 2, To: 0, Most: 3}}},
		{Nodes: 5, Pipes: []impl.Pipe{{From: 0, To: 1, Least: 1, Most: 1}, {From: 1, To: 0, Least: 1, Most: 1}, {From: 3, To: 4, Least: 1, Most: 1}}},
	} {
		if flow, ok := impl.CirculationOf(net); len(flow) != 0 || ok {
			t.Errorf("the circulation of %v is %v, %v", net, flow, ok)
		}
		if _, ok := impl.BlockingSide(net); !ok {
			t.Errorf("no side blocks %v", net)
		}
	}
}

func TestP28NodesAloneHaveACirculation(t *testing.T) {
	for nodes := 2; nodes <= impl.MaxNodes; nodes++ {
		for _, pipes := range [][]impl.Pipe{nil, {}} {
			if flow, ok := impl.CirculationOf(impl.Net{Nodes: nodes, Pipes: pipes}); len(flow) != 0 || !ok {
				t.Errorf("the circulation of %d nodes alone is %v, %v", nodes, flow, ok)
			}
		}
	}
}

func TestP28OthersHaveNoCirculation(t *testing.T) {
	forNoNets(func(net impl.Net) {
		if flow, ok := impl.CirculationOf(net); len(flow) != 0 || ok {
			t.Errorf("the circulation of %v is %v, %v", net, flow, ok)
		}
	})
}

func TestP29MoreMustComeInThanCanGoOut(t *testing.T) {
	blocked, free := 0, 0
	for _, net := range circleNets() {
		side, ok := blockingSide(t, net)
		if want, wantOk := wantBlocking(net); side != want || ok != wantOk {
			t.Fatalf("the side that blocks %v is %d, %v, not %d, %v", net, side, ok, want, wantOk)
		}
		turned := impl.TurnedNet(net)
		if _, back := blockingSide(t, turned); back != ok {
			t.Fatalf("a side blocks %v: %v, but turned: %v", net, ok, back)
		}
		if !ok {
			free++
			continue
		}
		blocked++
		if roomOf(t, net, side) >= 0 || roomOf(t, turned, allNodes(net)-side) >= 0 {
			t.Fatalf("the room of %d in %v is not less than 0, or turned that of the others", side, net)
		}
		for lesser := range side {
			if roomOf(t, net, lesser) < 0 {
				t.Fatalf("the side that blocks %v is %d, but %d does", net, side, lesser)
			}
		}
	}
	if blocked < 100 || free < 100 {
		t.Fatalf("%d nets were tried that a side blocks, and %d others", blocked, free)
	}
}

func TestP29TheLeastSideThatBlocks(t *testing.T) {
	for _, c := range []struct {
		net  impl.Net
		want int
	}{
		{dryNet(), 2},
		{impl.TurnedNet(dryNet()), 1},
		{leastNet(), 4},
		{impl.TurnedNet(leastNet()), 1},
		{sameEndsNet(), -1},
		{impl.Net{Nodes: 3, Pipes: []impl.Pipe{{From: 0, To: 1, Least: 2, Most: 3}, {From: 1, To: 2, Most: 1}, {From: 2, To: 0, Most: 3}}}, 2},
		{impl.Net{Nodes: 3, Pipes: []impl.Pipe{{From: 0, To: 1, Least: 2, Most: 3}, {From: 1, To: 2, Most: 2}, {From: 2, To: 0, Most: 1}}}, 6},
		{impl.Net{Nodes: 3, Pipes: []impl.Pipe{{From: 1, To: 0, Least: 2, Most: 3}, {From: 0, To: 2, Most: 4}, {From: 2, To: 1, Most: 1}}}, 5},
		{impl.Net{Nodes: 5, Pipes: []impl.Pipe{{From: 0, To: 4, Least: 1, Most: 1}}}, 16},
		{impl.Net{Nodes: 5, Pipes: []impl.Pipe{{From: 4, To: 0, Least: 1, Most: 1}, {From: 0, To: 1, Most: 4}, {From: 1, To: 2, Most: 4}, {From: 2, To: 3, Most: 4}}}, 15},
		{impl.Net{Nodes: 2, Pipes: []impl.Pipe{{From: 0, To: 1, Least: 2, Most: 2}, {From: 1, To: 0, Least: 3, Most: 3}}}, 1},
		{impl.Net{Nodes: 2, Pipes: []impl.Pipe{{From: 0, To: 1, Least: 3, Most: 3}, {From: 1, To: 0, Least: 2, Most: 2}}}, 2},
	} {
		if side, ok := impl.BlockingSide(c.net); side != c.want || ok != (c.want >= 0) {
			t.Errorf("the side that blocks %v is %d, %v, not %d", c.net, side, ok, c.want)
		}
	}
}

func TestP29NoSideBlocks(t *testing.T) {
	nets := []impl.Net{exampleNet(), tightNet(), forkNet(), pairNet(), ringNet()}
	for nodes := 2; nodes <= impl.MaxNodes; nodes++ {
		nets = append(nets, impl.Net{Nodes: nodes}, impl.Net{Nodes: nodes, Pipes: []impl.Pipe{}})
	}
	for _, net := range append(nets, freeNets()...) {
		if side, ok := impl.BlockingSide(net); side != -1 || ok {
			t.Errorf("the side that blocks %v is %d, %v", net, side, ok)
		}
	}
}

func TestP29OthersAreNotBlocked(t *testing.T) {
	forNoNets(func(net impl.Net) {
		if side, ok := impl.BlockingSide(net); side != -1 || ok {
			t.Errorf("the side that blocks %v is %d, %v", net, side, ok)
		}
	})
}

func TestP30CirculationsAreByTheAmountOfAPipe(t *testing.T) {
	some, none := 0, 0
	for _, net := range circleNets() {
		if len(net.Pipes) > 5 {
			continue
		}
		count := impl.CountCirculations(net)
		if want := len(allCirculations(net)); count != want {
			t.Fatalf("%v has %d circulations, not %d", net, count, want)
		}
		if (count > 0) != circulates(t, net) {
			t.Fatalf("%v has %d circulations", net, count)
		}
		if turned := impl.CountCirculations(impl.TurnedNet(net)); turned != count {
			t.Fatalf("%v has %d circulations, but %d turned", net, count, turned)
		}
		for at, p := range net.Pipes {
			if p.Least == p.Most {
				continue
			}
			others := copied(net)
			others.Pipes[at].Least++
			if parts := impl.CountCirculations(fixedAt(net, at, p.Least)) + impl.CountCirculations(others); parts != count {
				t.Fatalf("%v has %d circulations, but %d by the amount of %d", net, count, parts, at)
			}
		}
		if count > 1 {
			some++
		} else if count == 0 {
			none++
		}
	}
	if some < 50 || none < 50 {
		t.Fatalf("%d nets with circulations were tried, and %d without", some, none)
	}
}

func TestP30CountedOneByOne(t *testing.T) {
	wide := impl.Pipe{From: 0, To: 1, Most: impl.MaxHold}
	back := impl.Pipe{From: 1, To: 0, Most: impl.MaxHold}
	for _, c := range []struct {
		why  string
		net  impl.Net
		want int
	}{
		{"no pipes", impl.Net{Nodes: 2}, 1},
		{"no pipes", impl.Net{Nodes: 5, Pipes: []impl.Pipe{}}, 1},
		{"a pipe that may be empty", impl.Net{Nodes: 2, Pipes: []impl.Pipe{wide}}, 1},
		{"a pipe that may not be empty", dryNet(), 0},
		{"a ring", impl.Net{Nodes: 2, Pipes: []impl.Pipe{wide, back}}, 5},
		{"a ring of pipes of one amount", tightNet(), 1},
		{"a ring of amounts in common", impl.Net{Nodes: 2, Pipes: []impl.Pipe{{From: 0, To: 1, Least: 1, Most: 3}, {From: 1, To: 0, Least: 2, Most: 4}}}, 2},
		{"two rings with a common node", impl.Net{Nodes: 3, Pipes: []impl.Pipe{wide, back, {From: 1, To: 2, Most: 2}, {From: 2, To: 1, Most: 1}}}, 10},
		{"five pipes with the same ends", impl.Net{Nodes: 2, Pipes: []impl.Pipe{wide, wide, wide, wide, back}}, 1 + 4 + 10 + 20 + 35},
		{"five pipes without a ring", exampleNet(), 1},
		{"five pipes with rings", ringNet(), 4},
		{"five pipes of which one is fixed", forkNet(), 2},
		{"five pipes, one of which may not be empty", impl.Net{Nodes: 3, Pipes: append(slices.Repeat([]impl.Pipe{wide}, 4), impl.Pipe{From: 2, To: 0, Least: 1, Most: 4})}, 0},
	} {
		if count := impl.CountCirculations(c.net); count != c.want {
			t.Errorf("%s: %v has %d circulations, not %d", c.why, c.net, count, c.want)
		}
	}
}

func TestP30OfMorePipesNoneAreCounted(t *testing.T) {
	tried := map[int]int{}
	for _, net := range append(circleNets(), freeNets()...) {
		if len(net.Pipes) > 5 {
			tried[len(net.Pipes)]++
			if count := impl.CountCirculations(net); count != -1 {
				t.Fatalf("%v of %d pipes has %d circulations", net, len(net.Pipes), count)
			}
		}
	}
	if tried[6] == 0 || tried[7] == 0 {
		t.Fatalf("nets were tried by their pipes: %v", tried)
	}
	for pipes := 0; pipes <= impl.MaxPipes+1; pipes++ {
		want := 1
		if pipes > 5 {
			want = -1
		}
		if count := impl.CountCirculations(impl.Net{Nodes: 2, Pipes: slices.Repeat([]impl.Pipe{{From: 0, To: 1}}, pipes)}); count != want {
			t.Errorf("%d pipes that hold nothing have %d circulations, not %d", pipes, count, want)
		}
	}
}

func TestP30OthersAreNotCounted(t *testing.T) {
	forNoNets(func(net impl.Net) {
		if count := impl.CountCirculations(net); count != -1 {
			t.Errorf("%v has %d circulations", net, count)
		}
	})
}

func TestP31MorePipesHoldMore(t *testing.T) {
	kept, begun, lost := 0, 0, 0
	d := &draws{state: 31}
	for _, net := range circleNets() {
		if len(net.Pipes) == impl.MaxPipes {
			continue
		}
		for range 4 {
			p := d.pipe(net.Nodes)
			p.Least *= d.below(2)
			before := copied(net)
			more := withPipe(t, net, p)
			want := impl.Net{Nodes: net.Nodes, Pipes: append(copied(net).Pipes, p)}
			if !impl.NetOk(more) || !sameNet(more, want) || !sameNet(net, before) {
				t.Fatalf("%v with %v is %v", before, p, more)
			}
			was, is := circulates(t, net), circulates(t, more)
			switch {
			case was && is:
				kept++
			case was && p.Least == 0:
				t.Fatalf("%v has a circulation, but not with %v", net, p)
			case was:
				lost++
			case is:
				begun++
			}
		}
	}
	if kept == 0 || begun == 0 || lost == 0 {
		t.Fatalf("%d circulations were kept, %d begun, and %d lost", kept, begun, lost)
	}
}

func TestP31AFurtherPipeBehindTheOthers(t *testing.T) {
	p := impl.Pipe{From: 1, To: 0, Least: 1, Most: 4, Cost: -9}
	for _, pipes := range [][]impl.Pipe{nil, {}} {
		if more := withPipe(t, impl.Net{Nodes: 2, Pipes: pipes}, p); !sameNet(more, impl.Net{Nodes: 2, Pipes: []impl.Pipe{p}}) {
			t.Errorf("nodes alone with a pipe are %v", more)
		}
	}
	net := impl.Net{Nodes: 2}
	for pipes := 1; pipes <= impl.MaxPipes; pipes++ {
		p.Cost++
		net = withPipe(t, net, p)
		if len(net.Pipes) != pipes || net.Pipes[pipes-1] != p || net.Pipes[0].Cost != -8 {
			t.Fatalf("with %v it is %v", p, net)
		}
	}
	dry := withPipe(t, dryNet(), impl.Pipe{From: 1, To: 0, Most: 1})
	if flow, ok := impl.CirculationOf(dry); !ok || !slices.Equal(flow, []int{1, 1}) {
		t.Errorf("with a pipe back the circulation is %v, %v", flow, ok)
	}
}

func TestP31OthersGetNoPipe(t *testing.T) {
	none := func(net impl.Net, p impl.Pipe) {
		t.Helper()
		if more, ok := impl.WithPipe(net, p); more.Nodes != 0 || more.Pipes != nil || ok {
			t.Fatalf("%v with %v is %v, %v", net, p, more, ok)
		}
	}
	full := 0
	for _, net := range circleNets() {
		if len(net.Pipes) == impl.MaxPipes {
			full++
			none(net, impl.Pipe{From: 0, To: 1})
		}
		for node := range net.Nodes {
			none(net, impl.Pipe{From: node, To: node, Most: 1})
			for _, no := range []int{-1, -2, net.Nodes, net.Nodes + 1, impl.MaxNodes, math.MinInt, math.MaxInt} {
				none(net, impl.Pipe{From: node, To: no, Most: 1})
				none(net, impl.Pipe{From: no, To: node, Most: 1})
			}
		}
	}
	if full == 0 {
		t.Fatal("no net was tried that has as many pipes as may be")
	}
	for _, p := range badPipes() {
		none(impl.Net{Nodes: 3}, p)
		none(impl.Net{Nodes: 3, Pipes: []impl.Pipe{}}, p)
		none(tightNet(), p)
		none(impl.Net{Nodes: 3, Pipes: slices.Repeat(dryNet().Pipes, impl.MaxPipes)}, p)
	}
	forNoNets(func(net impl.Net) { none(net, impl.Pipe{From: 0, To: 1}) })
}

func TestP32GreatestFlowsAreCirculationsWithAPipeBack(t *testing.T) {
	fits, others, full := 0, 0, 0
	forEnds(append(freeNets(), bothWaysNet(), twinsNet()), func(net impl.Net, from, to int) {
		value := impl.GreatestValue(net, from, to)
		for amount := 0; amount <= impl.MaxHold; amount++ {
			more, ok := impl.WithPipe(net, impl.Pipe{From: to, To: from, Least: amount, Most: amount})
			if ok != (len(net.Pipes) < impl.MaxPipes) {
				t.Fatalf("%v with a pipe back is %v, %v", net, more, ok)
			}
			if !ok {
				full++
				continue
			}
			if circulates(t, more) != (amount <= value) {
				t.Fatalf("%v has a circulation with %d back from %d to %d: not %v", net, amount, to, from, amount <= value)
			}
			if amount > value {
				others++
				continue
			}
			fits++
			flow, _ := impl.CirculationOf(more)
			if last := len(net.Pipes); flow[last] != amount || excessAt(t, net, flow[:last], to) != amount {
				t.Fatalf("the circulation of %v is %v", more, flow)
			}
		}
	})
	if fits == 0 || others == 0 || full == 0 {
		t.Fatalf("%d amounts were tried that fit, %d others, and %d with no room for a pipe", fits, others, full)
	}
}

func TestP32EachAmountBack(t *testing.T) {
	narrow := exampleNet()
	narrow.Pipes[4].Most = 1
	for _, c := range []struct {
		net      impl.Net
		from, to int
		most     int
	}{
		{exampleNet(), 0, 3, 4},
		{exampleNet(), 3, 0, 0},
		{exampleNet(), 1, 2, 1},
		{narrow, 0, 3, 3},
		{zigzagNet(), 0, 3, 2},
		{bothWaysNet(), 1, 0, 2},
		{twinsNet(), 0, 2, 4},
		{impl.Net{Nodes: 2}, 0, 1, 0},
		{impl.Net{Nodes: 3, Pipes: []impl.Pipe{{From: 0, To: 1, Most: 4}}}, 0, 2, 0},
	} {
		for amount := 0; amount <= impl.MaxHold; amount++ {
			more := withPipe(t, c.net, impl.Pipe{From: c.to, To: c.from, Least: amount, Most: amount})
			if circulates(t, more) != (amount <= c.most) {
				t.Errorf("%v has a circulation with %d back from %d to %d: not %v", c.net, amount, c.to, c.from, amount <= c.most)
			}
		}
	}
}

func TestP32NoPipeLeadsBack(t *testing.T) {
	none := func(net impl.Net, from, to, amount int) {
		t.Helper()
		more, ok := impl.WithPipe(net, impl.Pipe{From: to, To: from, Least: amount, Most: amount})
		if ok || more.Pipes != nil || circulates(t, more) {
			t.Fatalf("%v with %d back from %d to %d is %v, %v", net, amount, to, from, more, ok)
		}
	}
	for _, amount := range []int{-1, impl.MaxHold + 1, math.MinInt, math.MaxInt} {
		none(exampleNet(), 0, 3, amount)
		none(impl.Net{Nodes: 2}, 0, 1, amount)
	}
	forNoEnds(func(net impl.Net, from, to int) { none(net, from, to, 0) })
	none(impl.Net{Nodes: 2, Pipes: slices.Repeat([]impl.Pipe{{From: 0, To: 1, Most: 4}}, impl.MaxPipes)}, 0, 1, 1)
}

// backFlow is a flow between two nodes with a pipe back behind the others, that has the excess of the second one.
func backFlow(net impl.Net, flow []int, from, to int) (impl.Net, []int, bool) {
	more, ok := impl.WithPipe(net, impl.Pipe{From: to, To: from})
	return more, append(slices.Clone(flow), excesses(net, flow)[to]), ok
}

func TestP33WithAPipeBackAFlowIsBalanced(t *testing.T) {
	balanced, others, full, both := 0, 0, 0, 0
	forEnds(partNets(), func(net impl.Net, from, to int) {
		for _, flow := range append(flowsFrom(net, from, to), flowsFrom(net, to, from)...) {
			more, flow, ok := backFlow(net, flow, from, to)
			if ok != (len(net.Pipes) < impl.MaxPipes) {
				t.Fatalf("%v with a pipe back is %v, %v", net, more, ok)
			}
			if !ok {
				full++
				continue
			}
			last := len(net.Pipes)
			want := 0 <= flow[last] && flow[last] <= impl.MaxFlow
			if impl.BalancedOk(more, flow) != want {
				t.Fatalf("%v in %v is balanced: not %v", flow, more, want)
			}
			rings := impl.RingsOf(more, flow)
			if !want {
				others++
				if len(rings) != 0 {
					t.Fatalf("rings of %v in %v are %v", flow, more, rings)
				}
				continue
			}
			balanced++
			if back := checkBackRings(t, more, flow, rings); 0 < back && back < len(rings) {
				both++
			}
		}
	})
	if balanced == 0 || others == 0 || full == 0 || both == 0 {
		t.Fatalf("%d balanced flows were tried, %d with rings that do not go back, %d others, and %d with no room for a pipe", balanced, both, others, full)
	}
}

// checkBackRings tells how many of the rings have the last pipe.
func checkBackRings(t *testing.T, net impl.Net, flow []int, rings [][]int) int {
	t.Helper()
	if !slices.Equal(summed(net, rings), flow) {
		t.Fatalf("rings of %v in %v are %v, together another flow", flow, net, rings)
	}
	last, back, amount := len(net.Pipes)-1, 0, 0
	for _, ring := range rings {
		if !impl.RingOk(net, ring[1:]) {
			t.Fatalf("rings of %v in %v are %v: no ring is %v", flow, net, rings, ring)
		}
		if slices.Contains(ring[1:], last) {
			back++
			amount += ring[0]
		}
	}
	if amount != flow[last] {
		t.Fatalf("rings of %v in %v are %v: those with the last pipe have %d", flow, net, rings, amount)
	}
	return back
}

func TestP33RingsWithThePipeBack(t *testing.T) {
	for _, c := range []struct {
		why      string
		net      impl.Net
		flow     []int
		from, to int
		balanced bool
		want     [][]int
	}{
		{"a greatest flow", exampleNet(), []int{3, 2, 1, 2, 3}, 0, 3, true, [][]int{{1, 0, 2, 4, 5}, {2, 0, 3, 5}, {2, 1, 4, 5}}},
		{"from the end to the begin", exampleNet(), []int{3, 2, 1, 2, 3}, 3, 0, false, nil},
		{"a ring, and a thread", loopNet(), []int{2, 5, 3, 2, 0}, 0, 3, true, [][]int{{3, 1, 2}, {2, 0, 1, 3, 5}}},
		{"balanced before", eightNet(), []int{1, 1, 1, 1}, 0, 2, true, [][]int{{1, 1, 2}, {1, 0, 3}}},
		{"empty pipes", exampleNet(), []int{0, 0, 0, 0, 0}, 0, 3, true, nil},
		{"no pipes", impl.Net{Nodes: 2}, nil, 0, 1, true, nil},
		{"the greatest amount", twinsNet(), []int{40, 0, 0, 0, 0}, 0, 1, true, [][]int{{40, 0, 5}}},
		{"past the greatest amount", twinsNet(), []int{40, 1, 0, 0, 0}, 0, 1, false, nil},
		{"an excess at a third node", exampleNet(), []int{3, 2, 1, 2, 2}, 0, 3, false, nil},
	} {
		more, flow, ok := backFlow(c.net, c.flow, c.from, c.to)
		if !ok || impl.BalancedOk(more, flow) != c.balanced {
			t.Errorf("%s: %v in %v is balanced: not %v", c.why, flow, more, c.balanced)
		}
		if rings := impl.RingsOf(more, flow); !sameRows(rings, c.want) {
			t.Errorf("%s: rings of %v in %v are %v, not %v", c.why, flow, more, rings, c.want)
		}
	}
}

func TestP33OthersGetNoPipeBack(t *testing.T) {
	forNoEnds(func(net impl.Net, from, to int) {
		more, ok := impl.WithPipe(net, impl.Pipe{From: to, To: from})
		if ok || impl.BalancedOk(more, []int{0}) || len(impl.RingsOf(more, []int{0})) != 0 {
			t.Fatalf("%v with a pipe from %d to %d is %v, %v", net, to, from, more, ok)
		}
	})
}

func TestCirclesOnlyReadAndShareNothing(t *testing.T) {
	for _, net := range append(circleNets()[:40], forkNet(), tightNet(), dryNet(), pairNet()) {
		net.Pipes = roomy(net.Pipes)
		whole := slices.Clone(net.Pipes[:cap(net.Pipes)])
		impl.BlockingSide(net)
		impl.CountCirculations(net)
		spoiledAgain(t, func() []int { flow, _ := impl.CirculationOf(net); return flow })
		for range 2 {
			more, _ := impl.WithPipe(net, impl.Pipe{From: 0, To: 1, Most: 3})
			for at := range more.Pipes[:cap(more.Pipes)] {
				more.Pipes[:cap(more.Pipes)][at] = impl.Pipe{Cost: 7}
			}
		}
		if !slices.Equal(net.Pipes[:cap(net.Pipes)], whole) {
			t.Fatalf("changed: %v", net)
		}
	}
}
