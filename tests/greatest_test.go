package tests

import (
	"math"
	"slices"
	"testing"

	"loop.example/balancedpipes/impl"
)

// freeNets are the good nets with pipes that may be empty.
func freeNets() []impl.Net {
	nets := []impl.Net{zigzagNet()}
	for _, net := range goodNets() {
		nets = append(nets, freed(net))
	}
	return nets
}

// freed is the net with pipes that may all be empty.
func freed(net impl.Net) impl.Net {
	net = copied(net)
	for at := range net.Pipes {
		net.Pipes[at].Least = 0
	}
	return net
}

// boundNets are nets with a pipe that may not be empty.
func boundNets() []impl.Net {
	nets := []impl.Net{leastNet(), {Nodes: 2, Pipes: []impl.Pipe{{From: 0, To: 1, Most: 2}, {From: 0, To: 1, Least: 1, Most: 1}}}}
	for _, net := range goodNets() {
		if !allZero(leastFlow(net)) {
			nets = append(nets, net)
		}
	}
	return nets
}

// zigzagNet has a thread 0, 1, 2, 3 which takes what two shorter ones need.
func zigzagNet() impl.Net {
	return impl.Net{Nodes: 4, Pipes: []impl.Pipe{
		{From: 0, To: 1, Most: 1},
		{From: 1, To: 2, Most: 1},
		{From: 2, To: 3, Most: 1},
		{From: 0, To: 2, Most: 1},
		{From: 1, To: 3, Most: 1},
	}}
}

// bothWaysNet has pipes that lead against each other, so that steps back and along compete.
func bothWaysNet() impl.Net {
	return impl.Net{Nodes: 2, Pipes: []impl.Pipe{{From: 1, To: 0, Most: 2}, {From: 0, To: 1, Most: 2}}}
}

// twinsNet has pipes with the same ends one behind the other, the first of which holds nothing.
func twinsNet() impl.Net {
	return impl.Net{Nodes: 3, Pipes: []impl.Pipe{
		{From: 0, To: 1},
		{From: 0, To: 1, Most: 2},
		{From: 0, To: 1, Most: 3},
		{From: 1, To: 2, Most: 3},
		{From: 1, To: 2, Most: 1},
	}}
}

// leastNet has pipes that may not be empty.
func leastNet() impl.Net {
	return impl.Net{Nodes: 3, Pipes: []impl.Pipe{
		{From: 0, To: 1, Least: 1, Most: 4},
		{From: 1, To: 2, Least: 2, Most: 3},
	}}
}

func leastFlow(net impl.Net) []int {
	return amountsOf(net, func(p impl.Pipe) int { return p.Least })
}

// allHeldFlows are all flows that all pipes of a net hold, one by one.
func allHeldFlows(net impl.Net) [][]int {
	flows := [][]int{{}}
	for _, p := range net.Pipes {
		var longer [][]int
		for _, flow := range flows {
			for amount := p.Least; amount <= p.Most; amount++ {
				longer = append(longer, append(slices.Clone(flow), amount))
			}
		}
		flows = longer
	}
	return flows
}

// forFlowsBetween tries, between each two nodes of free nets with few pipes, all flows that all pipes hold, in which no other node has an excess.
func forFlowsBetween(try func(net impl.Net, flows [][]int, from, to int)) {
	for _, net := range append(freeNets(), bothWaysNet(), twinsNet()) {
		if len(net.Pipes) > 5 {
			continue
		}
		held := allHeldFlows(net)
		forEnds([]impl.Net{net}, func(net impl.Net, from, to int) {
			var flows [][]int
			for _, flow := range held {
				others := excesses(net, flow)
				others[from], others[to] = 0, 0
				if allZero(others) {
					flows = append(flows, flow)
				}
			}
			try(net, flows, from, to)
		})
	}
}

// move is a step that may be made, with the nodes where it begins and ends.
type move struct{ step, begin, end int }

// wantMoves are told in the order of their numbers, without asking the program.
func wantMoves(net impl.Net, flow []int) []move {
	var moves []move
	for at, p := range net.Pipes {
		if flow[at] < p.Most {
			moves = append(moves, move{at + at, p.From, p.To})
		}
		if flow[at] > p.Least {
			moves = append(moves, move{at + at + 1, p.To, p.From})
		}
	}
	return moves
}

// wantWay tries all rows of steps, one by one, shorter ones first, and of these the first ones first.
func wantWay(net impl.Net, flow []int, from, to int) []int {
	type walk struct {
		steps []int
		end   int
	}
	walks, moves := []walk{{end: from}}, wantMoves(net, flow)
	for range net.Nodes - 1 {
		var longer []walk
		for _, w := range walks {
			for _, m := range moves {
				if m.begin != w.end {
					continue
				}
				steps := append(slices.Clone(w.steps), m.step)
				if m.end == to {
					return steps
				}
				longer = append(longer, walk{steps, m.end})
			}
		}
		walks = longer
	}
	return nil
}

// wantReached joins nodes to the side until no step leaves it.
func wantReached(net impl.Net, flow []int, from int) int {
	reached := make([]bool, net.Nodes)
	reached[from] = true
	for range net.Nodes {
		for _, m := range wantMoves(net, flow) {
			reached[m.end] = reached[m.end] || reached[m.begin]
		}
	}
	side := 0
	for node, has := range reached {
		if has {
			side += nodeAlone(node)
		}
	}
	return side
}

// wantPushed pushes one by one, as long as all pipes hold it.
func wantPushed(net impl.Net, flow []int, from, to int) []int {
	way := wantWay(net, flow, from, to)
	if way == nil {
		return nil
	}
	return wantAlong(net, flow, way, func([]int) bool { return true })
}

// wantAlong pushes one by one along a way, as long as all pipes hold it, and it fits.
func wantAlong(net impl.Net, flow, way []int, fits func(flow []int) bool) []int {
	for {
		more := slices.Clone(flow)
		for _, step := range way {
			more[step/2] += 1 - step%2*2
		}
		for at, p := range net.Pipes {
			if more[at] < p.Least || more[at] > p.Most {
				return flow
			}
		}
		if !fits(more) {
			return flow
		}
		flow = more
	}
}

// forHeld tries flows that all pipes hold, between each two different nodes.
func forHeld(nets []impl.Net, try func(net impl.Net, flow []int, from, to int)) {
	for _, net := range nets {
		for _, flow := range heldFlows(net) {
			forEnds([]impl.Net{net}, func(net impl.Net, from, to int) { try(net, flow, from, to) })
		}
	}
}

// forNotHeld tries what are no flows, flows that some pipe does not hold, and flows of what is no net, with nodes that may be ends.
func forNotHeld(try func(net impl.Net, flow []int, from, to int)) {
	for _, net := range append(goodNets(), leastNet()) {
		bad := badFlows(net)
		least, most := leastFlow(net), amountsOf(net, func(p impl.Pipe) int { return p.Most })
		for at := range net.Pipes {
			bad = append(bad, changed(least, at, -1), changed(most, at, 1))
		}
		for _, flow := range bad {
			try(net, flow, 0, 1)
			try(net, flow, 1, 0)
		}
	}
	for _, net := range badNets() {
		try(net, filled(net, 0), 0, 1)
		try(net, leastFlow(net), 1, 0)
	}
}

func wayFrom(t *testing.T, net impl.Net, flow []int, from, to int) []int {
	t.Helper()
	way, ok := impl.WayFrom(net, flow, from, to)
	if ok != (len(way) > 0) {
		t.Fatalf("WayFrom(%v, %v, %d, %d) is %v, %v", net, flow, from, to, way, ok)
	}
	return way
}

func greatestFlow(t *testing.T, net impl.Net, from, to int) []int {
	t.Helper()
	flow, ok := impl.GreatestFlow(net, from, to)
	if !ok || !impl.HoldsOk(net, flow) {
		t.Fatalf("GreatestFlow(%v, %d, %d) is %v, %v", net, from, to, flow, ok)
	}
	return flow
}

func TestP16EmptyPipesAreHeldByFreeNets(t *testing.T) {
	free, others := 0, 0
	for _, net := range append(goodNets(), freeNets()...) {
		want := allZero(leastFlow(net))
		if impl.FreeOk(net) != want || impl.FreeOk(impl.TurnedNet(net)) != want {
			t.Fatalf("free %v: not %v", net, want)
		}
		if impl.HoldsOk(net, filled(net, 0)) != want {
			t.Fatalf("empty pipes of %v held: not %v", net, want)
		}
		if want {
			free++
		} else {
			others++
		}
	}
	if free == 0 || others == 0 {
		t.Fatalf("%d free nets were tried, and %d others", free, others)
	}
}

func TestP16EachPipeMayBeEmpty(t *testing.T) {
	for _, net := range freeNets() {
		if !impl.FreeOk(net) {
			t.Fatalf("not free: %v", net)
		}
		for at, p := range net.Pipes {
			for least := 1; least <= p.Most; least++ {
				bound := copied(net)
				bound.Pipes[at].Least = least
				if impl.FreeOk(bound) {
					t.Fatalf("free: %v", bound)
				}
			}
		}
	}
}

func TestP16NodesAloneAreFree(t *testing.T) {
	for nodes := 2; nodes <= impl.MaxNodes; nodes++ {
		if !impl.FreeOk(impl.Net{Nodes: nodes}) || !impl.FreeOk(impl.Net{Nodes: nodes, Pipes: []impl.Pipe{}}) {
			t.Errorf("not free: %d nodes alone", nodes)
		}
	}
}

func TestP16OthersAreNotFree(t *testing.T) {
	for why, net := range badNets() {
		if impl.FreeOk(net) {
			t.Errorf("%s: free", why)
		}
	}
}

func TestP17AWayLeadsFromNodeToNode(t *testing.T) {
	back, none := 0, 0
	forHeld(append(goodNets(), freeNets()...), func(net impl.Net, flow []int, from, to int) {
		way := wayFrom(t, net, flow, from, to)
		if want := wantWay(net, flow, from, to); !slices.Equal(way, want) {
			t.Fatalf("from %d to %d of %v in %v: %v, not %v", from, to, flow, net, way, want)
		}
		if len(way) >= net.Nodes {
			t.Fatalf("from %d to %d of %v in %v: %v has too many steps", from, to, flow, net, way)
		}
		if nodesOf(net, impl.ReachedFrom(net, flow, from))[to] != (len(way) > 0) {
			t.Fatalf("from %d to %d of %v in %v: %v, but else reached", from, to, flow, net, way)
		}
		if len(way) == 0 {
			none++
			return
		}
		checkWay(t, net, flow, way, from, to)
		if slices.ContainsFunc(way, func(step int) bool { return step%2 == 1 }) {
			back++
		}
	})
	if back == 0 || none == 0 {
		t.Fatalf("%d ways with steps back were tried, and %d nodes that cannot be reached", back, none)
	}
}

func checkWay(t *testing.T, net impl.Net, flow, way []int, from, to int) {
	t.Helper()
	moves, node := wantMoves(net, flow), from
	for _, step := range way {
		at := slices.IndexFunc(moves, func(m move) bool { return m.step == step })
		if at < 0 || moves[at].begin != node {
			t.Fatalf("%v of %v in %v: step %d from %d", way, flow, net, step, node)
		}
		node = moves[at].end
	}
	if node != to {
		t.Fatalf("%v of %v in %v: ends at %d", way, flow, net, node)
	}
}

func TestP17TheFirstOfTheShortestWays(t *testing.T) {
	short := exampleNet()
	short.Pipes = append(short.Pipes, impl.Pipe{From: 0, To: 3, Most: 1})
	lone := impl.Net{Nodes: 3, Pipes: []impl.Pipe{{From: 0, To: 1, Most: 1}}}
	for _, c := range []struct {
		net      impl.Net
		flow     []int
		from, to int
		want     []int
	}{
		{exampleNet(), []int{0, 0, 0, 0, 0}, 0, 3, []int{0, 6}},
		{exampleNet(), []int{2, 0, 0, 2, 0}, 0, 3, []int{2, 8}},
		{exampleNet(), []int{2, 2, 0, 2, 2}, 0, 3, []int{0, 4, 8}},
		{exampleNet(), []int{3, 2, 1, 2, 3}, 0, 3, nil},
		{exampleNet(), []int{3, 2, 1, 2, 3}, 3, 0, []int{7, 1}},
		{exampleNet(), []int{0, 0, 0, 0, 0}, 3, 0, nil},
		{short, []int{0, 0, 0, 0, 0, 0}, 0, 3, []int{10}},
		{short, []int{0, 0, 0, 0, 0, 1}, 0, 3, []int{0, 6}},
		{zigzagNet(), []int{1, 1, 1, 0, 0}, 0, 3, []int{6, 3, 8}},
		{zigzagNet(), []int{1, 1, 0, 0, 0}, 2, 0, []int{3, 1}},
		{bothWaysNet(), []int{1, 0}, 0, 1, []int{1}},
		{bothWaysNet(), []int{0, 0}, 0, 1, []int{2}},
		{bothWaysNet(), []int{0, 2}, 0, 1, nil},
		{bothWaysNet(), []int{1, 2}, 0, 1, []int{1}},
		{bothWaysNet(), []int{2, 0}, 1, 0, nil},
		{bothWaysNet(), []int{2, 1}, 1, 0, []int{3}},
		{twinsNet(), []int{0, 0, 0, 0, 0}, 0, 2, []int{2, 6}},
		{twinsNet(), []int{0, 2, 0, 3, 0}, 0, 2, []int{4, 8}},
		{twinsNet(), []int{0, 1, 1, 1, 1}, 2, 0, []int{7, 3}},
		{leastNet(), []int{1, 2}, 0, 2, []int{0, 2}},
		{leastNet(), []int{1, 2}, 2, 0, nil},
		{leastNet(), []int{2, 2}, 2, 0, nil},
		{leastNet(), []int{2, 3}, 2, 0, []int{3, 1}},
		{leastNet(), []int{4, 2}, 0, 2, nil},
		{lone, []int{0}, 0, 2, nil},
		{lone, []int{0}, 2, 0, nil},
		{impl.Net{Nodes: 2}, nil, 0, 1, nil},
		{impl.Net{Nodes: 5}, []int{}, 4, 0, nil},
	} {
		if way := wayFrom(t, c.net, c.flow, c.from, c.to); !slices.Equal(way, c.want) {
			t.Errorf("from %d to %d of %v in %v: %v, not %v", c.from, c.to, c.flow, c.net, way, c.want)
		}
	}
}

func TestP17OthersHaveNoWay(t *testing.T) {
	none := func(net impl.Net, flow []int, from, to int) {
		t.Helper()
		if way, ok := impl.WayFrom(net, flow, from, to); len(way) != 0 || ok {
			t.Fatalf("from %d to %d of %v in %v: %v, %v", from, to, flow, net, way, ok)
		}
	}
	forNotHeld(none)
	forNoEnds(func(net impl.Net, from, to int) { none(net, leastFlow(net), from, to) })
}

func TestP18PushesMakeTheFlowGrow(t *testing.T) {
	pushes := 0
	forHeld(append(goodNets(), freeNets()...), func(net impl.Net, flow []int, from, to int) {
		pushed, ok := impl.PushedOn(net, flow, from, to)
		if want := wantPushed(net, flow, from, to); ok != (want != nil) || !slices.Equal(pushed, want) {
			t.Fatalf("%v in %v pushed on from %d to %d: %v, %v, not %v", flow, net, from, to, pushed, ok, want)
		}
		if !ok {
			return
		}
		pushes++
		if !impl.HoldsOk(net, pushed) {
			t.Fatalf("%v in %v pushed on from %d to %d: %v is not held", flow, net, from, to, pushed)
		}
		before, after := excesses(net, flow), excesses(net, pushed)
		by := after[to] - before[to]
		before[from] -= by
		before[to] += by
		if by <= 0 || !slices.Equal(before, after) {
			t.Fatalf("%v in %v pushed on from %d to %d: %v", flow, net, from, to, pushed)
		}
	})
	if pushes == 0 {
		t.Fatal("nothing was pushed on")
	}
}

func TestP18PushedByAsMuchAsMayBe(t *testing.T) {
	for _, c := range []struct {
		net      impl.Net
		flow     []int
		from, to int
		want     []int
	}{
		{exampleNet(), []int{0, 0, 0, 0, 0}, 0, 3, []int{2, 0, 0, 2, 0}},
		{exampleNet(), []int{2, 0, 0, 2, 0}, 0, 3, []int{2, 2, 0, 2, 2}},
		{exampleNet(), []int{2, 2, 0, 2, 2}, 0, 3, []int{3, 2, 1, 2, 3}},
		{exampleNet(), []int{3, 2, 1, 2, 3}, 3, 0, []int{1, 2, 1, 0, 3}},
		{zigzagNet(), []int{1, 1, 1, 0, 0}, 0, 3, []int{1, 0, 1, 1, 1}},
		{bothWaysNet(), []int{2, 1}, 0, 1, []int{0, 1}},
		{bothWaysNet(), []int{2, 1}, 1, 0, []int{2, 0}},
		{twinsNet(), []int{0, 0, 0, 0, 0}, 0, 2, []int{0, 2, 0, 2, 0}},
		{leastNet(), []int{4, 3}, 2, 0, []int{3, 2}},
		{leastNet(), []int{4, 2}, 1, 0, []int{1, 2}},
	} {
		if pushed, ok := impl.PushedOn(c.net, c.flow, c.from, c.to); !ok || !slices.Equal(pushed, c.want) {
			t.Errorf("%v in %v pushed on from %d to %d: %v, %v", c.flow, c.net, c.from, c.to, pushed, ok)
		}
	}
}

func TestP18OthersAreNotPushedOn(t *testing.T) {
	none := func(net impl.Net, flow []int, from, to int) {
		t.Helper()
		if pushed, ok := impl.PushedOn(net, flow, from, to); len(pushed) != 0 || ok {
			t.Fatalf("%v in %v pushed on from %d to %d: %v, %v", flow, net, from, to, pushed, ok)
		}
	}
	forNotHeld(none)
	forNoEnds(func(net impl.Net, from, to int) { none(net, leastFlow(net), from, to) })
	none(exampleNet(), []int{3, 2, 1, 2, 3}, 0, 3)
	none(bothWaysNet(), []int{0, 2}, 0, 1)
	none(leastNet(), []int{1, 2}, 2, 0)
	none(impl.Net{Nodes: 2}, nil, 0, 1)
}

func TestP19GreatestFlowsFillACut(t *testing.T) {
	forEnds(freeNets(), func(net impl.Net, from, to int) {
		flow := greatestFlow(t, net, from, to)
		want := filled(net, 0)
		for more := want; more != nil; more = wantPushed(net, want, from, to) {
			want = more
		}
		if !slices.Equal(flow, want) {
			t.Fatalf("greatest from %d to %d in %v: %v, not %v", from, to, net, flow, want)
		}
		others := excesses(net, flow)
		others[from], others[to] = 0, 0
		if !allZero(others) || len(wayFrom(t, net, flow, from, to)) > 0 {
			t.Fatalf("greatest from %d to %d in %v: %v", from, to, net, flow)
		}
		side := impl.ReachedFrom(net, flow, from)
		for _, narrow := range impl.NarrowestOf(net, from, to) {
			if side&narrow != side {
				t.Fatalf("reached from %d in %v of %v: %d, not within %d", from, flow, net, side, narrow)
			}
		}
		if _, sides := wantNarrowest(net, from, to); side != sides[0] {
			t.Fatalf("reached from %d in %v of %v: %d, not %d", from, flow, net, side, sides[0])
		}
		if acrossOf(t, net, flow, side) != roomOf(t, net, side) {
			t.Fatalf("greatest from %d to %d in %v: %v does not fill %d", from, to, net, flow, side)
		}
	})
}

func TestP19PushedAsLongAsThereIsAWay(t *testing.T) {
	for _, c := range []struct {
		net      impl.Net
		from, to int
		want     []int
	}{
		{exampleNet(), 0, 3, []int{3, 2, 1, 2, 3}},
		{exampleNet(), 3, 0, []int{0, 0, 0, 0, 0}},
		{exampleNet(), 1, 2, []int{0, 0, 1, 0, 0}},
		{zigzagNet(), 0, 3, []int{1, 0, 1, 1, 1}},
		{bothWaysNet(), 0, 1, []int{0, 2}},
		{bothWaysNet(), 1, 0, []int{2, 0}},
		{twinsNet(), 0, 2, []int{0, 2, 2, 3, 1}},
		{impl.Net{Nodes: 2}, 0, 1, nil},
		{impl.Net{Nodes: 5, Pipes: []impl.Pipe{}}, 4, 3, nil},
		{impl.Net{Nodes: 3, Pipes: []impl.Pipe{{From: 0, To: 1, Most: 4}}}, 0, 2, []int{0}},
		{impl.Net{Nodes: 2, Pipes: []impl.Pipe{{From: 0, To: 1}, {From: 0, To: 1, Most: 4}, {From: 0, To: 1, Most: 1}}}, 0, 1, []int{0, 4, 1}},
	} {
		if flow := greatestFlow(t, c.net, c.from, c.to); !slices.Equal(flow, c.want) {
			t.Errorf("greatest from %d to %d in %v: %v, not %v", c.from, c.to, c.net, flow, c.want)
		}
	}
}

// forNoGreatest tries what has no greatest flow: what are no ends, and nets with pipes that may not be empty.
func forNoGreatest(try func(net impl.Net, from, to int)) {
	forNoEnds(try)
	forEnds(boundNets(), try)
}

func TestP19OthersHaveNoGreatestFlow(t *testing.T) {
	forNoGreatest(func(net impl.Net, from, to int) {
		if flow, ok := impl.GreatestFlow(net, from, to); len(flow) != 0 || ok {
			t.Fatalf("greatest from %d to %d in %v: %v, %v", from, to, net, flow, ok)
		}
	})
}

func TestP20TheGreatestFlowIsTheNarrowestCut(t *testing.T) {
	forEnds(freeNets(), func(net impl.Net, from, to int) {
		value := impl.GreatestValue(net, from, to)
		if want, _ := wantNarrowest(net, from, to); value != want || value != leastRoom(t, net, from, to) {
			t.Fatalf("the greatest from %d to %d in %v is %d, not %d", from, to, net, value, want)
		}
		if excessAt(t, net, greatestFlow(t, net, from, to), to) != value {
			t.Fatalf("the greatest from %d to %d in %v is not %d", from, to, net, value)
		}
		if back := impl.GreatestValue(impl.TurnedNet(net), to, from); back != value {
			t.Fatalf("the greatest from %d to %d in %v is %d, but %d turned", from, to, net, value, back)
		}
		for at, p := range net.Pipes {
			if p.Most == impl.MaxHold {
				continue
			}
			wider := copied(net)
			wider.Pipes[at].Most++
			if more := impl.GreatestValue(wider, from, to) - value; more < 0 || more > 1 {
				t.Fatalf("one more in pipe %d makes the greatest from %d to %d in %v %d more", at, from, to, net, more)
			}
		}
	})
}

func TestP20OneMoreInAPipe(t *testing.T) {
	net := exampleNet()
	for first, want := range map[int]int{0: 2, 1: 3, 2: 4, 3: 5, 4: 5} {
		net.Pipes[0].Most = first
		if value := impl.GreatestValue(net, 0, 3); value != want {
			t.Errorf("with %d in the first pipe the greatest is %d, not %d", first, value, want)
		}
	}
	if value := impl.GreatestValue(net, 3, 0); value != 0 {
		t.Errorf("the greatest back is %d", value)
	}
	for nodes := 2; nodes <= impl.MaxNodes; nodes++ {
		if value := impl.GreatestValue(impl.Net{Nodes: nodes}, 0, nodes-1); value != 0 {
			t.Errorf("the greatest of %d nodes alone is %d", nodes, value)
		}
	}
	full := impl.Net{Nodes: 2, Pipes: slices.Repeat([]impl.Pipe{{From: 1, To: 0, Most: impl.MaxHold}}, impl.MaxPipes)}
	if value := impl.GreatestValue(full, 1, 0); value != impl.MaxPipes*impl.MaxHold {
		t.Errorf("the greatest of all pipes beside each other is %d", value)
	}
}

func TestP20OthersHaveNoGreatestValue(t *testing.T) {
	forNoGreatest(func(net impl.Net, from, to int) {
		if value := impl.GreatestValue(net, from, to); value != -1 {
			t.Fatalf("the greatest from %d to %d in %v is %d", from, to, net, value)
		}
	})
}

func TestP21WhatIsReachedIsClosed(t *testing.T) {
	for _, net := range append(goodNets(), freeNets()...) {
		for _, flow := range heldFlows(net) {
			for from := range net.Nodes {
				side := impl.ReachedFrom(net, flow, from)
				if want := wantReached(net, flow, from); side != want || !impl.SideOk(net, side) {
					t.Fatalf("reached from %d in %v of %v: %d, not %d", from, flow, net, side, want)
				}
				for node, has := range nodesOf(net, side) {
					if node == from && !has {
						t.Fatalf("%d is not reached from itself in %v of %v", from, flow, net)
					}
					if more := impl.ReachedFrom(net, flow, node); has && more|side != side {
						t.Fatalf("reached from %d in %v of %v: %d, but %d from %d", from, flow, net, side, more, node)
					}
				}
			}
		}
	}
	forEnds(freeNets(), func(net impl.Net, from, to int) {
		if nodesOf(net, impl.ReachedFrom(net, greatestFlow(t, net, from, to), from))[to] {
			t.Fatalf("the greatest flow from %d in %v is reached to its end %d", from, net, to)
		}
	})
}

func TestP21FullPipesAndEmptyOnesAreNoWay(t *testing.T) {
	for _, c := range []struct {
		net  impl.Net
		flow []int
		want []int
	}{
		{exampleNet(), []int{3, 2, 1, 2, 3}, []int{1, 3, 15, 15}},
		{exampleNet(), []int{2, 0, 0, 2, 0}, []int{15, 15, 15, 15}},
		{exampleNet(), []int{0, 0, 0, 0, 0}, []int{15, 14, 12, 8}},
		{bothWaysNet(), []int{0, 2}, []int{1, 3}},
		{bothWaysNet(), []int{2, 0}, []int{3, 2}},
		{bothWaysNet(), []int{2, 2}, []int{3, 3}},
		{twinsNet(), []int{0, 2, 3, 0, 0}, []int{1, 7, 4}},
		{leastNet(), []int{1, 2}, []int{7, 6, 4}},
		{leastNet(), []int{4, 2}, []int{1, 7, 4}},
		{leastNet(), []int{4, 3}, []int{1, 3, 7}},
		{impl.Net{Nodes: 3}, nil, []int{1, 2, 4}},
		{impl.Net{Nodes: 5, Pipes: []impl.Pipe{{From: 4, To: 3, Least: 2, Most: 2}}}, []int{2}, []int{1, 2, 4, 8, 16}},
	} {
		for from, want := range c.want {
			if side := impl.ReachedFrom(c.net, c.flow, from); side != want {
				t.Errorf("reached from %d in %v of %v: %d, not %d", from, c.flow, c.net, side, want)
			}
		}
	}
}

func TestP21OthersReachNothing(t *testing.T) {
	none := func(net impl.Net, flow []int, from int) {
		t.Helper()
		if side := impl.ReachedFrom(net, flow, from); side != -1 {
			t.Fatalf("reached from %d in %v of %v: %d", from, flow, net, side)
		}
	}
	forNotHeld(func(net impl.Net, flow []int, from, _ int) { none(net, flow, from) })
	for _, net := range goodNets() {
		for _, node := range []int{-1, -2, net.Nodes, net.Nodes + 1, 63, 64, math.MinInt, math.MaxInt} {
			none(net, leastFlow(net), node)
		}
	}
}

func TestP22ByAnyPushesItIsTheSame(t *testing.T) {
	against := 0
	forFlowsBetween(func(net impl.Net, flows [][]int, from, to int) {
		value := impl.GreatestValue(net, from, to)
		for _, flow := range flows {
			if excesses(net, flow)[to] < 0 {
				against++
			}
			last := pushedToTheEnd(net, flow, from, to)
			if excessAt(t, net, last, to) != value {
				t.Fatalf("%v in %v pushed on from %d to %d: %v at the end, not %d", flow, net, from, to, last, value)
			}
		}
	})
	if against == 0 {
		t.Fatal("no flow was tried that goes against the pushes")
	}
}

func pushedToTheEnd(net impl.Net, flow []int, from, to int) []int {
	for {
		pushed, ok := impl.PushedOn(net, flow, from, to)
		if !ok {
			return flow
		}
		flow = pushed
	}
}

func TestP22PushedBackAndOn(t *testing.T) {
	net := zigzagNet()
	for _, flow := range [][]int{{0, 0, 0, 0, 0}, {1, 1, 1, 0, 0}, {1, 0, 0, 0, 1}, {0, 0, 1, 1, 0}} {
		last := pushedToTheEnd(net, flow, 0, 3)
		if !slices.Equal(last, []int{1, 0, 1, 1, 1}) || impl.GreatestValue(net, 0, 3) != 2 {
			t.Errorf("%v pushed on is %v at the end", flow, last)
		}
	}
}

// In a net with pipes that may not be empty there are pushes, but nothing greatest is told.
func TestP22PipesThatMayNotBeEmpty(t *testing.T) {
	net := leastNet()
	flow, ok := impl.PushedOn(net, []int{2, 2}, 0, 2)
	if !ok || !slices.Equal(flow, []int{3, 3}) || impl.GreatestValue(net, 0, 2) != -1 {
		t.Errorf("pushed on it is %v, %v", flow, ok)
	}
	if flow, ok := impl.PushedOn(net, []int{0, 0}, 0, 2); len(flow) != 0 || ok {
		t.Errorf("pushed on from empty pipes it is %v, %v", flow, ok)
	}
}

func TestP23NoFlowIsGreater(t *testing.T) {
	forFlowsBetween(func(net impl.Net, flows [][]int, from, to int) {
		greatest := 0
		for _, flow := range flows {
			greatest = max(greatest, excessAt(t, net, flow, to))
		}
		if value := impl.GreatestValue(net, from, to); value != greatest {
			t.Fatalf("the greatest from %d to %d in %v is %d, but %d one by one", from, to, net, value, greatest)
		}
	})
}

func TestP23DrawnFlowsOfMorePipes(t *testing.T) {
	tried := 0
	for _, net := range freeNets() {
		d := &draws{state: uint64(net.Nodes)}
		for range 200 {
			flow := amountsOf(net, func(p impl.Pipe) int { return d.below(p.Most + 1) })
			forEnds([]impl.Net{net}, func(net impl.Net, from, to int) {
				others := excesses(net, flow)
				value := others[to]
				others[from], others[to] = 0, 0
				if !allZero(others) {
					return
				}
				tried++
				if value > impl.GreatestValue(net, from, to) {
					t.Fatalf("%v in %v has %d at %d, more than the greatest", flow, net, value, to)
				}
			})
		}
	}
	if tried == 0 {
		t.Fatal("no flow without other excess was drawn")
	}
}

func TestP23NoPipesFullPipesAndOthers(t *testing.T) {
	for _, c := range []struct {
		net      impl.Net
		from, to int
		want     int
	}{
		{impl.Net{Nodes: 2}, 0, 1, 0},
		{impl.Net{Nodes: 2, Pipes: []impl.Pipe{{From: 0, To: 1}}}, 0, 1, 0},
		{impl.Net{Nodes: 3, Pipes: []impl.Pipe{{From: 0, To: 1, Most: 4}}}, 0, 2, 0},
		{twinsNet(), 0, 1, 5},
		{twinsNet(), 0, 2, 4},
		{bothWaysNet(), 1, 0, 2},
		{leastNet(), 0, 2, -1},
		{exampleNet(), 2, 2, -1},
		{exampleNet(), -1, 3, -1},
		{exampleNet(), 0, 4, -1},
	} {
		if value := impl.GreatestValue(c.net, c.from, c.to); value != c.want {
			t.Errorf("the greatest from %d to %d in %v is %d, not %d", c.from, c.to, c.net, value, c.want)
		}
	}
}

func TestGreatestFlowsOnlyReadAndShareNothing(t *testing.T) {
	for _, net := range []impl.Net{exampleNet(), ringNet(), zigzagNet(), twinsNet(), {Nodes: 2}} {
		flow := roomy(leastFlow(net))
		net.Pipes = roomy(net.Pipes)
		wholePipes, wholeFlow := slices.Clone(net.Pipes[:cap(net.Pipes)]), slices.Clone(flow[:cap(flow)])
		impl.FreeOk(net)
		forEnds([]impl.Net{net}, func(net impl.Net, from, to int) {
			impl.GreatestValue(net, from, to)
			impl.ReachedFrom(net, flow, from)
			spoiledAgain(t, func() []int { way, _ := impl.WayFrom(net, flow, from, to); return way })
			spoiledAgain(t, func() []int { pushed, _ := impl.PushedOn(net, flow, from, to); return pushed })
			spoiledAgain(t, func() []int { greatest, _ := impl.GreatestFlow(net, from, to); return greatest })
		})
		if !slices.Equal(net.Pipes[:cap(net.Pipes)], wholePipes) || !slices.Equal(flow[:cap(flow)], wholeFlow) {
			t.Fatalf("changed: %v, %v", net, flow)
		}
	}
}
