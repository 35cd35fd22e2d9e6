package tests

import (
	"math"
	"slices"
	"testing"

	"loop.example/balancedpipes/impl"
)

// bundleNet has three pipes to node 1, two further, and one that goes by it, all of different amounts.
func bundleNet() impl.Net {
	return impl.Net{Nodes: 3, Pipes: []impl.Pipe{
		{From: 0, To: 1, Most: 1},
		{From: 1, To: 2, Most: 4},
		{From: 0, To: 1, Least: 2, Most: 3},
		{From: 0, To: 2, Most: 2},
		{From: 1, To: 2, Most: 1, Cost: 9},
		{From: 0, To: 1, Least: 4, Most: 4, Cost: -9},
	}}
}

// lineOfPipes leads through all nodes, from the first one to the last one.
func lineOfPipes() impl.Net {
	return holding(netOf(5, ends{0, 1}, ends{1, 2}, ends{2, 3}, ends{3, 4}), 3)
}

// roundaboutNet has a ring at each end and one between them, and threads that the first pipes lead away from.
func roundaboutNet() impl.Net {
	return holding(netOf(5, ends{0, 1}, ends{1, 0}, ends{1, 2}, ends{2, 1}, ends{2, 3}, ends{3, 2}, ends{0, 3}), 2)
}

// manyWaysNet is a drawn net between few nodes, whose pipes seldom hold nothing.
func (d *draws) manyWaysNet() impl.Net {
	net := impl.Net{Nodes: 2 + d.below(impl.MaxNodes-1)}
	for range 5 + d.below(impl.MaxPipes-4) {
		p := d.pipe(net.Nodes)
		if d.below(4) > 0 {
			p.Most = max(p.Most, 1+d.below(2))
		}
		net.Pipes = append(net.Pipes, p)
	}
	return net
}

// apartNets are the good nets, and more with several threads, and with rings.
func apartNets() []impl.Net {
	nets := append(goodNets(), bundleNet(), lineOfPipes(), roundaboutNet(), zigzagNet(), impl.TurnedNet(zigzagNet()), starsNet(), streamNet(), twinsNet(), bothWaysNet(), tightNet(), leastNet(), holding(greatRingNet(), 1), holding(loopNet(), 4), holding(eightNet(), 1))
	d := &draws{state: 11}
	for range 250 {
		nets = append(nets, d.manyWaysNet())
	}
	return nets
}

// wantUnit makes each pipe one of at most one, without asking the program.
func wantUnit(net impl.Net) impl.Net {
	unit := impl.Net{Nodes: net.Nodes}
	for _, p := range net.Pipes {
		most := 1
		if p.Most == 0 {
			most = 0
		}
		unit.Pipes = append(unit.Pipes, impl.Pipe{From: p.From, To: p.To, Most: most, Cost: p.Cost})
	}
	return unit
}

func holdsNothing(net impl.Net) func(at int) bool {
	return func(at int) bool { return net.Pipes[at].Most == 0 }
}

// openThreads are all threads whose pipes hold something.
func openThreads(net impl.Net, from, to int) [][]int {
	return slices.DeleteFunc(threadsIn(net, from, to), func(row []int) bool { return slices.ContainsFunc(row, holdsNothing(net)) })
}

func meet(a, b []int) bool {
	return slices.ContainsFunc(a, func(n int) bool { return slices.Contains(b, n) })
}

// mostApart tries each thread as the first one, and those that it does not meet as the others.
func mostApart(threads [][]int) int {
	most := 0
	for i, first := range threads {
		var others [][]int
		for _, other := range threads[i+1:] {
			if !meet(first, other) {
				others = append(others, other)
			}
		}
		most = max(most, 1+mostApart(others))
	}
	return most
}

// placeSets are all sets of so many places, from the least one to the greatest one in each.
func placeSets(places, count int) [][]int {
	if count == 0 {
		return [][]int{nil}
	}
	var sets [][]int
	for last := range places {
		for _, set := range placeSets(last, count-1) {
			sets = append(sets, append(slices.Clone(set), last))
		}
	}
	return sets
}

// fewestThatMeet tries all sets of pipes, smaller ones first, until one meets each of the threads.
func fewestThatMeet(net impl.Net, threads [][]int) int {
	for count := 0; ; count++ {
		for _, set := range placeSets(len(net.Pipes), count) {
			if !slices.ContainsFunc(threads, func(thread []int) bool { return !meet(thread, set) }) {
				return count
			}
		}
	}
}

// wantApart takes the threads out of the flow that is pushed one by one through pipes of at most one.
func wantApart(net impl.Net, from, to int) [][]int {
	unit := wantUnit(net)
	flow := filled(unit, 0)
	for next := flow; next != nil; next = wantPushed(unit, flow, from, to) {
		flow = next
	}
	var threads [][]int
	for _, part := range wantParts(unit, flow, from, to) {
		if wantThread(unit, part[1:], from, to) {
			threads = append(threads, part[1:])
		}
	}
	return threads
}

// wantBlocks tries all sides, one by one.
func wantBlocks(net impl.Net, from, to int) []int {
	unit := wantUnit(net)
	_, sides := wantNarrowest(unit, from, to)
	return slices.DeleteFunc(wantLeaving(unit, sides[0]), holdsNothing(unit))
}

func wantWithout(net impl.Net, some []int) impl.Net {
	without := copied(net)
	for _, at := range some {
		without.Pipes[at].Least, without.Pipes[at].Most = 0, 0
	}
	return without
}

func fewestBlocks(t *testing.T, net impl.Net, from, to int) []int {
	t.Helper()
	blocks, ok := impl.FewestBlocks(net, from, to)
	if !ok {
		t.Fatalf("the fewest blocks from %d to %d in %v are not told", from, to, net)
	}
	return blocks
}

func withoutPipes(t *testing.T, net impl.Net, some []int) impl.Net {
	t.Helper()
	without, ok := impl.WithoutPipes(net, some)
	if !ok {
		t.Fatalf("%v without the pipes %v is not told", net, some)
	}
	return without
}

func TestP70UnitNetsAreFree(t *testing.T) {
	empty, one, more, bound := 0, 0, 0, 0
	for _, net := range apartNets() {
		unit := impl.UnitNet(net)
		if !sameNet(unit, wantUnit(net)) || !impl.FreeOk(unit) {
			t.Fatalf("the unit net of %v is %v", net, unit)
		}
		if again := impl.UnitNet(unit); !sameNet(again, unit) {
			t.Fatalf("the unit net of the unit net %v is %v", unit, again)
		}
		if turned := impl.UnitNet(impl.TurnedNet(net)); !sameNet(turned, impl.TurnedNet(unit)) {
			t.Fatalf("the unit net of %v is %v, and turned %v", net, unit, turned)
		}
		for _, p := range net.Pipes {
			switch {
			case p.Most == 0:
				empty++
			case p.Most == 1:
				one++
			default:
				more++
			}
			if p.Least > 0 {
				bound++
			}
		}
	}
	if empty == 0 || one == 0 || more == 0 || bound == 0 {
		t.Fatalf("%d pipes were tried that hold nothing, %d that hold 1, %d that hold more, and %d that may not be empty", empty, one, more, bound)
	}
}

func TestP70EachPipe(t *testing.T) {
	for most := 0; most <= impl.MaxHold; most++ {
		for least := 0; least <= most; least++ {
			for _, cost := range []int{-impl.MaxCost, 0, 1, impl.MaxCost} {
				net := impl.Net{Nodes: 3, Pipes: []impl.Pipe{{From: 0, To: 1}, {From: 2, To: 1, Least: least, Most: most, Cost: cost}}}
				want := impl.Net{Nodes: 3, Pipes: []impl.Pipe{{From: 0, To: 1}, {From: 2, To: 1, Most: min(most, 1), Cost: cost}}}
				if unit := impl.UnitNet(net); !sameNet(unit, want) {
					t.Errorf("the unit net of %v is %v, not %v", net, unit, want)
				}
			}
		}
	}
}

func TestP70NodesAloneAreTheirUnitNet(t *testing.T) {
	for nodes := 2; nodes <= impl.MaxNodes; nodes++ {
		for _, pipes := range [][]impl.Pipe{nil, {}} {
			if unit := impl.UnitNet(impl.Net{Nodes: nodes, Pipes: pipes}); unit.Nodes != nodes || len(unit.Pipes) != 0 {
				t.Errorf("the unit net of %d nodes alone is %v", nodes, unit)
			}
		}
	}
}

func TestP70OthersHaveNoUnitNet(t *testing.T) {
	forNoNets(func(net impl.Net) {
		if unit := impl.UnitNet(net); unit.Nodes != 0 || unit.Pipes != nil {
			t.Fatalf("the unit net of %v is %v", net, unit)
		}
	})
}

func TestP71AsManyThreadsApartAsFewestBlocks(t *testing.T) {
	counts := map[int]int{}
	forEnds(apartNets(), func(net impl.Net, from, to int) {
		threads := impl.ThreadsApart(net, from, to)
		gone := map[int]bool{}
		for _, thread := range threads {
			if !wantThread(net, thread, from, to) || !impl.ThreadOk(net, thread, from, to) {
				t.Fatalf("%v is no thread from %d to %d in %v", thread, from, to, net)
			}
			for _, at := range thread {
				if gone[at] || net.Pipes[at].Most == 0 {
					t.Fatalf("threads apart from %d to %d in %v are %v: not pipe %d", from, to, net, threads, at)
				}
				gone[at] = true
			}
		}
		all := openThreads(net, from, to)
		most, fewest := mostApart(all), fewestThatMeet(net, all)
		if blocks := fewestBlocks(t, net, from, to); len(threads) != most || len(blocks) != fewest || most != fewest {
			t.Fatalf("threads apart from %d to %d in %v are %v, and the blocks %v, but there are %d and %d", from, to, net, threads, blocks, most, fewest)
		}
		counts[len(threads)]++
	})
	for count := range 5 {
		if counts[count] == 0 {
			t.Fatalf("none was tried with %d threads: %v", count, counts)
		}
	}
}

func TestP71TheThreadsOfTheGreatestFlow(t *testing.T) {
	crossed := 0
	forEnds(apartNets(), func(net impl.Net, from, to int) {
		threads, want := impl.ThreadsApart(net, from, to), wantApart(net, from, to)
		if !sameRows(threads, want) {
			t.Fatalf("threads apart from %d to %d in %v are %v, not %v", from, to, net, threads, want)
		}
		unit := impl.UnitNet(net)
		parts := partsOf(t, unit, greatestFlow(t, unit, from, to), from, to)
		for _, thread := range threads {
			if !slices.ContainsFunc(parts, func(part []int) bool { return part[0] == 1 && slices.Equal(part[1:], thread) }) {
				t.Fatalf("thread %v from %d to %d in %v is none of the parts %v", thread, from, to, net, parts)
			}
		}
		if all := openThreads(net, from, to); len(threads) > 0 && len(threads) < len(all) {
			crossed++
		}
	})
	if crossed == 0 {
		t.Fatal("no threads were tried with others that meet them")
	}
}

func TestP71EachThreads(t *testing.T) {
	for _, c := range []struct {
		why      string
		net      impl.Net
		from, to int
		want     [][]int
	}{
		{"two threads", exampleNet(), 0, 3, [][]int{{0, 3}, {1, 4}}},
		{"the longer one begins with the lesser pipe", exampleNet(), 0, 2, [][]int{{0, 2}, {1}}},
		{"one pipe", exampleNet(), 1, 2, [][]int{{2}}},
		{"both of one node", exampleNet(), 1, 3, [][]int{{2, 4}, {3}}},
		{"four pipes that hold different amounts", streamNet(), 0, 1, [][]int{{0}, {1}, {2}, {3}}},
		{"as many pipes as may be", holding(impl.Net{Nodes: 2, Pipes: slices.Repeat([]impl.Pipe{{From: 1, To: 0}}, impl.MaxPipes)}, impl.MaxHold), 1, 0, [][]int{{0}, {1}, {2}, {3}, {4}, {5}, {6}}},
		{"pipes that hold nothing, and such that lead back, between the same nodes", sameEndsNet(), 0, 1, [][]int{{2}, {4}}},
		{"the way back between the same nodes", sameEndsNet(), 1, 0, [][]int{{3}, {5}, {6}}},
		{"more pipes to a node than from it", bundleNet(), 0, 2, [][]int{{0, 1}, {2, 4}, {3}}},
		{"pipes that may not be empty", bundleNet(), 0, 1, [][]int{{0}, {2}, {5}}},
		{"a ring of pipes that hold one amount", tightNet(), 1, 0, [][]int{{1, 2}}},
		{"one pipe that is the narrow one", lineOfPipes(), 0, 4, [][]int{{0, 1, 2, 3}}},
		{"a part of the line", lineOfPipes(), 1, 3, [][]int{{1, 2}}},
		{"no ring is gone round", roundaboutNet(), 0, 3, [][]int{{0, 2, 4}, {6}}},
		{"from within the rings", roundaboutNet(), 2, 1, [][]int{{3}}},
		{"rings at both ends", roundaboutNet(), 1, 3, [][]int{{1, 6}, {2, 4}}},
		{"pipes back from the end", holding(loopNet(), 4), 1, 0, [][]int{{1, 3, 4}}},
		{"a ring on the thread", holding(loopNet(), 4), 0, 3, [][]int{{0, 1, 3}}},
		{"two pipes to the same node of a great ring", holding(greatRingNet(), 1), 0, 2, [][]int{{4, 3}}},
		{"a pipe across a great ring", holding(greatRingNet(), 1), 2, 0, [][]int{{2, 1, 0}, {6}}},
		{"the first pipes would leave no other thread", zigzagNet(), 0, 3, [][]int{{0, 4}, {3, 2}}},
		{"the first pipes would leave no other thread, turned", impl.TurnedNet(zigzagNet()), 3, 0, [][]int{{2, 3}, {4, 0}}},
		{"a thread of all nodes would leave no other one", holding(netOf(5, ends{0, 1}, ends{1, 2}, ends{2, 3}, ends{3, 4}, ends{0, 3}, ends{1, 4}), 1), 0, 4, [][]int{{0, 5}, {4, 3}}},
		{"two pipes one behind the other", twinsNet(), 0, 2, [][]int{{1, 3}, {2, 4}}},
		{"two middle nodes", starsNet(), 0, 1, [][]int{{0, 1}, {3, 4}}},
	} {
		if threads := impl.ThreadsApart(c.net, c.from, c.to); !sameRows(threads, c.want) {
			t.Errorf("%s: threads apart from %d to %d in %v are %v, not %v", c.why, c.from, c.to, c.net, threads, c.want)
		}
		if blocks, ok := impl.FewestBlocks(c.net, c.from, c.to); len(blocks) != len(c.want) || !ok {
			t.Errorf("%s: the fewest blocks from %d to %d in %v are %v, %v", c.why, c.from, c.to, c.net, blocks, ok)
		}
	}
}

func TestP71NodesWithNoThread(t *testing.T) {
	dry := holding(exampleNet(), 1)
	dry.Pipes[3].Most, dry.Pipes[4].Most = 0, 0
	for _, c := range []struct {
		why      string
		net      impl.Net
		from, to int
	}{
		{"no pipes", impl.Net{Nodes: 2}, 0, 1},
		{"no pipes, and as many nodes as may be", impl.Net{Nodes: 5, Pipes: []impl.Pipe{}}, 4, 0},
		{"the pipes lead the other way", exampleNet(), 3, 0},
		{"nothing leads from the one", exampleNet(), 3, 2},
		{"nothing leads to the other one", exampleNet(), 1, 0},
		{"pipes that hold nothing", holding(exampleNet(), 0), 0, 3},
		{"the last pipes hold nothing", dry, 0, 3},
		{"the nodes are in different pieces", holding(piecesNet(), 4), 0, 3},
		{"the pipes meet at a node in between", holding(netOf(3, ends{0, 1}, ends{2, 1}), 4), 0, 2},
		{"the pipes leave a node in between", holding(netOf(3, ends{1, 0}, ends{1, 2}), 4), 0, 2},
		{"many pipes back", holding(impl.Net{Nodes: 2, Pipes: slices.Repeat([]impl.Pipe{{From: 1, To: 0}}, impl.MaxPipes)}, 4), 0, 1},
	} {
		if threads := impl.ThreadsApart(c.net, c.from, c.to); len(threads) != 0 {
			t.Errorf("%s: threads apart from %d to %d in %v are %v", c.why, c.from, c.to, c.net, threads)
		}
		if blocks, ok := impl.FewestBlocks(c.net, c.from, c.to); len(blocks) != 0 || !ok {
			t.Errorf("%s: the fewest blocks from %d to %d in %v are %v, %v", c.why, c.from, c.to, c.net, blocks, ok)
		}
	}
}

func TestP71OthersHaveNoThreads(t *testing.T) {
	forNoEnds(func(net impl.Net, from, to int) {
		if threads := impl.ThreadsApart(net, from, to); len(threads) != 0 {
			t.Fatalf("threads apart from %d to %d in %v are %v", from, to, net, threads)
		}
	})
	for why, net := range badRingNets() {
		if threads := append(impl.ThreadsApart(net, 0, 1), impl.ThreadsApart(net, 1, 0)...); len(threads) != 0 {
			t.Errorf("%s: threads apart in %v are %v", why, net, threads)
		}
	}
}

func TestP72WithoutTheBlocksNoThreadIsLeft(t *testing.T) {
	none, some := 0, 0
	forEnds(apartNets(), func(net impl.Net, from, to int) {
		threads, blocks := impl.ThreadsApart(net, from, to), fewestBlocks(t, net, from, to)
		if want := wantBlocks(net, from, to); !slices.Equal(blocks, want) {
			t.Fatalf("the fewest blocks from %d to %d in %v are %v, not %v", from, to, net, blocks, want)
		}
		if left := impl.ThreadsApart(withoutPipes(t, net, blocks), from, to); len(left) != 0 {
			t.Fatalf("without %v there are the threads %v from %d to %d in %v", blocks, left, from, to, net)
		}
		for _, at := range blocks {
			if left := impl.ThreadsApart(withoutPipes(t, net, []int{at}), from, to); len(left) != len(threads)-1 {
				t.Fatalf("without pipe %d there are the threads %v from %d to %d in %v, and with it %v", at, left, from, to, net, threads)
			}
		}
		for _, thread := range threads {
			if has := slices.DeleteFunc(slices.Clone(thread), func(at int) bool { return !slices.Contains(blocks, at) }); len(has) != 1 {
				t.Fatalf("thread %v from %d to %d in %v has of the blocks %v just %v", thread, from, to, net, blocks, has)
			}
		}
		if len(blocks) == 0 {
			none++
			return
		}
		some++
		for _, fewer := range placeSets(len(net.Pipes), len(blocks)-1) {
			if left := impl.ThreadsApart(withoutPipes(t, net, fewer), from, to); len(left) == 0 {
				t.Fatalf("without %v there is no thread from %d to %d in %v, and the blocks are %v", fewer, from, to, net, blocks)
			}
		}
	})
	if none == 0 || some == 0 {
		t.Fatalf("%d nodes with blocks were tried, and %d with none", some, none)
	}
}

func TestP72EachBlocks(t *testing.T) {
	for _, c := range []struct {
		why      string
		net      impl.Net
		from, to int
		want     []int
	}{
		{"several narrowest sides, of which the least one is the node alone", exampleNet(), 0, 3, []int{0, 1}},
		{"one narrowest side", exampleNet(), 1, 2, []int{2}},
		{"pipes from the node alone", exampleNet(), 1, 3, []int{2, 3}},
		{"a line, from the first node", lineOfPipes(), 0, 4, []int{0}},
		{"a line, from the last node", impl.TurnedNet(lineOfPipes()), 4, 0, []int{3}},
		{"a line, from within", lineOfPipes(), 1, 4, []int{1}},
		{"as many pipes to a node as from it", twinsNet(), 0, 2, []int{1, 2}},
		{"more pipes to a node than from it", bundleNet(), 0, 2, []int{1, 3, 4}},
		{"more pipes from a node than to it", impl.TurnedNet(bundleNet()), 2, 0, []int{1, 3, 4}},
		{"pipes that hold much are blocks as well as such that hold little", streamNet(), 0, 1, []int{0, 1, 2, 3}},
		{"leaving pipes that hold nothing are no blocks", sameEndsNet(), 0, 1, []int{2, 4}},
		{"pipes that may not be empty lead back", sameEndsNet(), 1, 0, []int{3, 5, 6}},
		{"only the last pipe holds something", impl.Net{Nodes: 3, Pipes: []impl.Pipe{{From: 0, To: 1}, {From: 0, To: 2}, {From: 0, To: 2, Most: 4}}}, 0, 2, []int{2}},
		{"a pipe that holds nothing beside the narrow one", impl.Net{Nodes: 3, Pipes: []impl.Pipe{{From: 0, To: 1, Most: 1}, {From: 0, To: 1, Most: 1}, {From: 0, To: 2}, {From: 1, To: 2, Most: 4}, {From: 1, To: 2}}}, 0, 2, []int{3}},
		{"the pipes before the narrow one hold less", impl.Net{Nodes: 3, Pipes: []impl.Pipe{{From: 0, To: 1, Most: 1}, {From: 0, To: 1, Most: 1}, {From: 1, To: 2, Most: 4}}}, 0, 2, []int{2}},
		{"pipes back to the side are no blocks", roundaboutNet(), 0, 3, []int{0, 6}},
		{"a ring beside the narrow one", holding(loopNet(), 4), 0, 3, []int{0}},
		{"all nodes but the last one", holding(netOf(4, ends{0, 1}, ends{0, 2}, ends{1, 2}, ends{2, 3}), 1), 0, 3, []int{3}},
		{"the least side has a greater node", holding(netOf(4, ends{0, 3}, ends{0, 3}, ends{3, 1}, ends{1, 2}), 1), 0, 2, []int{2}},
		{"no pipes", impl.Net{Nodes: 2}, 1, 0, nil},
		{"the pipes that leave hold nothing", holding(exampleNet(), 0), 0, 3, nil},
		{"no thread, and all pipes hold something", exampleNet(), 3, 0, nil},
		{"no thread, but pipes from the node hold something", holding(netOf(3, ends{0, 1}, ends{2, 1}), 4), 0, 2, nil},
	} {
		if blocks, ok := impl.FewestBlocks(c.net, c.from, c.to); !slices.Equal(blocks, c.want) || !ok {
			t.Errorf("%s: the fewest blocks from %d to %d in %v are %v, %v, not %v", c.why, c.from, c.to, c.net, blocks, ok, c.want)
		}
	}
}

func TestP72TheLeastOfSeveralNarrowestSides(t *testing.T) {
	one, several, dry := 0, 0, 0
	forEnds(apartNets(), func(net impl.Net, from, to int) {
		unit := impl.UnitNet(net)
		sides := impl.NarrowestOf(unit, from, to)
		leaving := impl.LeavingOf(unit, slices.Min(sides))
		blocks := fewestBlocks(t, net, from, to)
		for _, at := range leaving {
			if slices.Contains(blocks, at) == (net.Pipes[at].Most == 0) {
				t.Fatalf("the fewest blocks from %d to %d in %v are %v, but pipe %d holds %d", from, to, net, blocks, at, net.Pipes[at].Most)
			}
		}
		if len(blocks) < len(leaving) {
			dry++
		}
		if len(sides) == 1 {
			one++
		} else if others := impl.LeavingOf(unit, slices.Max(sides)); !slices.Equal(others, leaving) {
			several++
		}
	})
	if one == 0 || several == 0 || dry == 0 {
		t.Fatalf("%d were tried with one narrowest side, %d with several, and %d with leaving pipes that hold nothing", one, several, dry)
	}
}

func TestP72OthersHaveNoBlocks(t *testing.T) {
	none := func(net impl.Net, from, to int) {
		t.Helper()
		if blocks, ok := impl.FewestBlocks(net, from, to); len(blocks) != 0 || ok {
			t.Fatalf("the fewest blocks from %d to %d in %v are %v, %v", from, to, net, blocks, ok)
		}
	}
	forNoEnds(none)
	for _, net := range badRingNets() {
		none(net, 0, 1)
		none(net, 1, 0)
	}
}

// checkWithout empties some pipes, and in the end the same ones again.
func checkWithout(t *testing.T, net impl.Net, some []int) {
	t.Helper()
	without := withoutPipes(t, net, some)
	if want := wantWithout(net, some); !sameNet(without, want) || !impl.NetOk(without) {
		t.Fatalf("%v without the pipes %v is %v, not %v", net, some, without, want)
	}
	if again := withoutPipes(t, without, some); !sameNet(again, without) {
		t.Fatalf("%v without the pipes %v is %v, and without them again %v", net, some, without, again)
	}
	if pieces := impl.PiecesOf(without); pieces != impl.PiecesOf(net) || pieces != wantPieces(net) {
		t.Fatalf("%v without the pipes %v has %d pieces", net, some, pieces)
	}
}

func TestP73EmptiedPipesStayInTheirPlaces(t *testing.T) {
	bound := 0
	for _, net := range apartNets() {
		for count := range len(net.Pipes) + 1 {
			for _, some := range placeSets(len(net.Pipes), count) {
				checkWithout(t, net, some)
				if slices.ContainsFunc(some, func(at int) bool { return net.Pipes[at].Least > 0 }) {
					bound++
				}
			}
		}
	}
	if bound == 0 {
		t.Fatal("no pipe was emptied that may not be empty")
	}
}

func TestP73PlacesInAnyOrder(t *testing.T) {
	d := &draws{state: 73}
	twice, falling := 0, 0
	for _, net := range apartNets() {
		if len(net.Pipes) == 0 {
			continue
		}
		for range 6 {
			some := make([]int, d.below(2*impl.MaxPipes))
			for i := range some {
				some[i] = d.below(len(net.Pipes))
			}
			checkWithout(t, net, some)
			sorted := slices.Sorted(slices.Values(some))
			if !slices.Equal(sorted, some) {
				falling++
			}
			once := slices.Compact(sorted)
			if len(once) < len(some) {
				twice++
			}
			if a, b := withoutPipes(t, net, some), withoutPipes(t, net, once); !sameNet(a, b) {
				t.Fatalf("%v without the pipes %v is %v, and without %v it is %v", net, some, a, once, b)
			}
		}
	}
	if twice == 0 || falling == 0 {
		t.Fatalf("%d rows were tried with a place twice, and %d in another order", twice, falling)
	}
}

func TestP73EachRowOfPlaces(t *testing.T) {
	for _, c := range []struct {
		why   string
		net   impl.Net
		some  []int
		holds []int
	}{
		{"no places", exampleNet(), nil, []int{3, 2, 1, 2, 4}},
		{"no places, in a row", exampleNet(), []int{}, []int{3, 2, 1, 2, 4}},
		{"the first place", exampleNet(), []int{0}, []int{0, 2, 1, 2, 4}},
		{"the last place", exampleNet(), []int{4}, []int{3, 2, 1, 2, 0}},
		{"the first place and the last one", exampleNet(), []int{0, 4}, []int{0, 2, 1, 2, 0}},
		{"the last place and the first one", exampleNet(), []int{4, 0}, []int{0, 2, 1, 2, 0}},
		{"a place twice", exampleNet(), []int{2, 2}, []int{3, 2, 0, 2, 4}},
		{"a place twice, and another one between", exampleNet(), []int{2, 1, 2}, []int{3, 0, 0, 2, 4}},
		{"a place very often", exampleNet(), slices.Repeat([]int{3}, 1000), []int{3, 2, 1, 0, 4}},
		{"all places", exampleNet(), []int{0, 1, 2, 3, 4}, []int{0, 0, 0, 0, 0}},
		{"all places, and more", exampleNet(), []int{4, 3, 2, 1, 0, 0, 1, 2}, []int{0, 0, 0, 0, 0}},
		{"pipes that may not be empty", tightNet(), []int{1}, []int{2, 0, 2}},
		{"pipes that hold nothing already", twinsNet(), []int{0, 1, 2, 3, 4}, []int{0, 0, 0, 0, 0}},
		{"no places, and no pipes", impl.Net{Nodes: 2}, nil, nil},
	} {
		without, ok := impl.WithoutPipes(c.net, c.some)
		if !ok || without.Nodes != c.net.Nodes || len(without.Pipes) != len(c.net.Pipes) {
			t.Errorf("%s: %v without the pipes %v is %v, %v", c.why, c.net, c.some, without, ok)
			continue
		}
		for at, p := range without.Pipes {
			want := c.net.Pipes[at]
			if slices.Contains(c.some, at) {
				want.Least = 0
			}
			want.Most = c.holds[at]
			if p != want {
				t.Errorf("%s: pipe %d of %v without the pipes %v is %v, not %v", c.why, at, c.net, c.some, p, want)
			}
		}
	}
}

func TestP73OthersAreNotEmptied(t *testing.T) {
	none := func(net impl.Net, some []int) {
		t.Helper()
		if without, ok := impl.WithoutPipes(net, some); ok || without.Nodes != 0 || len(without.Pipes) != 0 {
			t.Fatalf("%v without the pipes %v is %v, %v", net, some, without, ok)
		}
	}
	for _, net := range apartNets() {
		all := placeSets(len(net.Pipes), len(net.Pipes))[0]
		forBadPlaces(net, func(at int) {
			none(net, []int{at})
			none(net, []int{at, at})
			none(net, append(slices.Clone(all), at))
			none(net, append([]int{at}, all...))
		})
		forNoPlaces(net, all, func(row []int) { none(net, row) })
	}
	forNoNets(func(net impl.Net) {
		for _, some := range [][]int{nil, {}, {0}, {0, 1}, {-1}, {len(net.Pipes)}} {
			none(net, some)
		}
	})
	for _, net := range badRingNets() {
		for count := range len(net.Pipes) + 1 {
			for _, some := range placeSets(len(net.Pipes), count) {
				none(net, some)
			}
		}
	}
}

func TestP74ThreadsAreUnitsOfFlow(t *testing.T) {
	wide, none := 0, 0
	forEnds(apartNets(), func(net impl.Net, from, to int) {
		threads, unit := impl.ThreadsApart(net, from, to), impl.UnitNet(net)
		least, _ := wantNarrowest(wantUnit(net), from, to)
		if value := impl.GreatestValue(unit, from, to); len(threads) != value || value != least {
			t.Fatalf("threads apart from %d to %d in %v are %v, not %d, and %d at most can come", from, to, net, threads, least, value)
		}
		if back := impl.ThreadsApart(impl.TurnedNet(net), to, from); len(back) != len(threads) {
			t.Fatalf("threads apart from %d to %d in %v are %v, and turned %v", from, to, net, threads, back)
		}
		if again := impl.ThreadsApart(unit, from, to); !sameRows(again, threads) {
			t.Fatalf("threads apart from %d to %d in %v are %v, and in the unit net %v", from, to, net, threads, again)
		}
		if len(threads) == 0 {
			none++
		} else if free := freed(net); impl.GreatestValue(free, from, to) > len(threads) {
			wide++
		}
	})
	if wide == 0 || none == 0 {
		t.Fatalf("%d nodes were tried between which more can come than threads, and %d with no thread", wide, none)
	}
}

// Amounts and costs change no thread, as long as a pipe that holds something still does.
func TestP74ThreadsDoNotAskHowMuch(t *testing.T) {
	forEnds(apartNets(), func(net impl.Net, from, to int) {
		threads, blocks := impl.ThreadsApart(net, from, to), fewestBlocks(t, net, from, to)
		for _, most := range []int{1, 2, impl.MaxHold} {
			for _, least := range []int{0, 1, most} {
				other := copied(net)
				for at, p := range net.Pipes {
					if p.Most > 0 {
						other.Pipes[at].Least, other.Pipes[at].Most = least, most
					}
					other.Pipes[at].Cost = -p.Cost
				}
				if rows, places := impl.ThreadsApart(other, from, to), fewestBlocks(t, other, from, to); !sameRows(rows, threads) || !slices.Equal(places, blocks) {
					t.Fatalf("threads apart from %d to %d in %v are %v, and the blocks %v, but in %v %v and %v", from, to, net, threads, blocks, other, rows, places)
				}
			}
		}
	})
}

func TestP74OthersHaveNoUnitsOfFlow(t *testing.T) {
	forNoEnds(func(net impl.Net, from, to int) {
		if value := impl.GreatestValue(impl.UnitNet(net), from, to); value != -1 {
			t.Fatalf("in the unit net of %v %d can come from %d to %d", net, value, from, to)
		}
		if back := impl.ThreadsApart(impl.TurnedNet(net), to, from); len(back) != 0 {
			t.Fatalf("threads apart from %d to %d in the turned %v are %v", to, from, net, back)
		}
	})
	for _, node := range []int{math.MinInt, -1, 4, math.MaxInt} {
		if threads := append(impl.ThreadsApart(exampleNet(), 0, node), impl.ThreadsApart(exampleNet(), node, 3)...); len(threads) != 0 {
			t.Errorf("threads apart with node %d are %v", node, threads)
		}
	}
}

func TestApartOnlyReadAndShareNothing(t *testing.T) {
	spoil := impl.Pipe{From: -7, To: -7, Least: -7, Most: -7, Cost: -7}
	for _, net := range apartNets() {
		net.Pipes = roomy(net.Pipes)
		pipes := slices.Clone(net.Pipes[:cap(net.Pipes)])
		spoiledWith(t, spoil, func() []impl.Pipe { return impl.UnitNet(net).Pipes })
		for count := range len(net.Pipes) + 1 {
			some := roomy(placeSets(len(net.Pipes), count)[0])
			slices.Reverse(some)
			before := slices.Clone(some[:cap(some)])
			spoiledWith(t, spoil, func() []impl.Pipe { return withoutPipes(t, net, some).Pipes })
			if !slices.Equal(some[:cap(some)], before) {
				t.Fatalf("changed: %v", some)
			}
		}
		forEnds([]impl.Net{net}, func(net impl.Net, from, to int) {
			rowsSpoiledAgain(t, func() [][]int { return impl.ThreadsApart(net, from, to) })
			spoiledAgain(t, func() []int { return fewestBlocks(t, net, from, to) })
		})
		if !slices.Equal(net.Pipes[:cap(net.Pipes)], pipes) {
			t.Fatalf("changed: %v", net)
		}
	}
}
