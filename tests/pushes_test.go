package tests

import (
	"math"
	"slices"
	"testing"

	"loop.example/balancedpipes/impl"
)

// narrowLine brings more to node 1 than can go on from it.
func narrowLine() impl.Net {
	return impl.Net{Nodes: 3, Pipes: []impl.Pipe{{From: 0, To: 1, Most: 4}, {From: 1, To: 2, Most: 1}}}
}

// deadEndNet leads from node 0 through all nodes but 4, to which nothing leads.
func deadEndNet() impl.Net {
	return holding(netOf(5, ends{0, 1}, ends{1, 2}, ends{2, 3}), 2)
}

// forkedNet brings something to the nodes 1 and 2, each of which leads to the other one and to 3, in another order.
func forkedNet() impl.Net {
	return impl.Net{Nodes: 4, Pipes: []impl.Pipe{
		{From: 0, To: 2, Most: 3},
		{From: 0, To: 1, Most: 4},
		{From: 2, To: 1, Most: 1},
		{From: 1, To: 2, Most: 2},
		{From: 1, To: 3, Most: 1},
		{From: 1, To: 3, Most: 3},
		{From: 2, To: 3, Most: 4},
	}}
}

// basinNets are free nets, and more with lines, rings, and many pipes between few nodes.
func basinNets() []impl.Net {
	nets := append(freeNets(), narrowLine(), impl.TurnedNet(narrowLine()), deadEndNet(), forkedNet(), bothWaysNet(), twinsNet(), streamNet(), starsNet(), impl.TurnedNet(starsNet()), lineOfPipes(), roundaboutNet(), freed(bundleNet()), holding(greatRingNet(), 3), holding(loopNet(), 4), holding(eightNet(), 1), holding(crookedNet(), 2))
	d := &draws{state: 12}
	for range 60 {
		nets = append(nets, freed(d.manyWaysNet()))
	}
	return nets
}

func basinOf(flow, heights []int) impl.Basin {
	return impl.Basin{Flow: flow, Heights: heights}
}

func copiedBasin(b impl.Basin) impl.Basin {
	return basinOf(slices.Clone(b.Flow), slices.Clone(b.Heights))
}

func sameBasin(a, b impl.Basin) bool {
	return slices.Equal(a.Flow, b.Flow) && slices.Equal(a.Heights, b.Heights)
}

func isNoBasin(b impl.Basin) bool {
	return len(b.Flow) == 0 && len(b.Heights) == 0
}

// wantBasin asks all of a basin of two different nodes, but whether the pipes may be empty, without asking the program.
func wantBasin(net impl.Net, from, to int, b impl.Basin) bool {
	if len(b.Flow) != len(net.Pipes) || len(b.Heights) != net.Nodes {
		return false
	}
	for at, p := range net.Pipes {
		if b.Flow[at] < p.Least || b.Flow[at] > p.Most {
			return false
		}
	}
	for node, over := range excesses(net, b.Flow) {
		if node != from && over < 0 || b.Heights[node] < 0 || b.Heights[node] > net.Nodes+net.Nodes {
			return false
		}
	}
	for _, m := range wantMoves(net, b.Flow) {
		if b.Heights[m.begin]-b.Heights[m.end] > 1 {
			return false
		}
	}
	return b.Heights[from] == net.Nodes && b.Heights[to] == 0
}

// wantNew fills pipe by pipe what leaves the first node. It has rows even for what is no net, or no node of it.
func wantNew(net impl.Net, from int) impl.Basin {
	b := basinOf(leastFlow(net), nil)
	for at, p := range net.Pipes {
		if p.From == from {
			b.Flow[at] = p.Most
		}
	}
	for node := 0; node < net.Nodes && node < 2*impl.MaxNodes; node++ {
		b.Heights = append(b.Heights, 0)
		if node == from {
			b.Heights[node] = net.Nodes
		}
	}
	return b
}

// stepping tells what a step from a basin is, and what it meets.
type stepping struct {
	node, others   int
	lift           bool
	move           move
	amount         int
	left, room     int
	passed, second bool
}

// wantStepping makes the step by pushes of one at a time, or lifts by one at a time.
func wantStepping(net impl.Net, from, to int, b impl.Basin) (next impl.Basin, s stepping, ok bool) {
	next = copiedBasin(b)
	over := excesses(net, b.Flow)
	over[from], over[to] = 0, 0
	s.node = slices.IndexFunc(over, func(n int) bool { return n > 0 })
	if s.node < 0 {
		return next, s, false
	}
	s.others = len(slices.DeleteFunc(slices.Clone(over), func(n int) bool { return n <= 0 })) - 1
	down := downMoves(net, next, s.node)
	if len(down) == 0 {
		s.lift = true
		for len(downMoves(net, next, s.node)) == 0 {
			next.Heights[s.node]++
			s.amount++
		}
		return next, s, true
	}
	s.move, s.left, s.second = down[0], over[s.node], len(down) > 1
	s.passed = slices.ContainsFunc(wantMoves(net, b.Flow), func(m move) bool { return m.begin == s.node && m.step < s.move.step })
	may := func() bool { return slices.Contains(wantMoves(net, next.Flow), s.move) }
	for ; s.left > 0 && may(); s.left-- {
		next.Flow[s.move.step/2] += 1 - s.move.step%2*2
		s.amount++
	}
	if may() {
		s.room = 1
	}
	return next, s, true
}

// downMoves are the steps from a node that lead down by 1.
func downMoves(net impl.Net, b impl.Basin, node int) []move {
	return slices.DeleteFunc(wantMoves(net, b.Flow), func(m move) bool {
		return m.begin != node || b.Heights[m.begin] != b.Heights[m.end]+1
	})
}

// wantRun makes all steps, and gives each basin on the way.
func wantRun(net impl.Net, from, to int) []impl.Basin {
	run := []impl.Basin{wantNew(net, from)}
	for {
		next, _, ok := wantStepping(net, from, to, run[len(run)-1])
		if !ok {
			return run
		}
		run = append(run, next)
	}
}

// drawnFlow lets what is too much go on, or back, by any steps, without asking for heights.
func (d *draws) drawnFlow(net impl.Net, from, to int) []int {
	flow := wantNew(net, from).Flow
	for range d.below(12) {
		over := excesses(net, flow)
		over[from], over[to] = 0, 0
		moves := slices.DeleteFunc(wantMoves(net, flow), func(m move) bool { return over[m.begin] <= 0 })
		if len(moves) == 0 {
			break
		}
		m := moves[d.below(len(moves))]
		for range 1 + d.below(over[m.begin]) {
			if slices.Contains(wantMoves(net, flow), m) {
				flow[m.step/2] += 1 - m.step%2*2
			}
		}
	}
	return flow
}

// drawnBasin has heights anywhere, and sinks them until no step is too steep; the first node may have sunk, too, and then it is no basin.
func (d *draws) drawnBasin(net impl.Net, from, to int) impl.Basin {
	b := basinOf(d.drawnFlow(net, from, to), make([]int, net.Nodes))
	for node := range b.Heights {
		b.Heights[node] = d.below(2*net.Nodes + 1)
	}
	b.Heights[from], b.Heights[to] = net.Nodes, 0
	for range net.Nodes {
		for _, m := range wantMoves(net, b.Flow) {
			b.Heights[m.begin] = min(b.Heights[m.begin], b.Heights[m.end]+1)
		}
	}
	return b
}

// drawnBasins are some that are basins.
func drawnBasins(net impl.Net, from, to int) []impl.Basin {
	d := &draws{state: uint64(from*impl.MaxNodes + to)}
	var basins []impl.Basin
	for range 12 {
		if b := d.drawnBasin(net, from, to); wantBasin(net, from, to, b) {
			basins = append(basins, b)
		}
	}
	return basins
}

// forBasins tries the basins of all steps, and drawn ones, between each two different nodes.
func forBasins(try func(net impl.Net, from, to int, b impl.Basin)) {
	forEnds(basinNets(), func(net impl.Net, from, to int) {
		for _, b := range append(wantRun(net, from, to), drawnBasins(net, from, to)...) {
			try(net, from, to, b)
		}
	})
}

// nearBasins differ from a basin in one number, or have a row that is too long or too short.
func nearBasins(b impl.Basin) []impl.Basin {
	var near []impl.Basin
	for _, flow := range nearRows(b.Flow) {
		near = append(near, basinOf(flow, b.Heights))
	}
	for _, heights := range nearRows(b.Heights) {
		near = append(near, basinOf(b.Flow, heights))
	}
	return near
}

func nearRows(row []int) [][]int {
	near := [][]int{append(slices.Clone(row), 0)}
	for i := range row {
		for _, by := range []int{-2, -1, 1, 2} {
			near = append(near, changed(row, i, by))
		}
		for _, far := range []int{math.MinInt, math.MaxInt} {
			near = append(near, changed(row, i, far-row[i]))
		}
	}
	if len(row) > 0 {
		near = append(near, nil, row[1:], row[:len(row)-1])
	}
	return near
}

// forNoBasinEnds tries what has no basin: what are no ends, and nets with pipes that may not be empty.
func forNoBasinEnds(try func(net impl.Net, from, to int, b impl.Basin)) {
	forNoGreatest(func(net impl.Net, from, to int) { try(net, from, to, wantNew(net, from)) })
	for _, net := range badRingNets() {
		try(net, 0, 1, wantNew(net, 0))
		try(net, 1, 0, wantNew(net, 1))
	}
}

// forNoBasins tries what is no basin: what has none, and new basins with a number or a row that is wrong.
func forNoBasins(try func(net impl.Net, from, to int, b impl.Basin)) {
	forNoBasinEnds(try)
	forEnds(basinNets(), func(net impl.Net, from, to int) {
		for _, near := range nearBasins(wantNew(net, from)) {
			if !wantBasin(net, from, to, near) {
				try(net, from, to, near)
			}
		}
	})
}

func basinNew(t *testing.T, net impl.Net, from, to int) impl.Basin {
	t.Helper()
	b, ok := impl.BasinNew(net, from, to)
	if !ok {
		t.Fatalf("the new basin from %d to %d in %v is not told", from, to, net)
	}
	return b
}

func basinRun(t *testing.T, net impl.Net, from, to int) impl.Basin {
	t.Helper()
	b, steps := impl.BasinRun(net, from, to)
	if steps < 0 {
		t.Fatalf("the basin after all steps from %d to %d in %v is not told", from, to, net)
	}
	return b
}

func TestP75InABasinNoWayLeadsToTheEnd(t *testing.T) {
	high, steepest := 0, 0
	forBasins(func(net impl.Net, from, to int, b impl.Basin) {
		if !impl.BasinOk(net, from, to, b) {
			t.Fatalf("%v is no basin from %d to %d in %v", b, from, to, net)
		}
		if way := wayFrom(t, net, b.Flow, from, to); way != nil || wantWay(net, b.Flow, from, to) != nil {
			t.Fatalf("%v leads from %d to %d in %v of %v", way, from, to, b, net)
		}
		if slices.Contains(b.Heights, 2*net.Nodes) {
			high++
		}
		if slices.ContainsFunc(wantMoves(net, b.Flow), func(m move) bool { return b.Heights[m.begin] == b.Heights[m.end]+1 }) {
			steepest++
		}
	})
	if high == 0 || steepest == 0 {
		t.Fatalf("%d basins were tried with a node at twice the nodes, and %d with a step that leads down by 1", high, steepest)
	}
}

func TestP75NearBasins(t *testing.T) {
	basins, others, ways := 0, 0, 0
	forEnds(basinNets(), func(net impl.Net, from, to int) {
		for _, b := range drawnBasins(net, from, to) {
			for _, near := range nearBasins(b) {
				want := wantBasin(net, from, to, near)
				if impl.BasinOk(net, from, to, near) != want {
					t.Fatalf("%v is a basin from %d to %d in %v: not %v", near, from, to, net, want)
				}
				if want {
					basins++
				} else {
					others++
				}
				if len(near.Flow) == len(net.Pipes) && impl.HoldsOk(net, near.Flow) && wantWay(net, near.Flow, from, to) != nil {
					ways++
				}
			}
		}
	})
	if basins == 0 || others == 0 || ways == 0 {
		t.Fatalf("%d basins were tried, %d others, and %d with a way", basins, others, ways)
	}
}

// Each flow of a small net, and each row of heights, up to one past the bounds of heights.
func TestP75AllHeights(t *testing.T) {
	basins := 0
	for _, net := range []impl.Net{narrowLine(), bothWaysNet(), holding(eightNet(), 1), {Nodes: 2}, {Nodes: 3}, holding(zigzagNet(), 1)} {
		var rows [][]int
		for _, row := range smallFlows(impl.Net{Pipes: make([]impl.Pipe, net.Nodes)}, 2*net.Nodes+2) {
			rows = append(rows, raised(row, -1))
		}
		flows := allHeldFlows(net)
		if net.Nodes > 3 {
			rows = slices.DeleteFunc(rows, func(row []int) bool { return row[0] != 4 || row[3] != 0 })
		}
		forEnds([]impl.Net{net}, func(net impl.Net, from, to int) {
			if net.Nodes > 3 && (from != 0 || to != 3) {
				return
			}
			for _, flow := range flows {
				for _, heights := range rows {
					b := basinOf(flow, heights)
					want := wantBasin(net, from, to, b)
					if impl.BasinOk(net, from, to, b) != want {
						t.Fatalf("%v is a basin from %d to %d in %v: not %v", b, from, to, net, want)
					}
					if want {
						basins++
					}
				}
			}
		})
	}
	if basins == 0 {
		t.Fatal("no basin was tried")
	}
}

// basinCase is a basin, or not, by one thing in it.
type basinCase struct {
	why           string
	net           impl.Net
	from, to      int
	flow, heights []int
	want          bool
}

func checkBasins(t *testing.T, cases []basinCase) {
	t.Helper()
	for _, c := range cases {
		if impl.BasinOk(c.net, c.from, c.to, basinOf(c.flow, c.heights)) != c.want {
			t.Errorf("%s: %v with %v is a basin from %d to %d in %v: not %v", c.why, c.flow, c.heights, c.from, c.to, c.net, c.want)
		}
	}
}

func TestP75StepsThatLeadDown(t *testing.T) {
	line := holding(netOf(3, ends{0, 1}, ends{1, 2}), 2)
	narrow := impl.Net{Nodes: 3, Pipes: []impl.Pipe{{From: 0, To: 1, Most: 2}, {From: 1, To: 2, Most: 1}}}
	twice := holding(netOf(2, ends{0, 1}, ends{0, 1}), 4)
	checkBasins(t, []basinCase{
		{"a new one", line, 0, 2, []int{2, 0}, []int{3, 0, 0}, true},
		{"a step that leads down by 1", line, 0, 2, []int{2, 0}, []int{3, 1, 0}, true},
		{"a step that leads down by 2", line, 0, 2, []int{2, 0}, []int{3, 2, 0}, false},
		{"a step that leads down by 2, but is full", line, 0, 2, []int{2, 2}, []int{3, 2, 0}, true},
		{"a step that leads down by 2, and is not quite full", line, 0, 2, []int{2, 1}, []int{3, 2, 0}, false},
		{"a step back that leads down by 1", line, 0, 2, []int{2, 2}, []int{3, 4, 0}, true},
		{"a step back that leads down by 2", line, 0, 2, []int{2, 2}, []int{3, 5, 0}, false},
		{"a step back that leads down by 2, along a pipe that holds nothing", holding(line, 0), 0, 2, []int{0, 0}, []int{3, 5, 0}, true},
		{"a step from the first node that leads down by 2", line, 0, 2, []int{1, 0}, []int{3, 1, 0}, false},
		{"a step from the first node that leads down by 1, and a way", line, 0, 2, []int{1, 0}, []int{3, 2, 0}, false},
		{"a step from the first node that leads down by 1, and no way", line, 0, 2, []int{1, 0}, []int{3, 2, 1}, false},
		{"a step from the first node that leads down by 1, and a full pipe behind", narrow, 0, 2, []int{1, 1}, []int{3, 2, 0}, true},
		{"a step up from the first node", narrow, 0, 2, []int{1, 1}, []int{3, 4, 0}, true},
		{"all went back to the first node", line, 1, 0, []int{0, 2}, []int{0, 3, 4}, true},
		{"many pipes between both, all full", twice, 0, 1, []int{4, 4}, []int{2, 0}, true},
		{"many pipes between both, the last one not full", twice, 0, 1, []int{4, 3}, []int{2, 0}, false},
	})
}

func TestP75HeightsAndAmounts(t *testing.T) {
	line := holding(netOf(3, ends{0, 1}, ends{1, 2}), 2)
	aside := holding(netOf(3, ends{0, 1}), 2)
	back := holding(netOf(3, ends{0, 1}, ends{2, 1}), 2)
	checkBasins(t, []basinCase{
		{"a node at the height 0", aside, 0, 1, []int{2}, []int{3, 0, 0}, true},
		{"a node at less than that", aside, 0, 1, []int{2}, []int{3, 0, -1}, false},
		{"a node at twice the nodes", aside, 0, 1, []int{2}, []int{3, 0, 6}, true},
		{"a node at more than that", aside, 0, 1, []int{2}, []int{3, 0, 7}, false},
		{"the first node lower than the nodes", aside, 0, 1, []int{2}, []int{2, 0, 0}, false},
		{"the first node higher than the nodes", aside, 0, 1, []int{2}, []int{4, 0, 0}, false},
		{"the first node at 0", aside, 0, 1, []int{2}, []int{0, 0, 0}, false},
		{"the other one higher than 0", aside, 0, 1, []int{2}, []int{3, 1, 0}, false},
		{"the other one lower than 0", aside, 0, 1, []int{2}, []int{3, -1, 0}, false},
		{"both heights exchanged", aside, 1, 0, []int{2}, []int{3, 0, 0}, false},
		{"from another node, to which nothing comes", aside, 2, 0, []int{0}, []int{0, 0, 3}, true},
		{"a node gives what it has not", line, 0, 2, []int{1, 2}, []int{3, 2, 0}, false},
		{"the other one gives what it has not", back, 0, 2, []int{2, 1}, []int{3, 1, 0}, false},
		{"the other one gives nothing", back, 0, 2, []int{2, 0}, []int{3, 1, 0}, true},
		{"only the first one gives", back, 2, 1, []int{0, 2}, []int{1, 0, 3}, true},
		{"a node but both gives", back, 2, 1, []int{1, 2}, []int{1, 0, 3}, false},
		{"more than a pipe holds", line, 0, 2, []int{3, 0}, []int{3, 0, 0}, false},
		{"less than a pipe holds", line, 0, 2, []int{2, -1}, []int{3, 0, 0}, false},
		{"no heights", line, 0, 2, []int{2, 0}, nil, false},
		{"a height too few", line, 0, 2, []int{2, 0}, []int{3, 0}, false},
		{"a height too many", line, 0, 2, []int{2, 0}, []int{3, 0, 0, 0}, false},
		{"no amounts", line, 0, 2, nil, []int{3, 0, 0}, false},
		{"an amount too few", line, 0, 2, []int{2}, []int{3, 0, 0}, false},
		{"an amount too many", line, 0, 2, []int{2, 0, 0}, []int{3, 0, 0}, false},
		{"nothing at all", line, 0, 2, nil, nil, false},
		{"no pipes", impl.Net{Nodes: 2}, 0, 1, nil, []int{2, 0}, true},
		{"no pipes, and rows of nothing", impl.Net{Nodes: 2, Pipes: []impl.Pipe{}}, 1, 0, []int{}, []int{0, 2}, true},
		{"no pipes, and any heights between", impl.Net{Nodes: 5}, 4, 1, nil, []int{10, 0, 7, 0, 5}, true},
		{"pipes that hold nothing", holding(exampleNet(), 0), 0, 3, []int{0, 0, 0, 0, 0}, []int{4, 0, 8, 0}, true},
		{"the same node twice", line, 0, 0, []int{2, 0}, []int{3, 0, 0}, false},
		{"the same node twice, at 0", line, 2, 2, []int{2, 0}, []int{3, 0, 0}, false},
		{"a pipe that may not be empty, else it would be one", leastNet(), 0, 2, []int{4, 2}, []int{3, 1, 0}, false},
		{"all pipes may be empty, and it is one", freed(leastNet()), 0, 2, []int{4, 2}, []int{3, 1, 0}, true},
	})
}

func TestP75OthersAreNoBasins(t *testing.T) {
	forNoBasins(func(net impl.Net, from, to int, b impl.Basin) {
		if impl.BasinOk(net, from, to, b) {
			t.Fatalf("%v is a basin from %d to %d in %v", b, from, to, net)
		}
	})
	nearly := 0
	forEnds(boundNets(), func(net impl.Net, from, to int) {
		if wantBasin(net, from, to, wantNew(net, from)) {
			nearly++
		}
	})
	if nearly == 0 {
		t.Fatal("none was tried that would be a basin if its pipes might be empty")
	}
}

func TestP76NewBasinsAreBasins(t *testing.T) {
	forEnds(basinNets(), func(net impl.Net, from, to int) {
		b := basinNew(t, net, from, to)
		if want := wantNew(net, from); !sameBasin(b, want) || !impl.BasinOk(net, from, to, b) || !wantBasin(net, from, to, b) {
			t.Fatalf("the new basin from %d to %d in %v is %v, not %v", from, to, net, b, want)
		}
		left := -excessAt(t, net, b.Flow, from)
		if side := nodeAlone(from); left != roomOf(t, net, side) || left != wantRoom(net, side) {
			t.Fatalf("in the new basin from %d to %d in %v %d has left the first node", from, to, net, left)
		}
	})
}

func TestP76EachNewBasin(t *testing.T) {
	for _, c := range []struct {
		why           string
		net           impl.Net
		from, to      int
		flow, heights []int
	}{
		{"pipes to several nodes", exampleNet(), 0, 3, []int{3, 2, 0, 0, 0}, []int{4, 0, 0, 0}},
		{"pipes from a node within", exampleNet(), 1, 3, []int{0, 0, 1, 2, 0}, []int{0, 4, 0, 0}},
		{"the other node changes nothing", exampleNet(), 1, 0, []int{0, 0, 1, 2, 0}, []int{0, 4, 0, 0}},
		{"pipes to the other node alone", exampleNet(), 2, 3, []int{0, 0, 0, 0, 4}, []int{0, 0, 4, 0}},
		{"nothing leads from the first node", exampleNet(), 3, 0, []int{0, 0, 0, 0, 0}, []int{0, 0, 0, 4}},
		{"pipes that lead to the first node stay empty", bothWaysNet(), 1, 0, []int{2, 0}, []int{0, 2}},
		{"pipes that hold nothing", twinsNet(), 0, 2, []int{0, 2, 3, 0, 0}, []int{3, 0, 0}},
		{"pipes that all hold nothing", holding(exampleNet(), 0), 0, 3, []int{0, 0, 0, 0, 0}, []int{4, 0, 0, 0}},
		{"many pipes between both", streamNet(), 0, 1, []int{4, 1, 4, 4}, []int{2, 0}},
		{"many pipes back", streamNet(), 1, 0, []int{0, 0, 0, 0}, []int{0, 2}},
		{"no pipes", impl.Net{Nodes: 2}, 0, 1, nil, []int{2, 0}},
		{"no pipes, and as many nodes as may be", impl.Net{Nodes: 5, Pipes: []impl.Pipe{}}, 4, 0, nil, []int{0, 0, 0, 0, 5}},
	} {
		if b := basinNew(t, c.net, c.from, c.to); !sameBasin(b, basinOf(c.flow, c.heights)) {
			t.Errorf("%s: the new basin from %d to %d in %v is %v, not %v with %v", c.why, c.from, c.to, c.net, b, c.flow, c.heights)
		}
	}
}

func TestP76OthersHaveNoNewBasin(t *testing.T) {
	forNoBasinEnds(func(net impl.Net, from, to int, _ impl.Basin) {
		if b, ok := impl.BasinNew(net, from, to); !isNoBasin(b) || ok {
			t.Fatalf("the new basin from %d to %d in %v is %v, %v", from, to, net, b, ok)
		}
	})
}

// meets counts what the steps that are tried meet.
type meets map[string]int

func (m meets) count(what string, met bool) {
	if _, asked := m[what]; !asked {
		m[what] = 0
	}
	if met {
		m[what]++
	}
}

func (m meets) step(from, to int, s stepping, ok bool) {
	m.count("no node too full", !ok)
	m.count("several nodes too full", ok && s.others > 0)
	m.count("a lift by 1", ok && s.lift && s.amount == 1)
	m.count("a lift by more", ok && s.lift && s.amount > 1)
	push := ok && !s.lift
	m.count("several steps down", push && s.second)
	m.count("a push past steps that do not lead down", push && s.passed)
	m.count("as much as the step has room for", push && s.left > 0 && s.room == 0)
	m.count("as much as the node has", push && s.left == 0 && s.room > 0)
	m.count("both at once", push && s.left == 0 && s.room == 0)
	m.count("a push of several", push && s.amount > 1)
	m.count("to the other node", push && s.move.end == to)
	m.count("back to the first node", push && s.move.end == from && s.move.step%2 == 1)
	m.count("on to the first node", push && s.move.end == from && s.move.step%2 == 0)
	between := push && s.move.end != from && s.move.end != to
	m.count("on to a node between", between && s.move.step%2 == 0)
	m.count("back to a node between", between && s.move.step%2 == 1)
}

func (m meets) check(t *testing.T) {
	t.Helper()
	for what, times := range m {
		if times == 0 {
			t.Errorf("never tried: %s", what)
		}
	}
}

func TestP77StepsKeepBasinsAndNoHeightSinks(t *testing.T) {
	met := meets{}
	forBasins(func(net impl.Net, from, to int, b impl.Basin) {
		next, ok := impl.BasinStep(net, from, to, b)
		want, s, wantOk := wantStepping(net, from, to, b)
		if ok != wantOk || !sameBasin(next, want) {
			t.Fatalf("from %d to %d in %v %v is %v, %v after a step, not %v, %v", from, to, net, b, next, ok, want, wantOk)
		}
		if !impl.BasinOk(net, from, to, next) || !wantBasin(net, from, to, next) {
			t.Fatalf("from %d to %d in %v %v is %v after a step: no basin", from, to, net, b, next)
		}
		for node, height := range next.Heights {
			if height < b.Heights[node] {
				t.Fatalf("from %d to %d in %v %v is %v after a step: %d has sunk", from, to, net, b, next, node)
			}
		}
		sameFlow, sameHeights := slices.Equal(next.Flow, b.Flow), slices.Equal(next.Heights, b.Heights)
		if !sameFlow && !sameHeights || ok == (sameFlow && sameHeights) {
			t.Fatalf("from %d to %d in %v %v is %v, %v after a step", from, to, net, b, next, ok)
		}
		met.step(from, to, s, ok)
	})
	met.check(t)
}

func TestP77EachStep(t *testing.T) {
	line := holding(netOf(3, ends{0, 1}, ends{1, 2}), 2)
	wide := impl.Net{Nodes: 3, Pipes: []impl.Pipe{{From: 0, To: 1, Most: 1}, {From: 1, To: 2, Most: 4}}}
	aside := holding(netOf(4, ends{0, 1}, ends{1, 2}), 2)
	asideFirst := holding(netOf(4, ends{1, 2}, ends{0, 1}), 2)
	twin := holding(netOf(3, ends{0, 1}, ends{1, 2}, ends{1, 2}), 2)
	star := impl.Net{Nodes: 5, Pipes: []impl.Pipe{{From: 0, To: 1, Most: 4}, {From: 1, To: 2, Most: 2}, {From: 1, To: 3, Most: 2}, {From: 1, To: 4, Most: 1}}}
	for _, c := range []struct {
		why           string
		net           impl.Net
		from, to      int
		before, after impl.Basin
		want          bool
	}{
		{"lifted by 1", line, 0, 2, basinOf([]int{2, 0}, []int{3, 0, 0}), basinOf([]int{2, 0}, []int{3, 1, 0}), true},
		{"as much as the node has, and the step has room for", line, 0, 2, basinOf([]int{2, 0}, []int{3, 1, 0}), basinOf([]int{2, 2}, []int{3, 1, 0}), true},
		{"as much as the step has room for", narrowLine(), 0, 2, basinOf([]int{4, 0}, []int{3, 1, 0}), basinOf([]int{4, 1}, []int{3, 1, 0}), true},
		{"as much as the step has room for, though it is begun", twin, 0, 2, basinOf([]int{2, 1, 0}, []int{3, 1, 0}), basinOf([]int{2, 2, 0}, []int{3, 1, 0}), true},
		{"as much as the node has", wide, 0, 2, basinOf([]int{1, 0}, []int{3, 1, 0}), basinOf([]int{1, 1}, []int{3, 1, 0}), true},
		{"lifted over the first node", narrowLine(), 0, 2, basinOf([]int{4, 1}, []int{3, 1, 0}), basinOf([]int{4, 1}, []int{3, 4, 0}), true},
		{"back to the first node", narrowLine(), 0, 2, basinOf([]int{4, 1}, []int{3, 4, 0}), basinOf([]int{1, 1}, []int{3, 4, 0}), true},
		{"nothing is too much", narrowLine(), 0, 2, basinOf([]int{1, 1}, []int{3, 4, 0}), basinOf([]int{1, 1}, []int{3, 4, 0}), false},
		{"nothing is too much but at the other node", streamNet(), 0, 1, basinOf([]int{4, 1, 4, 4}, []int{2, 0}), basinOf([]int{4, 1, 4, 4}, []int{2, 0}), false},
		{"no pipes", impl.Net{Nodes: 3}, 0, 2, basinOf(nil, []int{3, 5, 0}), basinOf(nil, []int{3, 5, 0}), false},
		{"pipes that hold nothing", holding(line, 0), 0, 2, basinOf([]int{0, 0}, []int{3, 6, 0}), basinOf([]int{0, 0}, []int{3, 6, 0}), false},
		{"the first one of several pipes between the same nodes", twin, 0, 2, basinOf([]int{2, 0, 0}, []int{3, 1, 0}), basinOf([]int{2, 2, 0}, []int{3, 1, 0}), true},
		{"the first one of these that is not full", twin, 0, 2, basinOf([]int{2, 2, 0}, []int{3, 1, 0}), basinOf([]int{2, 2, 0}, []int{3, 1, 0}), false},
		{"the least one of two nodes is lifted", forkedNet(), 0, 3, basinOf([]int{3, 4, 0, 0, 0, 0, 0}, []int{4, 0, 0, 0}), basinOf([]int{3, 4, 0, 0, 0, 0, 0}, []int{4, 1, 0, 0}), true},
		{"the least one of two nodes is lifted, though the other one could push", forkedNet(), 0, 3, basinOf([]int{3, 4, 0, 0, 0, 0, 0}, []int{4, 0, 1, 0}), basinOf([]int{3, 4, 0, 0, 0, 0, 0}, []int{4, 1, 1, 0}), true},
		{"the least one of two nodes pushes to the other one", forkedNet(), 0, 3, basinOf([]int{3, 4, 0, 0, 0, 0, 0}, []int{4, 1, 0, 0}), basinOf([]int{3, 4, 0, 2, 0, 0, 0}, []int{4, 1, 0, 0}), true},
		{"a full step is passed by", forkedNet(), 0, 3, basinOf([]int{3, 4, 0, 2, 0, 0, 0}, []int{4, 1, 0, 0}), basinOf([]int{3, 4, 0, 2, 1, 0, 0}, []int{4, 1, 0, 0}), true},
		{"two full steps are passed by", forkedNet(), 0, 3, basinOf([]int{3, 4, 0, 2, 1, 0, 0}, []int{4, 1, 0, 0}), basinOf([]int{3, 4, 0, 2, 1, 1, 0}, []int{4, 1, 0, 0}), true},
		{"the next node is lifted", forkedNet(), 0, 3, basinOf([]int{3, 4, 0, 2, 1, 1, 0}, []int{4, 1, 0, 0}), basinOf([]int{3, 4, 0, 2, 1, 1, 0}, []int{4, 1, 1, 0}), true},
		{"back and on both lead down, and back is first", aside, 0, 3, basinOf([]int{2, 0}, []int{4, 5, 4, 0}), basinOf([]int{0, 0}, []int{4, 5, 4, 0}), true},
		{"back and on both lead down, and on is first", asideFirst, 0, 3, basinOf([]int{0, 2}, []int{4, 5, 4, 0}), basinOf([]int{2, 2}, []int{4, 5, 4, 0}), true},
		{"a step that does not lead down is passed by", exampleNet(), 0, 3, basinOf([]int{3, 2, 0, 0, 0}, []int{4, 1, 1, 0}), basinOf([]int{3, 2, 0, 2, 0}, []int{4, 1, 1, 0}), true},
		{"lifted over the lowest node to which a step leads, not a full one", star, 0, 4, basinOf([]int{4, 0, 0, 1}, []int{5, 0, 3, 2, 0}), basinOf([]int{4, 0, 0, 1}, []int{5, 3, 3, 2, 0}), true},
		{"lifted from where it is", star, 0, 4, basinOf([]int{4, 0, 0, 1}, []int{5, 1, 3, 4, 0}), basinOf([]int{4, 0, 0, 1}, []int{5, 4, 3, 4, 0}), true},
		{"lifted over a node as high as it is", star, 0, 4, basinOf([]int{4, 0, 0, 1}, []int{5, 3, 3, 4, 0}), basinOf([]int{4, 0, 0, 1}, []int{5, 4, 3, 4, 0}), true},
		{"lifted where nothing leads on", deadEndNet(), 0, 4, basinOf([]int{2, 2, 2}, []int{5, 6, 7, 0, 0}), basinOf([]int{2, 2, 2}, []int{5, 6, 7, 8, 0}), true},
		{"back to a node between", deadEndNet(), 0, 4, basinOf([]int{2, 2, 2}, []int{5, 6, 7, 8, 0}), basinOf([]int{2, 2, 0}, []int{5, 6, 7, 8, 0}), true},
		{"on to the first node", holding(netOf(3, ends{0, 1}, ends{1, 0}), 2), 0, 2, basinOf([]int{2, 1}, []int{3, 4, 0}), basinOf([]int{1, 1}, []int{3, 4, 0}), true},
		{"on to the first node, as the pipe on is first", holding(netOf(3, ends{1, 0}, ends{0, 1}), 2), 0, 2, basinOf([]int{1, 2}, []int{3, 4, 0}), basinOf([]int{2, 2}, []int{3, 4, 0}), true},
	} {
		if next, ok := impl.BasinStep(c.net, c.from, c.to, c.before); !sameBasin(next, c.after) || ok != c.want {
			t.Errorf("%s: from %d to %d in %v %v is %v, %v after a step, not %v, %v", c.why, c.from, c.to, c.net, c.before, next, ok, c.after, c.want)
		}
	}
}

func TestP77OthersHaveNoStep(t *testing.T) {
	forNoBasins(func(net impl.Net, from, to int, b impl.Basin) {
		if next, ok := impl.BasinStep(net, from, to, b); !isNoBasin(next) || ok {
			t.Fatalf("from %d to %d in %v %v is %v, %v after a step", from, to, net, b, next, ok)
		}
	})
}

func TestP78InTheEndNothingIsTooMuchAnywhere(t *testing.T) {
	met := meets{}
	forEnds(basinNets(), func(net impl.Net, from, to int) {
		b, steps := impl.BasinRun(net, from, to)
		want := wantRun(net, from, to)
		if steps != len(want)-1 || !sameBasin(b, want[len(want)-1]) {
			t.Fatalf("all steps from %d to %d in %v lead to %v, by %d steps, not %v, by %d", from, to, net, b, steps, want[len(want)-1], len(want)-1)
		}
		others := excesses(net, b.Flow)
		back := others[from] > -roomOf(t, net, nodeAlone(from))
		others[from], others[to] = 0, 0
		if !impl.BasinOk(net, from, to, b) || !wantBasin(net, from, to, b) || !allZero(others) {
			t.Fatalf("all steps from %d to %d in %v lead to %v", from, to, net, b)
		}
		if next, ok := impl.BasinStep(net, from, to, b); ok || !sameBasin(next, b) {
			t.Fatalf("after all steps from %d to %d in %v %v is %v, %v after one more", from, to, net, b, next, ok)
		}
		met.count("something flows back to the first node", back)
		met.count("nothing flows back to the first node", !back)
		met.count("no step", steps == 0)
		met.count("more than 20 steps", steps > 20)
	})
	met.check(t)
}

func TestP78StepByStep(t *testing.T) {
	forEnds(basinNets(), func(net impl.Net, from, to int) {
		last, count := basinNew(t, net, from, to), 0
		for next, ok := impl.BasinStep(net, from, to, last); ok; next, ok = impl.BasinStep(net, from, to, last) {
			last = next
			count++
		}
		if b, steps := impl.BasinRun(net, from, to); steps != count || !sameBasin(b, last) {
			t.Fatalf("all steps from %d to %d in %v lead to %v, by %d steps, but one by one to %v, by %d", from, to, net, b, steps, last, count)
		}
	})
}

func TestP78EachRun(t *testing.T) {
	for _, c := range []struct {
		why           string
		net           impl.Net
		from, to      int
		flow, heights []int
		steps         int
	}{
		{"nothing flows back", exampleNet(), 0, 3, []int{3, 2, 1, 2, 3}, []int{4, 1, 1, 0}, 5},
		{"each node helps the other one", forkedNet(), 0, 3, []int{3, 4, 1, 2, 1, 2, 4}, []int{4, 1, 2, 0}, 9},
		{"what cannot go on flows back", narrowLine(), 0, 2, []int{1, 1}, []int{3, 4, 0}, 4},
		{"all goes on", holding(narrowLine(), 2), 0, 2, []int{2, 2}, []int{3, 1, 0}, 2},
		{"all flows back", deadEndNet(), 0, 4, []int{0, 0, 0}, []int{5, 6, 6, 6, 0}, 26},
		{"all flows back at once", holding(netOf(3, ends{0, 1}), 2), 0, 2, []int{0}, []int{3, 4, 0}, 2},
		{"all flows back on", holding(netOf(3, ends{1, 0}, ends{0, 1}), 2), 0, 2, []int{2, 2}, []int{3, 4, 0}, 2},
		{"nothing leads from the first node", exampleNet(), 3, 0, []int{0, 0, 0, 0, 0}, []int{0, 0, 0, 4}, 0},
		{"pipes that hold nothing", holding(exampleNet(), 0), 0, 3, []int{0, 0, 0, 0, 0}, []int{4, 0, 0, 0}, 0},
		{"many pipes between both", streamNet(), 0, 1, []int{4, 1, 4, 4}, []int{2, 0}, 0},
		{"both ways", bothWaysNet(), 1, 0, []int{2, 0}, []int{0, 2}, 0},
		{"several pipes one behind the other", twinsNet(), 0, 2, []int{0, 1, 3, 3, 1}, []int{3, 4, 0}, 5},
		{"no pipes", impl.Net{Nodes: 2}, 0, 1, nil, []int{2, 0}, 0},
		{"no pipes, and as many nodes as may be", impl.Net{Nodes: 5, Pipes: []impl.Pipe{}}, 1, 3, nil, []int{0, 5, 0, 0, 0}, 0},
	} {
		if b, steps := impl.BasinRun(c.net, c.from, c.to); steps != c.steps || !sameBasin(b, basinOf(c.flow, c.heights)) {
			t.Errorf("%s: all steps from %d to %d in %v lead to %v, by %d steps, not %v with %v, by %d", c.why, c.from, c.to, c.net, b, steps, c.flow, c.heights, c.steps)
		}
	}
}

func TestP78OthersHaveNoRun(t *testing.T) {
	forNoBasinEnds(func(net impl.Net, from, to int, _ impl.Basin) {
		if b, steps := impl.BasinRun(net, from, to); !isNoBasin(b) || steps != -1 {
			t.Fatalf("all steps from %d to %d in %v lead to %v, by %d steps", from, to, net, b, steps)
		}
	})
}

func TestP79TwoRoadsLeadToTheGreatestFlow(t *testing.T) {
	none, other := 0, 0
	forEnds(basinNets(), func(net impl.Net, from, to int) {
		spilled := impl.SpilledOf(net, from, to)
		if want, _ := wantNarrowest(net, from, to); spilled != want || spilled != leastRoom(t, net, from, to) {
			t.Fatalf("%d is spilled from %d to %d in %v, not %d", spilled, from, to, net, want)
		}
		if value := impl.GreatestValue(net, from, to); spilled != value {
			t.Fatalf("%d is spilled from %d to %d in %v, and by ways it is %d", spilled, from, to, net, value)
		}
		b := basinRun(t, net, from, to)
		if over := excesses(net, b.Flow); over[to] != spilled || over[from] != -spilled || excessAt(t, net, b.Flow, to) != spilled {
			t.Fatalf("%d is spilled from %d to %d in %v, but %v is left", spilled, from, to, net, b)
		}
		if spilled == 0 {
			none++
		}
		if !slices.Equal(b.Flow, greatestFlow(t, net, from, to)) {
			other++
		}
	})
	if none == 0 || other == 0 {
		t.Fatalf("%d were tried in which nothing is spilled, and %d with another flow than by ways", none, other)
	}
}

func TestP79EachSpilled(t *testing.T) {
	for _, c := range []struct {
		why      string
		net      impl.Net
		from, to int
		want     int
	}{
		{"the example", exampleNet(), 0, 3, 5},
		{"from a node within", exampleNet(), 1, 3, 3},
		{"to a node within", exampleNet(), 0, 2, 3},
		{"one pipe", exampleNet(), 1, 2, 1},
		{"all pipes lead the other way", exampleNet(), 3, 0, 0},
		{"each node helps the other one", forkedNet(), 0, 3, 7},
		{"most flows back", narrowLine(), 0, 2, 1},
		{"all flows back", deadEndNet(), 0, 4, 0},
		{"to a dead end", deadEndNet(), 0, 3, 2},
		{"a pipe back to the first node", holding(loopNet(), 4), 0, 3, 4},
		{"pipes from the other node on", holding(loopNet(), 4), 0, 1, 4},
		{"rings at both ends", roundaboutNet(), 0, 3, 4},
		{"pipes that hold nothing", holding(exampleNet(), 0), 0, 3, 0},
		{"many pipes between both", streamNet(), 0, 1, 13},
		{"as many pipes as may be", holding(impl.Net{Nodes: 2, Pipes: slices.Repeat([]impl.Pipe{{From: 1, To: 0}}, impl.MaxPipes)}, impl.MaxHold), 1, 0, impl.MaxPipes * impl.MaxHold},
		{"no pipes", impl.Net{Nodes: 2}, 0, 1, 0},
		{"no pipes, and as many nodes as may be", impl.Net{Nodes: 5, Pipes: []impl.Pipe{}}, 4, 0, 0},
		{"a pipe that may not be empty", leastNet(), 0, 2, -1},
		{"the same node twice", exampleNet(), 2, 2, -1},
		{"a node below 0", exampleNet(), -1, 3, -1},
		{"a node past the last one", exampleNet(), 0, 4, -1},
		{"no nodes", impl.Net{}, 0, 0, -1},
	} {
		if spilled := impl.SpilledOf(c.net, c.from, c.to); spilled != c.want {
			t.Errorf("%s: %d is spilled from %d to %d in %v, not %d", c.why, spilled, c.from, c.to, c.net, c.want)
		}
	}
}

func TestP79OthersSpillNothing(t *testing.T) {
	forNoBasinEnds(func(net impl.Net, from, to int, _ impl.Basin) {
		if spilled := impl.SpilledOf(net, from, to); spilled != -1 {
			t.Fatalf("%d is spilled from %d to %d in %v", spilled, from, to, net)
		}
	})
}

// stuckSide has all nodes but the end from which there is no way to it.
func stuckSide(t *testing.T, net impl.Net, flow []int, to int) int {
	t.Helper()
	side := 0
	for node := range net.Nodes {
		if node != to && len(wayFrom(t, net, flow, node, to)) == 0 {
			side += nodeAlone(node)
		}
	}
	return side
}

func TestP80WhatCannotComeToTheEndIsANarrowestSide(t *testing.T) {
	one, several := 0, 0
	forEnds(basinNets(), func(net impl.Net, from, to int) {
		b := basinRun(t, net, from, to)
		side := stuckSide(t, net, b.Flow, to)
		_, sides := wantNarrowest(net, from, to)
		if !slices.Contains(sides, side) || !slices.Equal(impl.NarrowestOf(net, from, to), sides) {
			t.Fatalf("from %d of %v nothing comes to %d in %v of %v, but narrowest are %v", side, from, to, b, net, sides)
		}
		for _, narrow := range sides {
			if narrow|side != side {
				t.Fatalf("narrowest side %d from %d to %d in %v is not within %d", narrow, from, to, net, side)
			}
		}
		if acrossOf(t, net, b.Flow, side) != roomOf(t, net, side) {
			t.Fatalf("%v does not fill %d from %d to %d in %v", b, side, from, to, net)
		}
		if len(sides) == 1 {
			one++
		} else {
			several++
		}
	})
	if one == 0 || several == 0 {
		t.Fatalf("%d were tried with one narrowest side, and %d with several", one, several)
	}
}

func TestP80EachSide(t *testing.T) {
	for _, c := range []struct {
		why      string
		net      impl.Net
		from, to int
		want     int
	}{
		{"the greater one of two", exampleNet(), 0, 3, 3},
		{"most flowed back", narrowLine(), 0, 2, 3},
		{"all flowed back", deadEndNet(), 0, 4, 15},
		{"all but the end of a line", lineOfPipes(), 0, 4, 15},
		{"the first node alone", holding(netOf(3, ends{0, 1}, ends{1, 2}, ends{1, 2}), 2), 0, 2, 1},
		{"nodes from which nothing leads on", holding(netOf(4, ends{0, 1}, ends{0, 2}), 2), 0, 1, 13},
		{"nodes to which nothing leads", holding(netOf(4, ends{0, 1}, ends{2, 1}, ends{2, 3}), 2), 0, 1, 9},
		{"pipes that hold nothing", holding(exampleNet(), 0), 0, 3, 7},
		{"many pipes between both", streamNet(), 0, 1, 1},
		{"no pipes", impl.Net{Nodes: 2}, 1, 0, 2},
		{"no pipes, and as many nodes as may be", impl.Net{Nodes: 5}, 2, 1, 29},
	} {
		if side := stuckSide(t, c.net, basinRun(t, c.net, c.from, c.to).Flow, c.to); side != c.want {
			t.Errorf("%s: from %d of %v nothing comes to %d, not from %d", c.why, side, c.net, c.to, c.want)
		}
	}
}

func TestP80OthersHaveNoSide(t *testing.T) {
	forNoBasinEnds(func(net impl.Net, from, to int, _ impl.Basin) {
		b, steps := impl.BasinRun(net, from, to)
		if sides := impl.NarrowestOf(net, from, to); steps != -1 || len(b.Flow) != 0 || impl.FreeOk(net) && len(sides) != 0 {
			t.Fatalf("all steps from %d to %d in %v lead to %v, by %d steps, and narrowest are %v", from, to, net, b, steps, sides)
		}
	})
}

func TestP81HeightsStayBelowTwiceTheNodes(t *testing.T) {
	met := meets{}
	forEnds(basinNets(), func(net impl.Net, from, to int) {
		b := basinRun(t, net, from, to)
		for node, height := range b.Heights {
			if height < 0 || height >= 2*net.Nodes {
				t.Fatalf("after all steps from %d to %d in %v %d is at %d", from, to, net, node, height)
			}
			met.count("a node higher than the first one", height > net.Nodes)
			met.count("a node at 2 less than twice the nodes", net.Nodes == impl.MaxNodes && height == 2*net.Nodes-2)
			met.count("a node between both", height > 0 && height < net.Nodes)
		}
		for _, way := range wantRun(net, from, to) {
			if next, _ := impl.BasinStep(net, from, to, way); slices.Max(next.Heights) >= 2*net.Nodes {
				t.Fatalf("from %d to %d in %v %v is %v after a step", from, to, net, way, next)
			}
		}
	})
	met.check(t)
}

func TestP81EachHeight(t *testing.T) {
	high := impl.Net{Nodes: 5, Pipes: []impl.Pipe{{From: 0, To: 1, Most: 1}, {From: 1, To: 2, Most: 1}, {From: 2, To: 1, Most: 1}}}
	for _, c := range []struct {
		why      string
		net      impl.Net
		from, to int
		want     []int
	}{
		{"all go on", lineOfPipes(), 0, 4, []int{5, 1, 1, 1, 0}},
		{"some flow back", narrowLine(), 0, 2, []int{3, 4, 0}},
		{"all flow back", deadEndNet(), 0, 4, []int{5, 6, 6, 6, 0}},
		{"some go round, and back", high, 0, 4, []int{5, 6, 6, 0, 0}},
		{"no node is lifted", streamNet(), 0, 1, []int{2, 0}},
		{"no pipes", impl.Net{Nodes: 5}, 3, 2, []int{0, 0, 0, 5, 0}},
		{"no net", impl.Net{Nodes: 1}, 0, 0, nil},
		{"the same node twice", lineOfPipes(), 1, 1, nil},
		{"a pipe that may not be empty", leastNet(), 0, 2, nil},
	} {
		if b, _ := impl.BasinRun(c.net, c.from, c.to); !slices.Equal(b.Heights, c.want) {
			t.Errorf("%s: after all steps from %d to %d in %v the heights are %v, not %v", c.why, c.from, c.to, c.net, b.Heights, c.want)
		}
	}
}

func TestPushesOnlyReadAndShareNothing(t *testing.T) {
	rows := func(b impl.Basin) [][]int { return [][]int{b.Flow, b.Heights} }
	for _, net := range basinNets() {
		net.Pipes = roomy(net.Pipes)
		pipes := slices.Clone(net.Pipes[:cap(net.Pipes)])
		forEnds([]impl.Net{net}, func(net impl.Net, from, to int) {
			rowsSpoiledAgain(t, func() [][]int { b, _ := impl.BasinNew(net, from, to); return rows(b) })
			rowsSpoiledAgain(t, func() [][]int { b, _ := impl.BasinRun(net, from, to); return rows(b) })
			impl.SpilledOf(net, from, to)
			for _, b := range append(wantRun(net, from, to), drawnBasins(net, from, to)...) {
				flow, heights := roomy(b.Flow), roomy(b.Heights)
				given := basinOf(flow, heights)
				impl.BasinOk(net, from, to, given)
				rowsSpoiledAgain(t, func() [][]int { next, _ := impl.BasinStep(net, from, to, given); return rows(next) })
				for _, whole := range [][2][]int{{flow, roomy(b.Flow)}, {heights, roomy(b.Heights)}} {
					if a, want := whole[0], whole[1]; !slices.Equal(a[:cap(a)], want[:cap(want)]) {
						t.Fatalf("changed: %v", a)
					}
				}
			}
		})
		if !slices.Equal(net.Pipes[:cap(net.Pipes)], pipes) {
			t.Fatalf("changed: %v", net)
		}
	}
}
