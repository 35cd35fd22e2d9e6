package tests

import (
	"math"
	"slices"
	"testing"

	"loop.example/balancedpipes/impl"
)

// holding is the net with pipes that may be empty, and all hold so much.
func holding(net impl.Net, most int) impl.Net {
	net = freed(net)
	for at := range net.Pipes {
		net.Pipes[at].Most = most
	}
	return net
}

// streamNet has pipes between two nodes that hold together one more than may be needed.
func streamNet() impl.Net {
	return impl.Net{Nodes: 2, Pipes: []impl.Pipe{
		{From: 0, To: 1, Most: 4, Cost: 9},
		{From: 0, To: 1, Most: 1, Cost: -9},
		{From: 0, To: 1, Most: 4, Cost: 9},
		{From: 0, To: 1, Most: 4, Cost: 8},
	}}
}

// starsNet leads from node 0 to the nodes 1 and 2 by node 3 as well as by node 4.
func starsNet() impl.Net {
	return holding(netOf(5, ends{0, 3}, ends{3, 1}, ends{3, 2}, ends{0, 4}, ends{4, 1}, ends{4, 2}), 1)
}

// handNet brings what nodes 0 and 1 give to 2 and 3 only if what 0 gave 2 goes back, and 1 gives it.
func handNet() impl.Net {
	return holding(netOf(4, ends{0, 2}, ends{0, 3}, ends{1, 2}), 1)
}

// needNets are free nets, some with rings that gain.
func needNets() []impl.Net {
	nets := append(freeNets(), bothWaysNet(), twinsNet(), streamNet(), starsNet(), impl.TurnedNet(starsNet()), handNet())
	for _, net := range costNets() {
		nets = append(nets, freed(net))
	}
	return nets
}

func otherSigns(row []int) []int {
	other := make([]int, len(row))
	for i, n := range row {
		other[i] -= n
	}
	return other
}

// moved is the row with so much more at one place, and as much less at another one.
func moved(row []int, to, from, by int) []int {
	return changed(changed(row, to, by), from, -by)
}

// movedNeeds are together 0, but may be past the bounds.
func (d *draws) movedNeeds(nodes, moves, most int) []int {
	needs := make([]int, nodes)
	for range moves {
		needs = moved(needs, d.below(nodes), d.below(nodes), d.below(most+1))
	}
	return needs
}

func wantNeeds(net impl.Net, needs []int) bool {
	if !impl.NetOk(net) || !allZero(leastFlow(net)) || len(needs) != net.Nodes {
		return false
	}
	sum := 0
	for _, need := range needs {
		if need < -impl.MaxNeed || need > impl.MaxNeed {
			return false
		}
		sum += need
	}
	return sum == 0
}

// someNeeds are needs of nothing, such that pipes can bring, such that are nearly so, and others.
func someNeeds(net impl.Net, d *draws) [][]int {
	needs := [][]int{make([]int, net.Nodes)}
	for _, flow := range heldFlows(net)[1:] {
		row := excesses(net, flow)
		needs = append(needs, row, moved(row, d.below(net.Nodes), d.below(net.Nodes), 1))
	}
	for _, most := range []int{1, 2, 4, impl.MaxNeed} {
		needs = append(needs, d.movedNeeds(net.Nodes, 1, most), d.movedNeeds(net.Nodes, 3, most))
	}
	return slices.DeleteFunc(needs, func(row []int) bool { return !wantNeeds(net, row) })
}

func forNeeds(try func(net impl.Net, needs []int)) {
	d := &draws{state: 10}
	for _, net := range needNets() {
		for _, needs := range someNeeds(net, d) {
			try(net, needs)
		}
	}
}

// cutOffNeeds are together 0, or would be if numbers were cut off, but are past the bounds.
func cutOffNeeds() [][]int {
	return [][]int{
		{impl.MaxNeed + 1, -impl.MaxNeed - 1},
		{-impl.MaxNeed - 1, impl.MaxNeed + 1},
		{impl.MaxNeed + 1, -impl.MaxNeed, -1},
		{impl.MaxNeed, 1, -impl.MaxNeed - 1},
		{0, 0, 0, -impl.MaxNeed - 1, impl.MaxNeed + 1},
		{math.MinInt, math.MinInt},
		{math.MinInt, 0, math.MinInt},
		{math.MaxInt, math.MaxInt, 2},
		{2, math.MaxInt, math.MaxInt},
		{math.MaxInt, math.MinInt, 1},
		{math.MinInt / 2, math.MinInt / 2, math.MinInt / 2, math.MinInt / 2},
		{math.MinInt, -1, math.MaxInt, 1, 1},
		{1 << 32, 0},
		{1 << 31, 1 << 31},
		{-1 << 31, -1 << 31},
		{1 << 16, 0},
		{1<<15 - 1, 1<<15 - 1, 2},
		{256, 0},
		{128, 128},
		{-128, -128},
	}
}

// forNoNeeds tries what are no needs of a free net, each for one reason alone, and also such as pipes could bring.
func forNoNeeds(try func(net impl.Net, needs []int)) {
	for _, net := range needNets() {
		for _, needs := range badNumbers(net.Nodes, impl.MaxNeed) {
			try(net, needs)
		}
		full := excesses(net, amountsOf(net, func(p impl.Pipe) int { return p.Most }))
		try(net, full[:net.Nodes-1])
		try(net, append(full, 0))
		for node := range net.Nodes {
			try(net, changed(make([]int, net.Nodes), node, 1))
			try(net, changed(make([]int, net.Nodes), node, -1))
		}
	}
	for _, needs := range cutOffNeeds() {
		try(impl.Net{Nodes: len(needs)}, needs)
		try(impl.Net{Nodes: len(needs), Pipes: streamNet().Pipes}, needs)
		try(impl.Net{Nodes: len(needs), Pipes: impl.TurnedNet(streamNet()).Pipes}, needs)
	}
	for _, net := range append(boundNets(), tightNet(), dryNet(), forkNet(), crossNet()) {
		try(net, make([]int, net.Nodes))
		try(net, excesses(net, leastFlow(net)))
	}
	forNoNets(func(net impl.Net) {
		for nodes := range impl.MaxNodes + 2 {
			try(net, make([]int, nodes))
		}
		if net.Nodes == 3 {
			try(net, []int{-1, 1, 0})
		}
	})
	many := impl.Net{Nodes: 2, Pipes: slices.Repeat([]impl.Pipe{{From: 0, To: 1, Most: 4}}, impl.MaxPipes+1)}
	try(many, []int{-1, 1})
}

// rowOfNodes is a row of excesses with a place for each node that there may be.
type rowOfNodes [impl.MaxNodes]int

// leastCosts tells which excesses the nodes may have in flows that all pipes hold, and what such a flow costs at least, without asking the program: pipe by pipe.
func leastCosts(net impl.Net) map[rowOfNodes]int {
	costs := map[rowOfNodes]int{{}: 0}
	for _, p := range net.Pipes {
		after := map[rowOfNodes]int{}
		for row, cost := range costs {
			for amount := p.Least; amount <= p.Most; amount++ {
				if least, ok := after[row]; !ok || cost < least {
					after[row] = cost
				}
				row[p.From]--
				row[p.To]++
				cost += p.Cost
			}
		}
		costs = after
	}
	return costs
}

func costOfRow(costs map[rowOfNodes]int, needs []int) (int, bool) {
	var row rowOfNodes
	copy(row[:], needs)
	cost, ok := costs[row]
	return cost, ok
}

// wantShort tries all sides, one by one, without asking the program.
func wantShort(net impl.Net, needs []int) (int, bool) {
	for side := 0; side <= allNodes(net); side++ {
		if lackOf(net, needs, side) > 0 {
			return side, true
		}
	}
	return -1, false
}

// lackOf tells how much more the nodes of a side need than may come in.
func lackOf(net impl.Net, needs []int, side int) int {
	lack, nodes := 0, nodesOf(net, side)
	for node, has := range nodes {
		if has {
			lack += needs[node]
		}
	}
	for _, p := range net.Pipes {
		if nodes[p.To] && !nodes[p.From] {
			lack -= p.Most
		}
	}
	return lack
}

func feedingOf(t *testing.T, net impl.Net, needs []int) ([]int, bool) {
	t.Helper()
	flow, ok := impl.FeedingOf(net, needs)
	if !ok && len(flow) != 0 {
		t.Fatalf("the flow that feeds %v in %v is %v, %v", needs, net, flow, ok)
	}
	return flow, ok
}

func shortSide(t *testing.T, net impl.Net, needs []int) (int, bool) {
	t.Helper()
	side, ok := impl.ShortSide(net, needs)
	if !ok && side != -1 {
		t.Fatalf("the side that is short of %v in %v is %d, %v", needs, net, side, ok)
	}
	return side, ok
}

func cheapestFeed(t *testing.T, net impl.Net, needs []int) (int, bool) {
	t.Helper()
	cost, ok := impl.CheapestFeed(net, needs)
	if !ok && cost != 0 {
		t.Fatalf("the least cost of what feeds %v in %v is %d, %v", needs, net, cost, ok)
	}
	return cost, ok
}

// checkNeeds asks of the net, and of the turned net with all signs exchanged.
func checkNeeds(t *testing.T, net impl.Net, needs []int, want bool) {
	t.Helper()
	if impl.NeedsOk(net, needs) != want {
		t.Fatalf("%v are needs of %v: not %v", needs, net, want)
	}
	if turned := impl.TurnedNet(net); impl.NeedsOk(turned, otherSigns(needs)) != want {
		t.Fatalf("%v are needs of the turned %v: not %v", otherSigns(needs), turned, want)
	}
}

func TestP64NoNeedsAreNeeds(t *testing.T) {
	free, others := 0, 0
	for _, net := range append(goodNets(), needNets()...) {
		want := allZero(leastFlow(net))
		checkNeeds(t, net, make([]int, net.Nodes), want)
		if want {
			free++
		} else {
			others++
		}
	}
	if free == 0 || others == 0 {
		t.Fatalf("%d free nets were tried, and %d others", free, others)
	}
}

func TestP64NeedsAreTogetherNothing(t *testing.T) {
	d := &draws{state: 64}
	fits, past, odd := 0, 0, 0
	for _, net := range needNets() {
		for most := range impl.MaxNeed + 2 {
			for _, needs := range [][]int{d.movedNeeds(net.Nodes, 1, most), d.movedNeeds(net.Nodes, 4, most), d.signed(net.Nodes, most)} {
				want := wantNeeds(net, needs)
				checkNeeds(t, net, needs, want)
				switch {
				case want:
					fits++
				case slices.Max(needs) > impl.MaxNeed || slices.Min(needs) < -impl.MaxNeed:
					past++
				default:
					odd++
				}
			}
		}
	}
	if fits == 0 || past == 0 || odd == 0 {
		t.Fatalf("%d needs were tried, %d past the bounds, and %d that are not together nothing", fits, past, odd)
	}
}

func TestP64EachTwoNeeds(t *testing.T) {
	for _, net := range []impl.Net{{Nodes: 2}, bothWaysNet(), streamNet()} {
		for a := -impl.MaxNeed - 2; a <= impl.MaxNeed+2; a++ {
			for b := -impl.MaxNeed - 2; b <= impl.MaxNeed+2; b++ {
				checkNeeds(t, net, []int{a, b}, a+b == 0 && -impl.MaxNeed <= a && a <= impl.MaxNeed)
			}
		}
	}
}

func TestP64NeedsAtTheBounds(t *testing.T) {
	for _, c := range []struct {
		why   string
		needs []int
		want  bool
	}{
		{"the least one and the greatest one", []int{-12, 12}, true},
		{"the greatest one first", []int{12, -12}, true},
		{"one past each", []int{-13, 13}, false},
		{"one past the greatest", []int{13, -12, -1}, false},
		{"one past the least", []int{1, -13, 12}, false},
		{"the last one past the greatest", []int{-12, -1, 0, 0, 13}, false},
		{"the last one past the least", []int{12, 1, 0, -13}, false},
		{"two at each bound", []int{12, -12, -12, 12}, true},
		{"two at the greatest one", []int{12, -8, 12, -7, -9}, true},
		{"one less than nothing together", []int{12, -12, -1}, false},
		{"one more than nothing together", []int{-12, 12, 1}, false},
		{"far from nothing together", []int{12, 12, 12, 12, 12}, false},
		{"the first ones are together nothing", []int{3, -3, 1}, false},
		{"the last ones are together nothing", []int{1, 3, -3}, false},
		{"nothing", []int{0, 0, 0}, true},
	} {
		for _, pipes := range [][]impl.Pipe{nil, {}, streamNet().Pipes} {
			net := impl.Net{Nodes: len(c.needs), Pipes: pipes}
			if impl.NeedsOk(net, c.needs) != c.want {
				t.Errorf("%s: %v are needs of %v: not %v", c.why, c.needs, net, c.want)
			}
		}
	}
}

func TestP64ANeedForEachNode(t *testing.T) {
	for nodes := 2; nodes <= impl.MaxNodes; nodes++ {
		for count := range impl.MaxNodes + 3 {
			for _, needs := range [][]int{make([]int, count), roomy(make([]int, count))} {
				if impl.NeedsOk(impl.Net{Nodes: nodes}, needs) != (count == nodes) {
					t.Errorf("%d needs of %d nodes: not %v", count, nodes, count == nodes)
				}
			}
		}
		if impl.NeedsOk(impl.Net{Nodes: nodes}, nil) {
			t.Errorf("no row is one of needs of %d nodes", nodes)
		}
	}
}

func TestP64OthersAreNoNeeds(t *testing.T) {
	forNoNeeds(func(net impl.Net, needs []int) {
		if impl.NeedsOk(net, needs) || impl.NeedsOk(impl.TurnedNet(net), otherSigns(needs)) {
			t.Fatalf("needs of %v: %v", net, needs)
		}
	})
}

func checkFeeds(t *testing.T, net impl.Net, flow, needs []int, want bool) {
	t.Helper()
	if impl.FeedsOk(net, flow, needs) != want {
		t.Fatalf("%v feeds %v in %v: not %v", flow, needs, net, want)
	}
	if turned := impl.TurnedNet(net); impl.FeedsOk(turned, flow, otherSigns(needs)) != want {
		t.Fatalf("%v feeds %v in the turned %v: not %v", flow, otherSigns(needs), turned, want)
	}
}

func TestP65TurnedFlowsFeedTurnedNeeds(t *testing.T) {
	fed, others := 0, 0
	forNeeds(func(net impl.Net, needs []int) {
		for _, flow := range heldFlows(net) {
			want := slices.Equal(excesses(net, flow), needs)
			checkFeeds(t, net, flow, needs, want)
			if want {
				fed++
			} else {
				others++
			}
		}
	})
	if fed == 0 || others == 0 {
		t.Fatalf("%d flows that feed were tried, and %d others", fed, others)
	}
}

func TestP65EmptyPipesFeedNeedsOfNothing(t *testing.T) {
	forNeeds(func(net impl.Net, needs []int) { checkFeeds(t, net, filled(net, 0), needs, allZero(needs)) })
}

func TestP65JustTheExcessesAreFed(t *testing.T) {
	past := 0
	for _, net := range needNets() {
		for _, flow := range heldFlows(net) {
			needs := excesses(net, flow)
			want := wantNeeds(net, needs)
			checkFeeds(t, net, flow, needs, want)
			if !want {
				past++
			}
			forEnds([]impl.Net{net}, func(net impl.Net, from, to int) {
				checkFeeds(t, net, flow, moved(needs, to, from, 1), false)
			})
			for node := range net.Nodes {
				checkFeeds(t, net, flow, changed(needs, node, 1), false)
			}
			for at, p := range net.Pipes {
				checkFeeds(t, net, changed(flow, at, 1), needs, false)
				more := changed(flow, at, 1)
				after := excesses(net, more)
				checkFeeds(t, net, more, after, flow[at] < p.Most && wantNeeds(net, after))
			}
		}
	}
	if past == 0 {
		t.Fatal("no excess was tried that is past the bounds")
	}
}

func TestP65FlowsThatFeed(t *testing.T) {
	for _, c := range []struct {
		why         string
		net         impl.Net
		flow, needs []int
		want        bool
	}{
		{"one node gives to two", exampleNet(), []int{2, 1, 0, 2, 0}, []int{-3, 0, 1, 2}, true},
		{"another way", exampleNet(), []int{1, 2, 0, 1, 1}, []int{-3, 0, 1, 2}, true},
		{"two nodes exchanged", exampleNet(), []int{2, 1, 0, 2, 0}, []int{-3, 1, 0, 2}, false},
		{"the other signs", exampleNet(), []int{2, 1, 0, 2, 0}, []int{3, 0, -1, -2}, false},
		{"as much as may be needed", streamNet(), []int{4, 0, 4, 4}, []int{-12, 12}, true},
		{"more than may be needed", streamNet(), []int{4, 1, 4, 4}, []int{-13, 13}, false},
		{"a ring beside", holding(pairNet(), 2), filled(pairNet(), 1), make([]int, pairNet().Nodes), true},
		{"no pipes, and no needs", impl.Net{Nodes: 3}, nil, []int{0, 0, 0}, true},
		{"no pipes, but needs", impl.Net{Nodes: 3}, nil, []int{1, 0, -1}, false},
		{"pipes that hold nothing", holding(exampleNet(), 0), make([]int, 5), []int{0, 0, 0, 0}, true},
		{"more than a pipe holds", twinsNet(), []int{1, 0, 0, 0, 0}, []int{-1, 1, 0}, false},
		{"less than nothing in a pipe", bothWaysNet(), []int{-1, 0}, []int{-1, 1}, false},
		{"pipes that may not be empty", leastNet(), []int{2, 2}, []int{-2, 0, 2}, false},
		{"a balanced flow in such pipes", tightNet(), []int{2, 2, 2}, []int{0, 0, 0}, false},
	} {
		if impl.FeedsOk(c.net, c.flow, c.needs) != c.want {
			t.Errorf("%s: %v feeds %v in %v: not %v", c.why, c.flow, c.needs, c.net, c.want)
		}
	}
}

func TestP65OthersFeedNothing(t *testing.T) {
	none := func(net impl.Net, flow, needs []int) {
		t.Helper()
		if impl.FeedsOk(net, flow, needs) {
			t.Fatalf("%v feeds %v in %v", flow, needs, net)
		}
	}
	forNoNeeds(func(net impl.Net, needs []int) {
		none(net, filled(net, 0), needs)
		none(net, leastFlow(net), needs)
		none(net, amountsOf(net, func(p impl.Pipe) int { return p.Most }), needs)
	})
	for _, net := range needNets() {
		for _, flow := range badFlows(net) {
			none(net, flow, make([]int, net.Nodes))
			if len(flow) == len(net.Pipes) {
				none(net, flow, excesses(net, flow))
			}
		}
	}
}

func TestP66NeedsAreFedJustIfNoSideIsShort(t *testing.T) {
	seen, fed, none := &circling{}, 0, 0
	d := &draws{state: 66}
	for _, net := range needNets() {
		costs := leastCosts(net)
		for _, needs := range someNeeds(net, d) {
			flow, ok := feedingOf(t, net, needs)
			if want, wantOk := wantFed(net, filled(net, 0), needs, seen); ok != wantOk || !slices.Equal(flow, want) {
				t.Fatalf("the flow that feeds %v in %v is %v, %v, not %v, %v", needs, net, flow, ok, want, wantOk)
			}
			if _, short := shortSide(t, net, needs); short == ok {
				t.Fatalf("the flow that feeds %v in %v is %v, %v, and a side is short: %v", needs, net, flow, ok, short)
			}
			if _, can := costOfRow(costs, needs); can != ok {
				t.Fatalf("the flow that feeds %v in %v is %v, %v, and there is one: %v", needs, net, flow, ok, can)
			}
			if !ok {
				none++
				continue
			}
			if !impl.FeedsOk(net, flow, needs) || !slices.Equal(excesses(net, flow), needs) {
				t.Fatalf("the flow that feeds %v in %v is %v", needs, net, flow)
			}
			if !allZero(flow) {
				fed++
			}
		}
	}
	if fed < 100 || none < 100 {
		t.Fatalf("%d needs were tried that can be fed, and %d that cannot", fed, none)
	}
	if seen.back == 0 || seen.past == 0 || seen.full == 0 || seen.given == 0 || seen.taken == 0 {
		t.Fatalf("not each kind of push was tried: %+v", *seen)
	}
}

func TestP66FromTheLeastNodeToTheLeastOne(t *testing.T) {
	row := impl.Net{Nodes: 3, Pipes: []impl.Pipe{{From: 0, To: 1, Most: 3}, {From: 1, To: 2, Most: 2}}}
	for _, c := range []struct {
		why   string
		net   impl.Net
		needs []int
		want  []int
	}{
		{"one node gives to two", exampleNet(), []int{-3, 0, 1, 2}, []int{2, 1, 0, 2, 0}},
		{"two nodes give to one", exampleNet(), []int{-2, 0, -1, 3}, []int{2, 0, 0, 2, 1}},
		{"a node on the way needs some", row, []int{-3, 1, 2}, []int{3, 2}},
		{"a node on the way gives some", row, []int{-1, -1, 2}, []int{1, 2}},
		{"the least one that needs comes first", starsNet(), []int{-2, 1, 1, 0, 0}, []int{1, 1, 0, 1, 0, 1}},
		{"the least one that gives comes first", impl.TurnedNet(starsNet()), []int{2, -1, -1, 0, 0}, []int{1, 1, 0, 1, 0, 1}},
		{"what was pushed goes back", handNet(), []int{-1, -1, 1, 1}, []int{0, 1, 1}},
		{"a node that cannot be come to is passed over", holding(netOf(4, ends{0, 3}, ends{1, 2}), 4), []int{-1, -2, 2, 1}, []int{1, 2}},
		{"the first one of two pipes", holding(netOf(2, ends{0, 1}, ends{0, 1}), 4), []int{-3, 3}, []int{3, 0}},
		{"the next one when the first one is full", holding(netOf(2, ends{0, 1}, ends{0, 1}), 2), []int{-3, 3}, []int{2, 1}},
		{"a pipe that holds nothing is passed over", twinsNet(), []int{-3, 1, 2}, []int{0, 2, 1, 2, 0}},
		{"the shortest way, though dearer", shortcutNet(), []int{-2, 2, 0}, []int{2, 0, 0}},
		{"a longer way when the shortest one is full", shortcutNet(), []int{-3, 3, 0}, []int{2, 1, 1}},
		{"as much as may be needed", streamNet(), []int{-12, 12}, []int{4, 1, 4, 3}},
		{"no needs", exampleNet(), []int{0, 0, 0, 0}, []int{0, 0, 0, 0, 0}},
		{"no needs, though a ring gains", freed(paidNet()), []int{0, 0, 0}, []int{0, 0, 0, 0}},
		{"no needs, and pipes that hold nothing", holding(exampleNet(), 0), []int{0, 0, 0, 0}, []int{0, 0, 0, 0, 0}},
		{"no needs, and nothing leads to a node", netOf(3, ends{0, 1}), []int{0, 0, 0}, []int{0}},
		{"no needs, and no pipes", impl.Net{Nodes: 2}, []int{0, 0}, nil},
	} {
		if flow, ok := impl.FeedingOf(c.net, c.needs); !ok || !slices.Equal(flow, c.want) {
			t.Errorf("%s: the flow that feeds %v in %v is %v, %v, not %v", c.why, c.needs, c.net, flow, ok, c.want)
		}
		if !impl.FeedsOk(c.net, c.want, c.needs) {
			t.Errorf("%s: %v does not feed %v in %v", c.why, c.want, c.needs, c.net)
		}
	}
}

func TestP66NodesThatNothingLeadsTo(t *testing.T) {
	needy, giving := 0, 0
	forNeeds(func(net impl.Net, needs []int) {
		for node, need := range needs {
			lone := need > 0 && !slices.ContainsFunc(net.Pipes, func(p impl.Pipe) bool { return p.To == node && p.Most > 0 })
			stuck := need < 0 && !slices.ContainsFunc(net.Pipes, func(p impl.Pipe) bool { return p.From == node && p.Most > 0 })
			if !lone && !stuck {
				continue
			}
			if flow, ok := feedingOf(t, net, needs); ok {
				t.Fatalf("the flow that feeds %v in %v is %v, but not at node %d", needs, net, flow, node)
			}
			if lone {
				needy++
			} else {
				giving++
			}
		}
	})
	if needy == 0 || giving == 0 {
		t.Fatalf("%d nodes that nothing leads to were tried, and %d that nothing leads from", needy, giving)
	}
}

func TestP66NeedsThatAreNotFed(t *testing.T) {
	for _, c := range []struct {
		why   string
		net   impl.Net
		needs []int
	}{
		{"no pipes", impl.Net{Nodes: 2}, []int{-1, 1}},
		{"pipes that hold nothing", holding(exampleNet(), 0), []int{-1, 0, 0, 1}},
		{"nothing leads to a node", holding(netOf(3, ends{0, 1}, ends{2, 1}), 4), []int{-1, 0, 1}},
		{"nothing leads from a node", holding(netOf(3, ends{0, 1}, ends{0, 2}), 4), []int{0, 1, -1}},
		{"the pipes lead the other way", exampleNet(), []int{1, 0, 0, -1}},
		{"one more than a pipe holds", holding(netOf(2, ends{0, 1}), 2), []int{-3, 3}},
		{"one more than comes to a node", exampleNet(), []int{-3, 4, -1, 0}},
		{"the first one is fed, but not the second one", holding(netOf(4, ends{0, 1}), 1), []int{-1, 1, -1, 1}},
		{"one node is left without a part", holding(netOf(3, ends{0, 1}, ends{0, 2}), 2), []int{-4, 1, 3}},
		{"a pipe is too narrow for two nodes", holding(netOf(4, ends{0, 1}, ends{1, 2}, ends{1, 3}), 1), []int{-2, 0, 1, 1}},
		{"as much as may be needed, but one less can come", holding(netOf(2, ends{1, 0}, ends{1, 0}), 4), []int{9, -9}},
	} {
		if flow, ok := impl.FeedingOf(c.net, c.needs); len(flow) != 0 || ok {
			t.Errorf("%s: the flow that feeds %v in %v is %v, %v", c.why, c.needs, c.net, flow, ok)
		}
		if side, ok := impl.ShortSide(c.net, c.needs); !ok || lackOf(c.net, c.needs, side) <= 0 {
			t.Errorf("%s: the side that is short of %v in %v is %d, %v", c.why, c.needs, c.net, side, ok)
		}
	}
}

func TestP66OthersAreNotFed(t *testing.T) {
	forNoNeeds(func(net impl.Net, needs []int) {
		if flow, ok := impl.FeedingOf(net, needs); len(flow) != 0 || ok {
			t.Fatalf("the flow that feeds %v in %v is %v, %v", needs, net, flow, ok)
		}
	})
}

func TestP67AShortSideNeedsMoreThanComesIn(t *testing.T) {
	one, several, none := 0, 0, 0
	forNeeds(func(net impl.Net, needs []int) {
		side, ok := shortSide(t, net, needs)
		if want, wantOk := wantShort(net, needs); side != want || ok != wantOk {
			t.Fatalf("the side that is short of %v in %v is %d, %v, not %d, %v", needs, net, side, ok, want, wantOk)
		}
		if !ok {
			none++
			return
		}
		short := 0
		for other := 0; other <= allNodes(net); other++ {
			lacks := sumAt(needs, nodesOf(net, other)) > roomOf(t, net, allNodes(net)-other)
			if lacks {
				short++
			}
			if lacks && other < side || !lacks && other == side {
				t.Fatalf("the side that is short of %v in %v is %d, but %d is short: %v", needs, net, side, other, lacks)
			}
		}
		if short == 1 {
			one++
		} else {
			several++
		}
	})
	if one == 0 || several == 0 || none == 0 {
		t.Fatalf("%d needs with one short side were tried, %d with several, and %d with none", one, several, none)
	}
}

func sumAt(row []int, has []bool) int {
	sum := 0
	for i, n := range row {
		if has[i] {
			sum += n
		}
	}
	return sum
}

func TestP67TheLeastShortSide(t *testing.T) {
	pair := impl.Net{Nodes: 3, Pipes: []impl.Pipe{{From: 0, To: 1, Most: 1}, {From: 1, To: 2, Most: 4}, {From: 2, To: 1, Most: 4}}}
	for _, c := range []struct {
		why   string
		net   impl.Net
		needs []int
		want  int
	}{
		{"one node", exampleNet(), []int{-3, 4, -1, 0}, 2},
		{"the last node", exampleNet(), []int{-7, 0, 0, 7}, 8},
		{"two nodes, of which neither is short alone", pair, []int{-2, 1, 1}, 6},
		{"all nodes but one that cannot give", holding(netOf(3, ends{1, 0}, ends{1, 2}, ends{2, 1}), 4), []int{-1, 1, 0}, 6},
		{"several nodes, of which the least one is told", impl.Net{Nodes: 4}, []int{0, 2, -3, 1}, 2},
		{"the least one lacks less than a greater one", impl.Net{Nodes: 3}, []int{1, 3, -4}, 1},
		{"a node that needs nothing is in no lesser one", impl.Net{Nodes: 5}, []int{0, 0, -1, 0, 1}, 16},
		{"one more than a pipe holds", holding(netOf(2, ends{0, 1}), 2), []int{-3, 3}, 2},
		{"one more than all pipes hold", holding(netOf(2, ends{1, 0}, ends{1, 0}, ends{0, 1}), 4), []int{9, -9}, 1},
		{"pipes from a side do not count", holding(netOf(3, ends{1, 2}, ends{1, 0}), 4), []int{0, 1, -1}, 2},
		{"pipes in a side do not count", holding(netOf(3, ends{1, 2}, ends{2, 1}), 1), []int{-2, 1, 1}, 6},
		{"pipes that hold nothing", holding(exampleNet(), 0), []int{-1, 0, 0, 1}, 8},
		{"as much as may be needed", holding(netOf(2, ends{0, 1}, ends{0, 1}), 4), []int{-12, 12}, 2},
	} {
		if side, ok := impl.ShortSide(c.net, c.needs); side != c.want || !ok {
			t.Errorf("%s: the side that is short of %v in %v is %d, %v, not %d", c.why, c.needs, c.net, side, ok, c.want)
		}
	}
}

func TestP67JustWhatComesInIsNotShort(t *testing.T) {
	for _, c := range []struct {
		why   string
		net   impl.Net
		needs []int
	}{
		{"one pipe", holding(netOf(2, ends{0, 1}), 2), []int{-2, 2}},
		{"the other way", holding(netOf(2, ends{1, 0}), 2), []int{2, -2}},
		{"each side", bothWaysNet(), []int{2, -2}},
		{"two pipes to a node", exampleNet(), []int{-5, 3, 2, 0}},
		{"two nodes together", holding(netOf(3, ends{0, 1}, ends{1, 2}, ends{2, 1}), 2), []int{-2, 1, 1}},
		{"as much as may be needed", holding(netOf(2, ends{1, 0}, ends{1, 0}, ends{1, 0}), 4), []int{12, -12}},
		{"no needs, and no pipes", impl.Net{Nodes: 5}, []int{0, 0, 0, 0, 0}},
		{"no needs, and pipes that hold nothing", holding(exampleNet(), 0), []int{0, 0, 0, 0}},
	} {
		if side, ok := impl.ShortSide(c.net, c.needs); side != -1 || ok {
			t.Errorf("%s: the side that is short of %v in %v is %d, %v", c.why, c.needs, c.net, side, ok)
		}
	}
}

func TestP67OnOneMoreOfEachPipe(t *testing.T) {
	fed, short := 0, 0
	forNeeds(func(net impl.Net, needs []int) {
		side, ok := shortSide(t, net, needs)
		if !ok {
			return
		}
		for at, p := range net.Pipes {
			if p.Most == impl.MaxHold {
				continue
			}
			wider := copied(net)
			wider.Pipes[at].Most++
			after, still := shortSide(t, wider, needs)
			if still && after < side {
				t.Fatalf("the side that is short of %v in %v is %d, and %d with one more for pipe %d", needs, net, side, after, at)
			}
			if still {
				short++
			} else {
				fed++
			}
		}
	})
	if fed == 0 || short == 0 {
		t.Fatalf("%d pipes were tried that feed with one more, and %d that do not", fed, short)
	}
}

func TestP67OthersHaveNoShortSide(t *testing.T) {
	forNoNeeds(func(net impl.Net, needs []int) {
		if side, ok := impl.ShortSide(net, needs); side != -1 || ok {
			t.Fatalf("the side that is short of %v in %v is %d, %v", needs, net, side, ok)
		}
	})
}

func TestP68NeedsAreFedAsCheaplyAsMayBe(t *testing.T) {
	cheaper, same, none, below := 0, 0, 0, 0
	d := &draws{state: 68}
	for _, net := range needNets() {
		costs := leastCosts(net)
		for _, needs := range someNeeds(net, d) {
			cost, ok := cheapestFeed(t, net, needs)
			if want, wantOk := costOfRow(costs, needs); cost != want || ok != wantOk {
				t.Fatalf("the least cost of what feeds %v in %v is %d, %v, not %d, %v", needs, net, cost, ok, want, wantOk)
			}
			if turned, turnedOk := cheapestFeed(t, impl.TurnedNet(net), otherSigns(needs)); turned != cost || turnedOk != ok {
				t.Fatalf("the least cost of what feeds %v in %v is %d, %v, and turned %d, %v", needs, net, cost, ok, turned, turnedOk)
			}
			flow, fed := feedingOf(t, net, needs)
			if fed != ok || ok && cost > costOf(t, net, flow) {
				t.Fatalf("the least cost of what feeds %v in %v is %d, %v, but there is %v, %v", needs, net, cost, ok, flow, fed)
			}
			switch {
			case !ok:
				none++
			case cost < costOf(t, net, flow):
				cheaper++
			default:
				same++
			}
			if cost < 0 {
				below++
			}
		}
	}
	if cheaper == 0 || same == 0 || none == 0 || below == 0 {
		t.Fatalf("%d flows that feed were tried that can be cheaper, %d others, %d that cost less than nothing, and %d needs that are not fed", cheaper, same, below, none)
	}
}

func TestP68EachLeastCost(t *testing.T) {
	for _, c := range []struct {
		why   string
		net   impl.Net
		needs []int
		want  int
	}{
		{"one node gives to two", exampleNet(), []int{-3, 0, 1, 2}, 7},
		{"the flow that is found is too dear", shortcutNet(), []int{-2, 2, 0}, 7},
		{"no cheaper one fits", shortcutNet(), []int{-3, 3, 0}, 12},
		{"the cheaper one of two pipes", impl.Net{Nodes: 2, Pipes: []impl.Pipe{{From: 0, To: 1, Most: 2, Cost: 3}, {From: 0, To: 1, Most: 2, Cost: 1}}}, []int{-3, 3}, 5},
		{"no needs, and no ring gains", exampleNet(), []int{0, 0, 0, 0}, 0},
		{"no needs, and no pipes", impl.Net{Nodes: 2}, []int{0, 0}, 0},
		{"no needs, and pipes that hold nothing", holding(paidNet(), 0), []int{0, 0, 0}, 0},
		{"no needs, and a ring gains", freed(paidNet()), []int{0, 0, 0}, -3},
		{"no needs, and a ring of all nodes gains", bigRingNet(), []int{0, 0, 0, 0, 0}, -2},
		{"needs, and a ring gains beside", impl.Net{Nodes: 4, Pipes: []impl.Pipe{{From: 0, To: 1, Most: 2, Cost: 4}, {From: 2, To: 3, Most: 3, Cost: -1}, {From: 3, To: 2, Most: 4, Cost: -1}}}, []int{-2, 2, 0, 0}, 2},
		{"needs that cost nothing", bothWaysNet(), []int{-2, 2}, 0},
		{"needs that cost less than nothing", impl.Net{Nodes: 2, Pipes: []impl.Pipe{{From: 0, To: 1, Most: 4, Cost: -9}}}, []int{-4, 4}, -36},
		{"as much as may be needed", streamNet(), []int{-12, 12}, 86},
		{"as many as may be, and all as dear as may be", impl.Net{Nodes: 2, Pipes: slices.Repeat([]impl.Pipe{{From: 1, To: 0, Most: 4, Cost: 9}}, 7)}, []int{12, -12}, 108},
		{"all pipes are full", impl.Net{Nodes: 2, Pipes: append(slices.Repeat([]impl.Pipe{{From: 0, To: 1, Most: 4, Cost: -9}}, 4), slices.Repeat([]impl.Pipe{{From: 1, To: 0, Most: 4, Cost: -9}}, 3)...)}, []int{-4, 4}, -252},
	} {
		if cost, ok := impl.CheapestFeed(c.net, c.needs); cost != c.want || !ok {
			t.Errorf("%s: the least cost of what feeds %v in %v is %d, %v, not %d", c.why, c.needs, c.net, cost, ok, c.want)
		}
	}
}

func TestP68WhatIsNotFedHasNoCost(t *testing.T) {
	for _, c := range []struct {
		why   string
		net   impl.Net
		needs []int
	}{
		{"a side is short", exampleNet(), []int{-3, 4, -1, 0}},
		{"no pipes", impl.Net{Nodes: 2}, []int{-1, 1}},
		{"a ring gains, but does not feed", freed(paidNet()), []int{-4, -4, 8}},
		{"a part could be fed", holding(netOf(4, ends{0, 1}), 1), []int{-1, 1, -1, 1}},
		{"nothing leads to a node", holding(netOf(3, ends{0, 1}, ends{2, 1}), 4), []int{-1, 0, 1}},
	} {
		if cost, ok := impl.CheapestFeed(c.net, c.needs); cost != 0 || ok {
			t.Errorf("%s: the least cost of what feeds %v in %v is %d, %v", c.why, c.needs, c.net, cost, ok)
		}
	}
}

func TestP68OthersHaveNoCost(t *testing.T) {
	forNoNeeds(func(net impl.Net, needs []int) {
		if cost, ok := impl.CheapestFeed(net, needs); cost != 0 || ok {
			t.Fatalf("the least cost of what feeds %v in %v is %d, %v", needs, net, cost, ok)
		}
	})
}

// givenTo are needs of so much at one node, that another one gives.
func givenTo(net impl.Net, from, to, amount int) []int {
	return moved(make([]int, net.Nodes), to, from, amount)
}

func TestP69WhatMayBeSentIsWhatMayBeNeeded(t *testing.T) {
	sent, others := 0, 0
	forEnds(needNets(), func(net impl.Net, from, to int) {
		value := impl.GreatestValue(net, from, to)
		for amount := 0; amount <= impl.MaxNeed; amount++ {
			needs := givenTo(net, from, to, amount)
			flow, ok := feedingOf(t, net, needs)
			if ok != (amount <= value) {
				t.Fatalf("the flow that feeds %v in %v is %v, %v, but %d can come", needs, net, flow, ok, value)
			}
			if !ok {
				others++
				continue
			}
			sent++
			if excessAt(t, net, flow, to) != amount || excessAt(t, net, flow, from) != -amount {
				t.Fatalf("the flow that feeds %v in %v is %v", needs, net, flow)
			}
		}
	})
	if sent == 0 || others == 0 {
		t.Fatalf("%d amounts were tried that can come, and %d others", sent, others)
	}
}

func TestP69EachAmount(t *testing.T) {
	for _, c := range []struct {
		net      impl.Net
		from, to int
		most     int
	}{
		{exampleNet(), 0, 3, 5},
		{exampleNet(), 0, 2, 3},
		{exampleNet(), 3, 0, 0},
		{exampleNet(), 1, 2, 1},
		{zigzagNet(), 0, 3, 2},
		{bothWaysNet(), 1, 0, 2},
		{twinsNet(), 0, 2, 4},
		{streamNet(), 0, 1, 12},
		{streamNet(), 1, 0, 0},
		{impl.Net{Nodes: 2, Pipes: streamNet().Pipes[:3]}, 0, 1, 9},
		{impl.Net{Nodes: 5}, 4, 0, 0},
		{holding(exampleNet(), 0), 0, 3, 0},
	} {
		for amount := 0; amount <= impl.MaxNeed+2; amount++ {
			needs := givenTo(c.net, c.from, c.to, amount)
			if flow, ok := feedingOf(t, c.net, needs); ok != (amount <= c.most) {
				t.Errorf("the flow that feeds %v in %v is %v, %v, but %d can come", needs, c.net, flow, ok, c.most)
			}
		}
	}
}

func TestP69OthersAreNotNeeded(t *testing.T) {
	none := func(net impl.Net, from, to, amount int) {
		t.Helper()
		if flow, ok := impl.FeedingOf(net, givenTo(net, from, to, amount)); len(flow) != 0 || ok {
			t.Fatalf("the flow with %d from %d to %d in %v is %v, %v", amount, from, to, net, flow, ok)
		}
	}
	for _, amount := range []int{impl.MaxNeed + 1, impl.MaxNeed + 2, -impl.MaxNeed - 1, math.MaxInt, math.MinInt} {
		none(streamNet(), 0, 1, amount)
		none(impl.TurnedNet(streamNet()), 0, 1, amount)
		none(impl.Net{Nodes: 3}, 2, 1, amount)
	}
	forEnds(append(boundNets(), tightNet(), dryNet()), func(net impl.Net, from, to int) {
		for _, amount := range []int{0, 1, 2} {
			none(net, from, to, amount)
		}
	})
	for _, net := range badNets() {
		if net.Nodes >= 2 && net.Nodes <= impl.MaxNodes+1 {
			none(net, 0, 1, 0)
			none(net, 0, 1, 1)
		}
	}
}

func TestNeedsOnlyReadAndShareNothing(t *testing.T) {
	d := &draws{state: 11}
	for _, net := range append(freeNets()[:60], starsNet(), handNet(), shortcutNet(), freed(paidNet())) {
		net.Pipes = roomy(net.Pipes)
		pipes := slices.Clone(net.Pipes[:cap(net.Pipes)])
		for _, row := range someNeeds(net, d) {
			needs, flow := roomy(row), roomy(filled(net, 0))
			needsBefore, flowBefore := slices.Clone(needs[:cap(needs)]), slices.Clone(flow[:cap(flow)])
			impl.NeedsOk(net, needs)
			impl.FeedsOk(net, flow, needs)
			impl.ShortSide(net, needs)
			impl.CheapestFeed(net, needs)
			spoiledAgain(t, func() []int { flow, _ := impl.FeedingOf(net, needs); return flow })
			if !slices.Equal(needs[:cap(needs)], needsBefore) || !slices.Equal(flow[:cap(flow)], flowBefore) {
				t.Fatalf("changed: %v, or %v", needs, flow)
			}
		}
		if !slices.Equal(net.Pipes[:cap(net.Pipes)], pipes) {
			t.Fatalf("changed: %v", net)
		}
	}
}
