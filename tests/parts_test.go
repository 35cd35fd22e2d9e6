package tests

import (
	"math"
	"slices"
	"testing"

	"loop.example/balancedpipes/impl"
)

// eightNet has two rings that meet at node 1, as many pipes back as on.
func eightNet() impl.Net {
	return impl.Net{Nodes: 3, Pipes: []impl.Pipe{{From: 0, To: 1}, {From: 1, To: 2}, {From: 2, To: 1}, {From: 1, To: 0}}}
}

// loopNet has a thread 0, 1, 2, 3 with a ring at node 1, and a pipe back from the end.
func loopNet() impl.Net {
	return impl.Net{Nodes: 4, Pipes: []impl.Pipe{
		{From: 0, To: 1},
		{From: 1, To: 2},
		{From: 2, To: 1},
		{From: 2, To: 3},
		{From: 3, To: 0},
	}}
}

// greatRingNet has a ring of as many nodes as may be, in which each place is one past the next one, a pipe beside, and one across.
func greatRingNet() impl.Net {
	return impl.Net{Nodes: 5, Pipes: []impl.Pipe{
		{From: 4, To: 0},
		{From: 3, To: 4},
		{From: 2, To: 3},
		{From: 1, To: 2},
		{From: 0, To: 1},
		{From: 0, To: 1},
		{From: 2, To: 0},
	}}
}

// pairNet has a pipe on and one back.
func pairNet() impl.Net {
	return impl.Net{Nodes: 2, Pipes: []impl.Pipe{{From: 0, To: 1}, {From: 1, To: 0}}}
}

// partNets are the good nets, which have few rings, and more nets with rings.
func partNets() []impl.Net {
	nets := append(goodNets(), eightNet(), loopNet(), greatRingNet(), pairNet(), zigzagNet(), bothWaysNet(), twinsNet())
	d := &draws{state: 4}
	for range 60 {
		net := impl.Net{Nodes: 2 + d.below(3)}
		for range 5 + d.below(3) {
			net.Pipes = append(net.Pipes, d.pipe(net.Nodes))
		}
		nets = append(nets, net)
	}
	return nets
}

// badRingNets are no nets, each for one reason alone; else the places 0 and 1 would be a ring of them.
func badRingNets() map[string]impl.Net {
	pair := pairNet().Pipes
	bad := map[string]impl.Net{
		"no nodes":       {Pipes: pair},
		"one node":       {Nodes: 1, Pipes: pair},
		"too many nodes": {Nodes: impl.MaxNodes + 1, Pipes: pair},
		"too many pipes": {Nodes: 2, Pipes: slices.Repeat(pair, impl.MaxPipes/2+1)},
	}
	for why, p := range badPipes() {
		bad[why] = impl.Net{Nodes: 3, Pipes: append(slices.Clone(pair), p)}
	}
	return bad
}

// visits tells how often a row of places begins at a node, and how often it comes to one.
func visits(net impl.Net, row []int) (begins, ends map[int]int) {
	begins, ends = map[int]int{}, map[int]int{}
	for _, at := range row {
		begins[net.Pipes[at].From]++
		ends[net.Pipes[at].To]++
	}
	return begins, ends
}

// follow reports whether the row is of places of the net, each of which begins where the one before leads.
func follow(net impl.Net, row []int) bool {
	if len(row) == 0 {
		return false
	}
	for i, at := range row {
		if at < 0 || at >= len(net.Pipes) || i > 0 && net.Pipes[row[i-1]].To != net.Pipes[at].From {
			return false
		}
	}
	return true
}

func wantRing(net impl.Net, row []int) bool {
	if !follow(net, row) {
		return false
	}
	begins, ends := visits(net, row)
	for node := range net.Nodes {
		if begins[node] > 1 || begins[node] != ends[node] {
			return false
		}
	}
	return true
}

func wantThread(net impl.Net, row []int, from, to int) bool {
	if !follow(net, row) || net.Pipes[row[0]].From != from || net.Pipes[row[len(row)-1]].To != to {
		return false
	}
	_, ends := visits(net, row)
	for node := range net.Nodes {
		if ends[node] > 1 {
			return false
		}
	}
	return ends[from] == 0
}

// allRows are all rows of places of pipes, of so many at most, with one below and one past all places.
func allRows(net impl.Net, most int) [][]int {
	rows := [][]int{nil}
	for first := 0; most > 0; most-- {
		last := len(rows)
		for _, row := range rows[first:last] {
			for at := -1; at <= len(net.Pipes); at++ {
				rows = append(rows, append(slices.Clone(row), at))
			}
		}
		first = last
	}
	return rows
}

// allWalks are all rows of so many places at most of which each begins where the one before leads.
func allWalks(net impl.Net, most int) [][]int {
	var walks [][]int
	for at := range net.Pipes {
		walks = append(walks, []int{at})
	}
	for i := 0; i < len(walks); i++ {
		for at := range net.Pipes {
			if longer := append(slices.Clone(walks[i]), at); len(longer) <= most && follow(net, longer) {
				walks = append(walks, longer)
			}
		}
	}
	return walks
}

// drawnRows are rows of places that may be some that the net has not.
func drawnRows(net impl.Net, count int) [][]int {
	d := &draws{state: uint64(len(net.Pipes))}
	var rows [][]int
	for range count {
		row := make([]int, d.below(impl.MaxNodes+3))
		for i := range row {
			row[i] = d.below(len(net.Pipes)+2) - 1
		}
		rows = append(rows, row)
	}
	return rows
}

// triedRows has rows that are rings or threads, and others.
func triedRows(net impl.Net) [][]int {
	rows := append(allWalks(net, impl.MaxNodes+1), drawnRows(net, 30)...)
	if len(net.Pipes) <= 4 {
		rows = append(rows, allRows(net, 3)...)
	}
	return rows
}

func onesOf(net impl.Net, row []int) []int {
	flow := filled(net, 0)
	for _, at := range row {
		flow[at]++
	}
	return flow
}

// ringsIn and threadsIn are all of a net, told without asking the program.
func ringsIn(net impl.Net) [][]int {
	return slices.DeleteFunc(allWalks(net, net.Nodes), func(row []int) bool { return !wantRing(net, row) })
}

func threadsIn(net impl.Net, from, to int) [][]int {
	return slices.DeleteFunc(allWalks(net, net.Nodes-1), func(row []int) bool { return !wantThread(net, row, from, to) })
}

// sumOf is a flow of drawn amounts of some of the rows, or empty pipes if that is too much for some pipe.
func sumOf(net impl.Net, rows [][]int, most int, d *draws) []int {
	flow := filled(net, 0)
	for _, row := range rows {
		amount := d.below(most+1) * d.below(2)
		for _, at := range row {
			flow[at] += amount
		}
	}
	if !impl.FlowOk(net, flow) {
		return filled(net, 0)
	}
	return flow
}

// balancedFlows are sums of rings with small amounts, and with great ones.
func balancedFlows(net impl.Net) [][]int {
	d, rings := &draws{state: 7}, ringsIn(net)
	flows := [][]int{filled(net, 0)}
	for _, ring := range rings {
		flows = append(flows, onesOf(net, ring))
	}
	for range 10 {
		flows = append(flows, sumOf(net, rings, 2, d), sumOf(net, rings, 5, d), sumOf(net, rings, impl.MaxFlow, d))
	}
	return flows
}

// flowsFrom are sums of threads from one node to another one, and rings.
func flowsFrom(net impl.Net, from, to int) [][]int {
	d, threads := &draws{state: 7}, threadsIn(net, from, to)
	flows, rows := [][]int{filled(net, 0)}, append(ringsIn(net), threads...)
	for range 5 {
		flows = append(flows, sumOf(net, threads, 3, d), sumOf(net, rows, 2, d), sumOf(net, rows, 5, d), sumOf(net, rows, impl.MaxFlow, d))
	}
	return flows
}

// wantPart goes along the first pipe that is not empty, until a node comes again, or the end is come to.
func wantPart(net impl.Net, flow []int, begin, end int) []int {
	var walk []int
	gone := map[int]int{begin: 0}
	for node := begin; ; gone[node] = len(walk) {
		for at, p := range net.Pipes {
			if p.From == node && flow[at] > 0 {
				walk, node = append(walk, at), p.To
				break
			}
		}
		if node == end {
			return walk
		}
		if before, again := gone[node]; again {
			return walk[before:]
		}
	}
}

// oneMore takes an amount of 1 of a part out of the flow: a further part, or one more of the last one.
func oneMore(parts [][]int, part, flow []int) [][]int {
	for _, at := range part {
		flow[at]--
	}
	if last := len(parts) - 1; last >= 0 && slices.Equal(parts[last][1:], part) {
		parts[last][0]++
		return parts
	}
	return append(parts, append([]int{1}, part...))
}

// wantParts takes parts out one by one, each with an amount of 1, first those of the excess, and then the rings.
func wantParts(net impl.Net, flow []int, from, to int) [][]int {
	var parts [][]int
	flow = slices.Clone(flow)
	for excesses(net, flow)[to] > 0 {
		parts = oneMore(parts, wantPart(net, flow, from, to), flow)
	}
	for {
		first := slices.IndexFunc(flow, func(amount int) bool { return amount > 0 })
		if first < 0 {
			return parts
		}
		parts = oneMore(parts, wantPart(net, flow, net.Pipes[first].From, -1), flow)
	}
}

func sameRows(a, b [][]int) bool {
	return slices.EqualFunc(a, b, slices.Equal)
}

func copiedRows(rows [][]int) [][]int {
	var copies [][]int
	for _, row := range rows {
		copies = append(copies, slices.Clone(row))
	}
	return copies
}

// summed adds the amounts of parts, pipe by pipe.
func summed(net impl.Net, parts [][]int) []int {
	flow := filled(net, 0)
	for _, part := range parts {
		for _, at := range part[1:] {
			flow[at] += part[0]
		}
	}
	return flow
}

func partsOf(t *testing.T, net impl.Net, flow []int, from, to int) [][]int {
	t.Helper()
	parts, ok := impl.PartsOf(net, flow, from, to)
	if !ok {
		t.Fatalf("parts of %v in %v from %d to %d are not told", flow, net, from, to)
	}
	return parts
}

func TestP24RingsMayBeginAnywhere(t *testing.T) {
	rings, others := 0, 0
	for _, net := range partNets() {
		for _, row := range triedRows(net) {
			want := wantRing(net, row)
			if impl.RingOk(net, row) != want {
				t.Fatalf("%v in %v: a ring is not %v", row, net, want)
			}
			if !want {
				others++
			} else {
				rings++
				if flow := onesOf(net, row); slices.Max(flow) != 1 || !impl.BalancedOk(net, flow) {
					t.Fatalf("ring %v in %v is not balanced", row, net)
				}
			}
			if len(row) > 0 && impl.RingOk(net, append(slices.Clone(row[1:]), row[0])) != want {
				t.Fatalf("%v in %v begun one pipe later: a ring is not %v", row, net, want)
			}
		}
	}
	if rings == 0 || others == 0 {
		t.Fatalf("%d rings were tried, and %d others", rings, others)
	}
}

func TestP24RingsOfEachLength(t *testing.T) {
	three := impl.Net{Nodes: 3, Pipes: []impl.Pipe{{From: 0, To: 1}, {From: 1, To: 2}, {From: 2, To: 0}, {From: 1, To: 0}, {From: 0, To: 1}}}
	for _, c := range []struct {
		net  impl.Net
		ring []int
	}{
		{pairNet(), []int{0, 1}},
		{pairNet(), []int{1, 0}},
		{three, []int{0, 1, 2}},
		{three, []int{4, 1, 2}},
		{three, []int{3, 0}},
		{three, []int{4, 3}},
		{eightNet(), []int{1, 2}},
		{loopNet(), []int{1, 3, 4, 0}},
		{greatRingNet(), []int{4, 3, 2, 1, 0}},
		{greatRingNet(), []int{0, 5, 3, 2, 1}},
		{greatRingNet(), []int{6, 5, 3}},
	} {
		for range c.ring {
			if !impl.RingOk(c.net, c.ring) || !impl.BalancedOk(c.net, onesOf(c.net, c.ring)) {
				t.Errorf("no ring of %v: %v", c.net, c.ring)
			}
			c.ring = append(c.ring[1:], c.ring[0])
		}
	}
}

func TestP24OtherRowsAreNoRings(t *testing.T) {
	for _, c := range []struct {
		why string
		net impl.Net
		row []int
	}{
		{"no places", pairNet(), nil},
		{"no places", pairNet(), []int{}},
		{"no pipes", impl.Net{Nodes: 2}, nil},
		{"a place of no pipes", impl.Net{Nodes: 2}, []int{0}},
		{"one pipe", pairNet(), []int{0}},
		{"one pipe twice", pairNet(), []int{0, 0}},
		{"pipes with the same ends", twinsNet(), []int{0, 1}},
		{"back by no pipe", pairNet(), []int{0, 1, 0}},
		{"twice around", pairNet(), []int{0, 1, 0, 1}},
		{"thrice around, more than MaxNodes", pairNet(), []int{0, 1, 0, 1, 0, 1}},
		{"two rings with a common node", eightNet(), []int{0, 1, 2, 3}},
		{"two rings, begun at the common node", eightNet(), []int{1, 2, 3, 0}},
		{"two rings with no common node", impl.Net{Nodes: 4, Pipes: append(pairNet().Pipes, impl.Pipe{From: 2, To: 3}, impl.Pipe{From: 3, To: 2})}, []int{0, 1, 2, 3}},
		{"open", loopNet(), []int{0, 1, 3}},
		{"with a gap", loopNet(), []int{0, 3, 4}},
		{"in another order", greatRingNet(), []int{0, 1, 2, 3, 4}},
		{"with a ring behind it", greatRingNet(), []int{4, 3, 2, 1, 0, 5}},
		{"two pipes with the same ends", greatRingNet(), []int{5, 4, 3, 6}},
		{"twice around the greatest", greatRingNet(), []int{4, 3, 2, 1, 0, 4, 3, 2, 1, 0}},
	} {
		if impl.RingOk(c.net, c.row) {
			t.Errorf("%s: a ring of %v is %v", c.why, c.net, c.row)
		}
	}
}

// forNoPlaces tries a row with each of its places replaced by one that no pipe has.
func forNoPlaces(net impl.Net, row []int, try func(row []int)) {
	for i := range row {
		for _, at := range []int{-1, -2, -len(net.Pipes), len(net.Pipes), len(net.Pipes) + 1, math.MinInt, math.MaxInt} {
			bad := slices.Clone(row)
			bad[i] = at
			try(bad)
		}
	}
}

func TestP24OthersHaveNoRings(t *testing.T) {
	for _, net := range []impl.Net{pairNet(), loopNet(), greatRingNet()} {
		for _, ring := range ringsIn(net) {
			forNoPlaces(net, ring, func(row []int) {
				if impl.RingOk(net, row) {
					t.Errorf("a ring of %v: %v", net, row)
				}
			})
		}
	}
	for why, net := range badRingNets() {
		if impl.RingOk(net, []int{0, 1}) || impl.RingOk(net, []int{1, 0}) || impl.RingOk(net, nil) {
			t.Errorf("%s: a ring", why)
		}
	}
	for why, net := range badNets() {
		if impl.RingOk(net, []int{0}) || impl.RingOk(net, []int{0, 1}) || impl.RingOk(net, nil) {
			t.Errorf("%s: a ring", why)
		}
	}
}

func TestP25ThreadsCarryFromEndToEnd(t *testing.T) {
	threads, others := 0, 0
	for _, net := range partNets() {
		for _, row := range triedRows(net) {
			for from := -1; from <= net.Nodes; from++ {
				for to := -1; to <= net.Nodes; to++ {
					want := wantThread(net, row, from, to)
					if impl.ThreadOk(net, row, from, to) != want {
						t.Fatalf("%v in %v from %d to %d: a thread is not %v", row, net, from, to, want)
					}
					if !want {
						others++
						continue
					}
					threads++
					checkCarries(t, net, row, from, to)
				}
			}
		}
	}
	if threads == 0 || others == 0 {
		t.Fatalf("%d threads were tried, and %d others", threads, others)
	}
}

func checkCarries(t *testing.T, net impl.Net, thread []int, from, to int) {
	t.Helper()
	flow := onesOf(net, thread)
	for node := range net.Nodes {
		want := 0
		switch node {
		case from:
			want = -1
		case to:
			want = 1
		}
		if n := excessAt(t, net, flow, node); n != want {
			t.Fatalf("thread %v in %v from %d to %d: excess %d at %d", thread, net, from, to, n, node)
		}
	}
}

func TestP25ThreadsOfEachLength(t *testing.T) {
	for _, c := range []struct {
		net      impl.Net
		thread   []int
		from, to int
	}{
		{pairNet(), []int{0}, 0, 1},
		{pairNet(), []int{1}, 1, 0},
		{twinsNet(), []int{0}, 0, 1},
		{twinsNet(), []int{2}, 0, 1},
		{twinsNet(), []int{1, 4}, 0, 2},
		{exampleNet(), []int{0, 2, 4}, 0, 3},
		{exampleNet(), []int{0, 2}, 0, 2},
		{exampleNet(), []int{2, 4}, 1, 3},
		{greatRingNet(), []int{4, 3, 2, 1}, 0, 4},
		{greatRingNet(), []int{5, 3, 2, 1}, 0, 4},
		{greatRingNet(), []int{0, 4, 3, 2}, 4, 3},
	} {
		if !impl.ThreadOk(c.net, c.thread, c.from, c.to) {
			t.Errorf("no thread of %v from %d to %d: %v", c.net, c.from, c.to, c.thread)
		}
		checkCarries(t, c.net, c.thread, c.from, c.to)
	}
}

func TestP25OtherRowsAreNoThreads(t *testing.T) {
	for _, c := range []struct {
		why      string
		net      impl.Net
		row      []int
		from, to int
	}{
		{"no places", exampleNet(), nil, 0, 3},
		{"no places", exampleNet(), []int{}, 0, 3},
		{"no places, the same node twice", exampleNet(), nil, 0, 0},
		{"no pipes", impl.Net{Nodes: 2}, nil, 0, 1},
		{"a place of no pipes", impl.Net{Nodes: 2}, []int{0}, 0, 1},
		{"a ring, the same node twice", pairNet(), []int{0, 1}, 0, 0},
		{"a pipe, the same node twice", pairNet(), []int{0}, 0, 0},
		{"the ends exchanged", pairNet(), []int{0}, 1, 0},
		{"ends too early", exampleNet(), []int{0, 2}, 0, 3},
		{"goes on", exampleNet(), []int{0, 2, 4}, 0, 2},
		{"begins too early", exampleNet(), []int{0, 2, 4}, 1, 3},
		{"begins too late", exampleNet(), []int{2, 4}, 0, 3},
		{"with a gap", exampleNet(), []int{0, 4}, 0, 3},
		{"in another order", exampleNet(), []int{4, 2, 0}, 0, 3},
		{"pipes with the same ends", twinsNet(), []int{1, 2, 3}, 0, 2},
		{"comes to where it begins", pairNet(), []int{0, 1, 0}, 0, 1},
		{"comes to where it begins, in the end", pairNet(), []int{0, 1}, 0, 1},
		{"comes to its end twice", eightNet(), []int{0, 1, 2}, 0, 1},
		{"comes to a node between twice", loopNet(), []int{0, 1, 2, 1, 3}, 0, 3},
		{"more than MaxNodes", loopNet(), []int{0, 1, 2, 1, 2, 1, 3}, 0, 3},
		{"goes around the greatest ring first", greatRingNet(), []int{4, 3, 2, 1, 0, 4}, 0, 1},
	} {
		if impl.ThreadOk(c.net, c.row, c.from, c.to) {
			t.Errorf("%s: a thread of %v from %d to %d is %v", c.why, c.net, c.from, c.to, c.row)
		}
	}
}

func TestP25OthersHaveNoThreads(t *testing.T) {
	none := func(net impl.Net, row []int, from, to int) {
		t.Helper()
		if impl.ThreadOk(net, row, from, to) {
			t.Fatalf("a thread of %v from %d to %d: %v", net, from, to, row)
		}
	}
	forEnds([]impl.Net{exampleNet(), loopNet()}, func(net impl.Net, from, to int) {
		for _, thread := range threadsIn(net, from, to) {
			forNoPlaces(net, thread, func(row []int) { none(net, row, from, to) })
		}
	})
	forNoEnds(func(net impl.Net, from, to int) {
		for at := range net.Pipes {
			none(net, []int{at}, from, to)
		}
		none(net, nil, from, to)
	})
	for _, net := range badRingNets() {
		none(net, []int{0}, 0, 1)
		none(net, []int{1}, 1, 0)
	}
}

func TestP26BalancedFlowsAreSumsOfRings(t *testing.T) {
	most := 0
	for _, net := range partNets() {
		for _, flow := range balancedFlows(net) {
			rings := impl.RingsOf(net, flow)
			if want := wantParts(net, flow, 0, 1); !sameRows(rings, want) {
				t.Fatalf("rings of %v in %v are %v, not %v", flow, net, rings, want)
			}
			for _, ring := range rings {
				if ring[0] < 1 || !impl.RingOk(net, ring[1:]) {
					t.Fatalf("rings of %v in %v are %v: no ring is %v", flow, net, rings, ring)
				}
			}
			if !slices.Equal(summed(net, rings), flow) {
				t.Fatalf("rings of %v in %v are %v, together another flow", flow, net, rings)
			}
			full := len(flow) - len(slices.DeleteFunc(slices.Clone(flow), func(n int) bool { return n > 0 }))
			if len(rings) > full {
				t.Fatalf("rings of %v in %v are %v, more than pipes that are not empty", flow, net, rings)
			}
			most = max(most, len(rings))
		}
	}
	if most < 4 {
		t.Fatalf("no flow was tried with more than %d rings", most)
	}
}

func TestP26AlongTheFirstPipeUntilANodeComesAgain(t *testing.T) {
	three := impl.Net{Nodes: 3, Pipes: []impl.Pipe{{From: 0, To: 1}, {From: 1, To: 2}, {From: 2, To: 0}, {From: 1, To: 0}, {From: 0, To: 1}}}
	for _, c := range []struct {
		net  impl.Net
		flow []int
		want [][]int
	}{
		{pairNet(), []int{1, 1}, [][]int{{1, 0, 1}}},
		{pairNet(), []int{impl.MaxFlow, impl.MaxFlow}, [][]int{{impl.MaxFlow, 0, 1}}},
		{bothWaysNet(), []int{3, 3}, [][]int{{3, 0, 1}}},
		{three, []int{3, 1, 1, 2, 0}, [][]int{{1, 0, 1, 2}, {2, 0, 3}}},
		{three, []int{1, 2, 2, 1, 2}, [][]int{{1, 0, 1, 2}, {1, 1, 2, 4}, {1, 3, 4}}},
		{three, []int{0, 0, 0, 5, 5}, [][]int{{5, 3, 4}}},
		{three, []int{0, 2, 2, 0, 2}, [][]int{{2, 1, 2, 4}}},
		{eightNet(), []int{1, 1, 1, 1}, [][]int{{1, 1, 2}, {1, 0, 3}}},
		{eightNet(), []int{2, 5, 5, 2}, [][]int{{5, 1, 2}, {2, 0, 3}}},
		{eightNet(), []int{4, 0, 0, 4}, [][]int{{4, 0, 3}}},
		{eightNet(), []int{0, 4, 4, 0}, [][]int{{4, 1, 2}}},
		{loopNet(), []int{2, 5, 3, 2, 2}, [][]int{{3, 1, 2}, {2, 0, 1, 3, 4}}},
		{loopNet(), []int{2, 2, 0, 2, 2}, [][]int{{2, 0, 1, 3, 4}}},
		{greatRingNet(), []int{1, 1, 1, 4, 1, 3, 3}, [][]int{{1, 0, 4, 3, 2, 1}, {3, 3, 6, 5}}},
		{greatRingNet(), []int{2, 2, 2, 3, 1, 2, 1}, [][]int{{1, 0, 4, 3, 2, 1}, {1, 0, 5, 3, 2, 1}, {1, 3, 6, 5}}},
	} {
		if rings := impl.RingsOf(c.net, c.flow); !sameRows(rings, c.want) {
			t.Errorf("rings of %v in %v are %v, not %v", c.flow, c.net, rings, c.want)
		}
	}
}

func TestP26EmptyPipesHaveNoRings(t *testing.T) {
	for _, net := range partNets() {
		if rings := impl.RingsOf(net, filled(net, 0)); len(rings) != 0 {
			t.Fatalf("rings of empty pipes in %v are %v", net, rings)
		}
	}
	for nodes := 2; nodes <= impl.MaxNodes; nodes++ {
		if rings := impl.RingsOf(impl.Net{Nodes: nodes}, nil); len(rings) != 0 {
			t.Errorf("rings of %d nodes alone are %v", nodes, rings)
		}
	}
}

func TestP26OthersHaveNoRings(t *testing.T) {
	none := func(net impl.Net, flow []int) {
		t.Helper()
		if rings := impl.RingsOf(net, flow); len(rings) != 0 {
			t.Fatalf("rings of %v in %v are %v", flow, net, rings)
		}
	}
	unbalanced := 0
	for _, net := range partNets() {
		for _, flow := range append(someFlows(net), flowsFrom(net, 0, 1)...) {
			if !allZero(excesses(net, flow)) {
				unbalanced++
				none(net, flow)
			}
		}
		for _, flow := range badFlows(net) {
			none(net, flow)
		}
	}
	if unbalanced == 0 {
		t.Fatal("no flow with an excess was tried")
	}
	for _, amount := range []int{-1, math.MinInt, impl.MaxFlow + 1, math.MaxInt} {
		none(pairNet(), []int{amount, amount})
	}
	none(pairNet(), []int{1, 1, 0})
	none(exampleNet(), []int{3, 2, 1, 2, 3})
	none(loopNet(), []int{1, 1, 0, 1, 0})
	for _, net := range badRingNets() {
		none(net, onesOf(net, []int{0, 1}))
	}
	for _, net := range badNets() {
		none(net, filled(net, 0))
	}
}

func TestP27FlowsAreSumsOfThreadsAndRings(t *testing.T) {
	most, both := 0, 0
	forEnds(partNets(), func(net impl.Net, from, to int) {
		for _, flow := range flowsFrom(net, from, to) {
			parts := partsOf(t, net, flow, from, to)
			if want := wantParts(net, flow, from, to); !sameRows(parts, want) {
				t.Fatalf("parts of %v in %v from %d to %d are %v, not %v", flow, net, from, to, parts, want)
			}
			threads := checkParts(t, net, flow, parts, from, to)
			most = max(most, len(parts))
			if 0 < threads && threads < len(parts) {
				both++
			}
		}
	})
	if most < 4 || both == 0 {
		t.Fatalf("at most %d parts were tried at once, and %d flows with threads and rings", most, both)
	}
}

// checkParts tells how many of the parts are threads.
func checkParts(t *testing.T, net impl.Net, flow []int, parts [][]int, from, to int) int {
	t.Helper()
	threads, carried := 0, 0
	for _, part := range parts {
		thread := impl.ThreadOk(net, part[1:], from, to)
		if part[0] < 1 || thread == impl.RingOk(net, part[1:]) {
			t.Fatalf("parts of %v in %v from %d to %d are %v: %v is none", flow, net, from, to, parts, part)
		}
		if thread {
			threads++
			carried += part[0]
		}
	}
	if !slices.Equal(summed(net, parts), flow) {
		t.Fatalf("parts of %v in %v from %d to %d are %v, together another flow", flow, net, from, to, parts)
	}
	if carried != excessAt(t, net, flow, to) {
		t.Fatalf("parts of %v in %v from %d to %d are %v: the threads carry %d", flow, net, from, to, parts, carried)
	}
	return threads
}

func TestP27WalksThatCloseOnTheWay(t *testing.T) {
	back := impl.Net{Nodes: 3, Pipes: []impl.Pipe{{From: 0, To: 1}, {From: 1, To: 0}, {From: 1, To: 2}, {From: 2, To: 1}}}
	for _, c := range []struct {
		why      string
		net      impl.Net
		flow     []int
		from, to int
		want     [][]int
	}{
		{"a thread", pairNet(), []int{3, 0}, 0, 1, [][]int{{3, 0}}},
		{"two threads with the same ends", twinsNet(), []int{2, 0, 1, 0, 0}, 0, 1, [][]int{{2, 0}, {1, 2}}},
		{"threads with pipes in common", twinsNet(), []int{0, 3, 2, 4, 1}, 0, 2, [][]int{{3, 1, 3}, {1, 2, 3}, {1, 2, 4}}},
		{"threads by a longer way first", exampleNet(), []int{3, 2, 1, 2, 3}, 0, 3, [][]int{{1, 0, 2, 4}, {2, 0, 3}, {2, 1, 4}}},
		{"a ring at a node between, ahead of the thread", loopNet(), []int{2, 5, 3, 2, 0}, 0, 3, [][]int{{3, 1, 2}, {2, 0, 1, 3}}},
		{"a ring at the first node", back, []int{5, 2, 3, 0}, 0, 2, [][]int{{2, 0, 1}, {3, 0, 2}}},
		{"a ring at the second node, behind the thread", back, []int{2, 0, 5, 3}, 0, 2, [][]int{{2, 0, 2}, {3, 2, 3}}},
		{"a thread of at most the excess that is left", pairNet(), []int{5, 2}, 0, 1, [][]int{{3, 0}, {2, 0, 1}}},
		{"a second thread of what is left", twinsNet(), []int{0, 0, 0, 3, 4}, 1, 2, [][]int{{3, 3}, {4, 4}}},
		{"a thread through a pipe of a ring", loopNet(), []int{4, 4, 0, 4, 1}, 0, 3, [][]int{{3, 0, 1, 3}, {1, 0, 1, 3, 4}}},
		{"rings alone", eightNet(), []int{1, 1, 1, 1}, 0, 2, [][]int{{1, 1, 2}, {1, 0, 3}}},
		{"rings alone, between other nodes", eightNet(), []int{0, 2, 2, 0}, 1, 0, [][]int{{2, 1, 2}}},
		{"rings apart from the thread", impl.Net{Nodes: 4, Pipes: []impl.Pipe{{From: 2, To: 3}, {From: 0, To: 1}, {From: 3, To: 2}}}, []int{2, 1, 2}, 0, 1, [][]int{{1, 1}, {2, 0, 2}}},
		{"the greatest amounts", twinsNet(), []int{40, 40, 0, 40, 40}, 0, 2, [][]int{{40, 0, 3}, {40, 1, 4}}},
		{"the longest thread", greatRingNet(), []int{0, 7, 7, 7, 2, 5, 0}, 0, 4, [][]int{{2, 4, 3, 2, 1}, {5, 5, 3, 2, 1}}},
	} {
		if parts := partsOf(t, c.net, c.flow, c.from, c.to); !sameRows(parts, c.want) {
			t.Errorf("%s: parts of %v in %v from %d to %d are %v, not %v", c.why, c.flow, c.net, c.from, c.to, parts, c.want)
		}
	}
}

func TestP27EmptyPipesHaveNoParts(t *testing.T) {
	forEnds(partNets(), func(net impl.Net, from, to int) {
		if parts := partsOf(t, net, filled(net, 0), from, to); len(parts) != 0 {
			t.Fatalf("parts of empty pipes in %v from %d to %d are %v", net, from, to, parts)
		}
	})
}

func TestP27BalancedFlowsHaveTheirRings(t *testing.T) {
	for _, net := range partNets() {
		for _, flow := range balancedFlows(net) {
			rings := impl.RingsOf(net, flow)
			forEnds([]impl.Net{net}, func(net impl.Net, from, to int) {
				if parts := partsOf(t, net, flow, from, to); !sameRows(parts, rings) {
					t.Fatalf("parts of %v in %v from %d to %d are %v, not %v", flow, net, from, to, parts, rings)
				}
			})
		}
	}
}

func TestP27OthersHaveNoParts(t *testing.T) {
	none := func(net impl.Net, flow []int, from, to int) {
		t.Helper()
		if parts, ok := impl.PartsOf(net, flow, from, to); len(parts) != 0 || ok {
			t.Fatalf("parts of %v in %v from %d to %d are %v, %v", flow, net, from, to, parts, ok)
		}
	}
	lacks, third := 0, 0
	forEnds(partNets(), func(net impl.Net, from, to int) {
		for _, flow := range append(someFlows(net), flowsFrom(net, to, from)...) {
			others := excesses(net, flow)
			lack := others[to] < 0
			others[from], others[to] = 0, 0
			if !allZero(others) {
				third++
			} else if lack {
				lacks++
			} else {
				continue
			}
			none(net, flow, from, to)
		}
		for _, flow := range badFlows(net) {
			none(net, flow, from, to)
		}
	})
	if lacks == 0 || third == 0 {
		t.Fatalf("%d flows were tried that lack at the second node, and %d with an excess at a third one", lacks, third)
	}
	forNoEnds(func(net impl.Net, from, to int) { none(net, filled(net, 0), from, to) })
	for _, net := range badRingNets() {
		none(net, onesOf(net, []int{0}), 0, 1)
		none(net, onesOf(net, []int{0, 1}), 0, 1)
	}
}

func TestP27EachFaultAlone(t *testing.T) {
	for _, c := range []struct {
		why      string
		net      impl.Net
		flow     []int
		from, to int
	}{
		{"an excess less than 0 at the second node", pairNet(), []int{0, 1}, 0, 1},
		{"ends exchanged", exampleNet(), []int{3, 2, 1, 2, 3}, 3, 0},
		{"an excess at a third node", exampleNet(), []int{1, 0, 0, 0, 0}, 0, 3},
		{"an excess less than 0 at a third node", exampleNet(), []int{0, 0, 0, 1, 0}, 0, 3},
		{"an excess at two more nodes, together nothing", exampleNet(), []int{0, 0, 1, 0, 0}, 0, 3},
		{"the same node twice, rings alone", pairNet(), []int{1, 1}, 0, 0},
		{"the same node twice, a thread", pairNet(), []int{1, 0}, 1, 1},
		{"the same node twice, empty pipes", pairNet(), []int{0, 0}, 1, 1},
		{"an amount too few", pairNet(), []int{1}, 0, 1},
		{"an amount too many", pairNet(), []int{1, 0, 0}, 0, 1},
		{"less than nothing, balanced", pairNet(), []int{-1, -1}, 0, 1},
		{"less than nothing back", pairNet(), []int{0, -1}, 0, 1},
		{"past the bound", pairNet(), []int{impl.MaxFlow + 1, 0}, 0, 1},
		{"past the bound, balanced", pairNet(), []int{impl.MaxFlow + 1, impl.MaxFlow + 1}, 0, 1},
		{"from below 0", pairNet(), []int{1, 1}, -1, 1},
		{"to past the last", pairNet(), []int{1, 1}, 0, 2},
	} {
		if parts, ok := impl.PartsOf(c.net, c.flow, c.from, c.to); len(parts) != 0 || ok {
			t.Errorf("%s: parts of %v in %v from %d to %d are %v, %v", c.why, c.flow, c.net, c.from, c.to, parts, ok)
		}
	}
}

func TestPartsOnlyReadAndShareNothing(t *testing.T) {
	for _, net := range []impl.Net{pairNet(), eightNet(), loopNet(), greatRingNet(), {Nodes: 2}} {
		net.Pipes = roomy(net.Pipes)
		wholePipes := slices.Clone(net.Pipes[:cap(net.Pipes)])
		forEnds([]impl.Net{net}, func(net impl.Net, from, to int) {
			for _, flow := range flowsFrom(net, from, to) {
				flow = roomy(flow)
				wholeFlow := slices.Clone(flow[:cap(flow)])
				rowsSpoiledAgain(t, func() [][]int { return impl.RingsOf(net, flow) })
				rowsSpoiledAgain(t, func() [][]int { parts, _ := impl.PartsOf(net, flow, from, to); return parts })
				if !slices.Equal(flow[:cap(flow)], wholeFlow) {
					t.Fatalf("changed: %v", flow)
				}
			}
			for _, row := range append(threadsIn(net, from, to), ringsIn(net)...) {
				row = roomy(row)
				wholeRow := slices.Clone(row[:cap(row)])
				impl.RingOk(net, row)
				impl.ThreadOk(net, row, from, to)
				if !slices.Equal(row[:cap(row)], wholeRow) {
					t.Fatalf("changed: %v", row)
				}
			}
		})
		if !slices.Equal(net.Pipes[:cap(net.Pipes)], wholePipes) {
			t.Fatalf("changed: %v", net)
		}
	}
}

// rowsSpoiledAgain writes over each row, and the memory behind it, each with a number of its own: no row may have another one's, nor may any come back when asked once more.
func rowsSpoiledAgain(t *testing.T, ask func() [][]int) {
	t.Helper()
	rows := ask()
	want := copiedRows(rows)
	for i, row := range rows {
		for j := range row[:cap(row)] {
			row[:cap(row)][j] = -7 - i
		}
	}
	for i, row := range rows {
		if slices.ContainsFunc(row[:cap(row)], func(n int) bool { return n != -7-i }) {
			t.Fatalf("row %d of %v is shared", i, want)
		}
	}
	if again := ask(); !sameRows(again, want) {
		t.Fatalf("asked again it is %v, not %v", again, want)
	}
}
