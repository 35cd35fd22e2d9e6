package tests

import (
	"math"
	"math/big"
	"slices"
	"testing"

	"loop.example/balancedpipes/impl"
)

// shortcutNet has a dear pipe from 0 to 1, and a cheap way around it that holds less.
func shortcutNet() impl.Net {
	return impl.Net{Nodes: 3, Pipes: []impl.Pipe{
		{From: 0, To: 1, Most: 2, Cost: 5},
		{From: 0, To: 2, Most: 2, Cost: 1},
		{From: 2, To: 1, Most: 1, Cost: 1},
	}}
}

// paidNet has a ring that pays for what goes round it, and a dear pipe across.
func paidNet() impl.Net {
	return impl.Net{Nodes: 3, Pipes: []impl.Pipe{
		{From: 0, To: 1, Most: 4, Cost: -9},
		{From: 1, To: 2, Most: 3, Cost: 4},
		{From: 2, To: 0, Least: 1, Most: 4, Cost: 4},
		{From: 1, To: 0, Most: 2, Cost: 9},
	}}
}

// bigRingNet has one ring through as many nodes as may be, beginning at its last pipe, of a cost of -1.
func bigRingNet() impl.Net {
	return impl.Net{Nodes: 5, Pipes: []impl.Pipe{
		{From: 3, To: 1, Most: 4, Cost: 9},
		{From: 1, To: 4, Most: 3, Cost: -8},
		{From: 4, To: 2, Most: 4, Cost: -9},
		{From: 2, To: 0, Most: 2, Cost: 7},
		{From: 0, To: 3, Most: 4},
	}}
}

// twoRingsNet has two rings of two steps from node 1, the second of which gains more, and a ring of three that gains most.
func twoRingsNet() impl.Net {
	return impl.Net{Nodes: 4, Pipes: []impl.Pipe{
		{From: 1, To: 2, Most: 4, Cost: -9},
		{From: 2, To: 3, Most: 4, Cost: -9},
		{From: 3, To: 1, Most: 4, Cost: -9},
		{From: 1, To: 0, Most: 2, Cost: -1},
		{From: 0, To: 1, Most: 3},
		{From: 0, To: 1, Most: 1, Cost: -5},
	}}
}

// stuckNet has rings that would gain, but pipes that hold just one amount each.
func stuckNet() impl.Net {
	return impl.Net{Nodes: 3, Pipes: []impl.Pipe{
		{From: 0, To: 1, Least: 2, Most: 2, Cost: -9},
		{From: 1, To: 0, Least: 1, Most: 1, Cost: -9},
		{From: 0, To: 1, Cost: -1},
		{From: 1, To: 2, Least: 4, Most: 4, Cost: 3},
	}}
}

// meanNet is a drawn net with many rings, and costs that are often the same.
func (d *draws) meanNet() impl.Net {
	net := impl.Net{Nodes: 2 + d.below(impl.MaxNodes-1)}
	for range 2 + d.below(impl.MaxPipes-1) {
		p := d.pipe(net.Nodes)
		p.Most = max(p.Least, 1+d.below(impl.MaxHold))
		p.Least *= d.below(2)
		p.Cost = d.below(7) - 2
		net.Pipes = append(net.Pipes, p)
	}
	return net
}

// wideNet is a drawn net with as many nodes as may be, all on one ring, whose costs are often together a little less than 0.
func (d *draws) wideNet() impl.Net {
	net, sum := impl.Net{Nodes: impl.MaxNodes}, 0
	for at := range impl.MaxNodes {
		cost := d.below(2*impl.MaxCost+1) - impl.MaxCost
		if at == impl.MaxNodes-1 {
			cost = max(-impl.MaxCost, min(impl.MaxCost, -sum-d.below(3)))
		}
		sum += cost
		net.Pipes = append(net.Pipes, impl.Pipe{From: at, To: (at + 1) % impl.MaxNodes, Most: 1 + d.below(impl.MaxHold), Cost: cost})
	}
	for range d.below(3) {
		p := d.pipe(impl.MaxNodes)
		p.Cost = d.below(impl.MaxCost + 1)
		net.Pipes = append(net.Pipes, p)
	}
	return net
}

// costNets are the good nets, of which few have a ring that gains, and more nets with such rings.
func costNets() []impl.Net {
	nets := append(goodNets(), shortcutNet(), paidNet(), bigRingNet(), twoRingsNet(), stuckNet(), tightNet(), zigzagNet(), bothWaysNet(), twinsNet(), leastNet(), greatRingNet())
	d := &draws{state: 6}
	for range 150 {
		nets = append(nets, d.meanNet(), d.meanNet(), d.wideNet())
	}
	return nets
}

// forCosts tries flows that all pipes hold.
func forCosts(try func(net impl.Net, flow []int)) {
	for _, net := range costNets() {
		for _, flow := range heldFlows(net) {
			try(net, flow)
		}
	}
}

// forNoCosts tries what are no flows, flows that some pipe does not hold, and flows of what is no net, also such that would have a ring that gains, if they were.
func forNoCosts(try func(net impl.Net, flow []int)) {
	forNotHeld(func(net impl.Net, flow []int, _, _ int) { try(net, flow) })
	forNoNets(func(net impl.Net) {
		try(net, filled(net, 0))
		try(net, leastFlow(net))
	})
	for _, net := range []impl.Net{shortcutNet(), paidNet(), bigRingNet(), twoRingsNet(), stuckNet()} {
		least, most := leastFlow(net), amountsOf(net, func(p impl.Pipe) int { return p.Most })
		for at := range net.Pipes {
			try(net, changed(least, at, -1))
			try(net, changed(most, at, 1))
			try(net, most[:at])
		}
		try(net, append(slices.Clone(least), 0))
		for _, nodes := range []int{math.MinInt, -1, 0, 1, impl.MaxNodes + 1, math.MaxInt} {
			try(impl.Net{Nodes: nodes, Pipes: net.Pipes}, least)
		}
		for _, p := range badPipes() {
			if net.Nodes == 3 {
				no := impl.Net{Nodes: 3, Pipes: append(copied(net).Pipes, p)}
				try(no, append(slices.Clone(least), 0))
				try(no, append(slices.Clone(most), p.Least))
			}
		}
	}
	gaining := []impl.Pipe{{From: 0, To: 1, Most: 4, Cost: -1}, {From: 1, To: 0, Most: 4}}
	many := impl.Net{Nodes: 2, Pipes: slices.Repeat(gaining, impl.MaxPipes/2+1)}
	try(many, filled(many, 0))
}

// wantCost counts one by one what each unit of a flow costs.
func wantCost(net impl.Net, flow []int) int {
	sum := 0
	for at, p := range net.Pipes {
		for range flow[at] {
			sum += p.Cost
		}
	}
	return sum
}

func moveCost(net impl.Net, m move) int {
	if m.step%2 == 1 {
		return -net.Pipes[m.step/2].Cost
	}
	return net.Pipes[m.step/2].Cost
}

func movesCost(net impl.Net, row []move) int {
	sum := 0
	for _, m := range row {
		sum += moveCost(net, m)
	}
	return sum
}

// closes reports whether a row of moves, each of which begins where the one before leads, is a ring.
func closes(row []move) bool {
	begins := map[int]bool{}
	for _, m := range row {
		if begins[m.begin] {
			return false
		}
		begins[m.begin] = true
	}
	return row[len(row)-1].end == row[0].begin
}

// forRows tries all rows of moves, each of which begins where the one before leads, shorter ones first, and of these the first ones first, until one is taken.
func forRows(net impl.Net, flow []int, most int, take func(row []move) bool) {
	moves, rows := wantMoves(net, flow), [][]move{nil}
	for range most {
		var longer [][]move
		for _, row := range rows {
			for _, m := range moves {
				if len(row) > 0 && row[len(row)-1].end != m.begin {
					continue
				}
				more := append(slices.Clone(row), m)
				if take(more) {
					return
				}
				longer = append(longer, more)
			}
		}
		rows = longer
	}
}

// wantGain is the first row of steps that is a ring, and whose costs are together less than 0.
func wantGain(net impl.Net, flow []int) []int {
	var ring []int
	forRows(net, flow, net.Nodes, func(row []move) bool {
		if !closes(row) || movesCost(net, row) >= 0 {
			return false
		}
		for _, m := range row {
			ring = append(ring, m.step)
		}
		return true
	})
	return ring
}

// wantCheaper pushes one by one round a ring that gains, as long as all pipes hold it.
func wantCheaper(net impl.Net, flow []int) []int {
	ring := wantGain(net, flow)
	if ring == nil {
		return nil
	}
	return wantAlong(net, flow, ring, func([]int) bool { return true })
}

func wantCheapest(net impl.Net, flow []int) []int {
	for {
		cheaper := wantCheaper(net, flow)
		if cheaper == nil {
			return flow
		}
		flow = cheaper
	}
}

// wantPrices tries all rows of fewer steps than there are nodes: where no ring gains, longer ones cost no less.
func wantPrices(net impl.Net, flow []int) []int {
	prices := make([]int, net.Nodes)
	forRows(net, flow, net.Nodes-1, func(row []move) bool {
		end := row[len(row)-1].end
		prices[end] = min(prices[end], movesCost(net, row))
		return false
	})
	return prices
}

// wantRight adds without bounds, as prices may be any numbers.
func wantRight(net impl.Net, flow, prices []int) bool {
	if len(prices) != net.Nodes {
		return false
	}
	for _, m := range wantMoves(net, flow) {
		sum := big.NewInt(int64(prices[m.begin]))
		sum.Add(sum, big.NewInt(int64(moveCost(net, m))))
		if sum.Cmp(big.NewInt(int64(prices[m.end]))) < 0 {
			return false
		}
	}
	return true
}

// wantLeast is what excesses cost by prices, and over all pipes the cost of the cheaper one of their bounds by what the prices leave of their cost.
func wantLeast(net impl.Net, flow, prices []int) int {
	sum := 0
	for node, excess := range excesses(net, flow) {
		sum += excess * prices[node]
	}
	for _, p := range net.Pipes {
		left := p.Cost + prices[p.From] - prices[p.To]
		if left < 0 {
			sum += left * p.Most
		} else {
			sum += left * p.Least
		}
	}
	return sum
}

// sameExcesses reports whether each node has the same excess in both flows, by the program.
func sameExcesses(t *testing.T, net impl.Net, a, b []int) bool {
	t.Helper()
	for node := range net.Nodes {
		if excessAt(t, net, a, node) != excessAt(t, net, b, node) {
			return false
		}
	}
	return true
}

func costOf(t *testing.T, net impl.Net, flow []int) int {
	t.Helper()
	cost, ok := impl.CostOf(net, flow)
	if !ok {
		t.Fatalf("what %v costs in %v is not told", flow, net)
	}
	return cost
}

func gainOf(t *testing.T, net impl.Net, flow []int) []int {
	t.Helper()
	ring, ok := impl.GainOf(net, flow)
	if ok != (len(ring) > 0) {
		t.Fatalf("the ring that gains in %v of %v is %v, %v", flow, net, ring, ok)
	}
	return ring
}

func cheapestFlow(t *testing.T, net impl.Net, flow []int) []int {
	t.Helper()
	cheapest, ok := impl.CheapestFlow(net, flow)
	if !ok || !impl.HoldsOk(net, cheapest) {
		t.Fatalf("the cheapest flow from %v in %v is %v, %v", flow, net, cheapest, ok)
	}
	return cheapest
}

// cheapestPrices are the prices of the cheapest flow.
func cheapestPrices(t *testing.T, net impl.Net, flow []int) (cheapest, prices []int) {
	t.Helper()
	cheapest = cheapestFlow(t, net, flow)
	prices, ok := impl.PricesFor(net, cheapest)
	if !ok {
		t.Fatalf("prices of %v in %v are not told", cheapest, net)
	}
	return cheapest, prices
}

func raised(prices []int, by int) []int {
	more := slices.Clone(prices)
	for node := range more {
		more[node] += by
	}
	return more
}

// somePrices are prices near those given, and others.
func somePrices(prices []int, d *draws) [][]int {
	some := [][]int{prices, raised(prices, 1000), raised(prices, -1), make([]int, len(prices))}
	for node := range prices {
		some = append(some, changed(prices, node, 1), changed(prices, node, -1))
	}
	for range 4 {
		drawn := make([]int, len(prices))
		for node := range drawn {
			drawn[node] = d.below(2*impl.MaxCost) - impl.MaxCost
		}
		some = append(some, drawn)
	}
	return some
}

func TestP34CostsOfSumsAreSumsOfCosts(t *testing.T) {
	twice, others := 0, 0
	for _, net := range costNets() {
		if cost := costOf(t, net, filled(net, 0)); cost != 0 {
			t.Fatalf("empty pipes of %v cost %d", net, cost)
		}
		flows := append(someFlows(net), heldFlows(net)...)
		for i, flow := range flows {
			cost := costOf(t, net, flow)
			if want := wantCost(net, flow); cost != want {
				t.Fatalf("%v in %v costs %d, not %d", flow, net, cost, want)
			}
			if turned := costOf(t, impl.TurnedNet(net), flow); turned != cost {
				t.Fatalf("%v in %v costs %d, but turned %d", flow, net, cost, turned)
			}
			other := flows[len(flows)-1-i]
			if sum, ok := impl.BothFlows(net, flow, other); ok && costOf(t, net, sum) != cost+costOf(t, net, other) {
				t.Fatalf("%v and %v in %v do not cost what both cost", flow, other, net)
			}
			sum, ok := impl.BothFlows(net, flow, flow)
			if !ok {
				others++
				continue
			}
			if cost != 0 {
				twice++
			}
			if got := costOf(t, net, sum); got != 2*cost {
				t.Fatalf("%v in %v costs %d, but twice as much %d", flow, net, cost, got)
			}
		}
	}
	if twice == 0 || others == 0 {
		t.Fatalf("%d flows were tried twice, and %d that are then none", twice, others)
	}
}

func TestP34EachAmountCosts(t *testing.T) {
	at := func(costs ...int) impl.Net {
		net := impl.Net{Nodes: 2}
		for _, cost := range costs {
			net.Pipes = append(net.Pipes, impl.Pipe{From: 0, To: 1, Cost: cost})
		}
		return net
	}
	for _, c := range []struct {
		why  string
		net  impl.Net
		flow []int
		want int
	}{
		{"no pipes", impl.Net{Nodes: 2}, nil, 0},
		{"no pipes", impl.Net{Nodes: 5, Pipes: []impl.Pipe{}}, []int{}, 0},
		{"the example", exampleNet(), []int{3, 2, 1, 2, 3}, 18},
		{"costs of 0", at(0, 0), []int{40, 3}, 0},
		{"a cost less than 0", at(-3), []int{7}, -21},
		{"costs that make up for each other", at(-3, 4, 2), []int{4, 2, 2}, 0},
		{"more than the pipes hold", at(1, 2), []int{40, 5}, 50},
		{"as much as may be", at(9, 9, 9, 9, 9, 9, 9), slices.Repeat([]int{40}, 7), 2520},
		{"as little as may be", at(-9, -9, -9, -9, -9, -9, -9), slices.Repeat([]int{40}, 7), -2520},
		{"less than the pipes hold at least", tightNet(), []int{0, 0, 0}, 0},
		{"a ring", paidNet(), []int{3, 3, 3, 0}, -3},
	} {
		if cost, ok := impl.CostOf(c.net, c.flow); cost != c.want || !ok {
			t.Errorf("%s: %v in %v costs %d, %v, not %d", c.why, c.flow, c.net, cost, ok, c.want)
		}
	}
}

func TestP34OthersHaveNoCost(t *testing.T) {
	none := func(net impl.Net, flow []int) {
		t.Helper()
		if cost, ok := impl.CostOf(net, flow); cost != 0 || ok {
			t.Fatalf("%v in %v costs %d, %v", flow, net, cost, ok)
		}
	}
	for _, net := range costNets() {
		for _, flow := range badFlows(net) {
			none(net, flow)
		}
	}
	forNoNets(func(net impl.Net) {
		none(net, filled(net, 0))
		none(net, filled(net, 1))
	})
}

func TestP35EitherARingGainsOrPricesAreRight(t *testing.T) {
	lengths, back, none := map[int]int{}, 0, 0
	forCosts(func(net impl.Net, flow []int) {
		ring := gainOf(t, net, flow)
		if want := wantGain(net, flow); !slices.Equal(ring, want) {
			t.Fatalf("the ring that gains in %v of %v is %v, not %v", flow, net, ring, want)
		}
		prices, ok := impl.PricesFor(net, flow)
		if ok != (len(ring) == 0) || !ok && len(prices) != 0 {
			t.Fatalf("the ring that gains in %v of %v is %v, and prices are %v, %v", flow, net, ring, prices, ok)
		}
		if ok {
			none++
			return
		}
		checkGain(t, net, flow, ring)
		lengths[len(ring)]++
		if slices.ContainsFunc(ring, func(step int) bool { return step%2 == 1 }) {
			back++
		}
	})
	for length := 2; length <= impl.MaxNodes; length++ {
		if lengths[length] < 20 {
			t.Fatalf("rings were tried by their steps: %v", lengths)
		}
	}
	if back == 0 || none == 0 {
		t.Fatalf("%d rings with steps back were tried, and %d flows without a ring", back, none)
	}
}

// checkGain follows the steps from pipe to pipe, and adds their costs.
func checkGain(t *testing.T, net impl.Net, flow, ring []int) {
	t.Helper()
	var row []move
	for _, step := range ring {
		for _, m := range wantMoves(net, flow) {
			if m.step == step {
				row = append(row, m)
			}
		}
	}
	if len(row) != len(ring) || len(row) < 2 || !closes(row) || movesCost(net, row) >= 0 {
		t.Fatalf("no ring gains in %v of %v by %v", flow, net, ring)
	}
	for i, m := range row[1:] {
		if m.begin != row[i].end {
			t.Fatalf("steps of %v in %v of %v do not lead on", ring, flow, net)
		}
	}
}

func TestP35TheFirstOfTheShortestRings(t *testing.T) {
	pair := func(costs ...int) impl.Net {
		net := impl.Net{Nodes: 2}
		for at, cost := range costs {
			net.Pipes = append(net.Pipes, impl.Pipe{From: at % 2, To: 1 - at%2, Most: 2, Cost: cost})
		}
		return net
	}
	twins := impl.Net{Nodes: 2, Pipes: []impl.Pipe{{From: 0, To: 1, Most: 2, Cost: 3}, {From: 0, To: 1, Most: 2, Cost: 1}}}
	for _, c := range []struct {
		why  string
		net  impl.Net
		flow []int
		want []int
	}{
		{"a ring with a step back", shortcutNet(), []int{2, 0, 0}, []int{1, 2, 4}},
		{"two steps, along and along", pair(-1, 0), []int{0, 0}, []int{0, 2}},
		{"two steps, back and back", pair(0, 1), []int{1, 1}, []int{1, 3}},
		{"two steps, back and along", twins, []int{1, 0}, []int{1, 2}},
		{"two steps, along and back", impl.Net{Nodes: 2, Pipes: []impl.Pipe{twins.Pipes[1], twins.Pipes[0]}}, []int{0, 1}, []int{0, 3}},
		{"of two rings the first one, though the other one gains more", pair(-1, 0, -9, 0), []int{0, 0, 0, 0}, []int{0, 2}},
		{"two rings with the same first step", pair(-3, 2, 9, 1), []int{0, 0, 0, 0}, []int{0, 2}},
		{"the first one costs 0", pair(-3, 3, 9, 2), []int{0, 0, 0, 0}, []int{0, 6}},
		{"the first one cannot be made, as a pipe is full", pair(-3, 2, 9, 1), []int{0, 2, 0, 0}, []int{0, 6}},
		{"fewer steps before lesser numbers, and before a greater gain", twoRingsNet(), filled(twoRingsNet(), 0), []int{6, 8}},
		{"the second one of two rings, as the first one is full", twoRingsNet(), []int{0, 0, 0, 1, 1, 0}, []int{6, 8}},
		{"a full pipe of the first one", twoRingsNet(), []int{0, 0, 0, 0, 3, 0}, []int{6, 10}},
		{"no ring of two steps", twoRingsNet(), []int{0, 0, 0, 2, 1, 1}, []int{0, 2, 4}},
		{"the first step is not of the first pipe", paidNet(), []int{4, 0, 1, 2}, []int{2, 4, 7}},
		{"as many steps as may be", bigRingNet(), filled(bigRingNet(), 0), []int{0, 2, 4, 6, 8}},
		{"a pipe with a cost less than 0 that is full is no gain", bigRingNet(), []int{0, 3, 0, 0, 0}, nil},
	} {
		ring, ok := impl.GainOf(c.net, c.flow)
		if ok != (c.want != nil) || !slices.Equal(ring, c.want) {
			t.Errorf("%s: in %v of %v it is %v, %v, not %v", c.why, c.flow, c.net, ring, ok, c.want)
		}
	}
}

func TestP35NoRingGains(t *testing.T) {
	for _, c := range []struct {
		why  string
		net  impl.Net
		flow []int
	}{
		{"no pipes", impl.Net{Nodes: 2}, nil},
		{"no pipes", impl.Net{Nodes: 5, Pipes: []impl.Pipe{}}, []int{}},
		{"no step may be made", stuckNet(), leastFlow(stuckNet())},
		{"one pipe, along and back", impl.Net{Nodes: 2, Pipes: []impl.Pipe{{From: 0, To: 1, Most: 2, Cost: -9}}}, []int{1}},
		{"one pipe, along and back", impl.Net{Nodes: 2, Pipes: []impl.Pipe{{From: 0, To: 1, Most: 2, Cost: 9}}}, []int{1}},
		{"a ring that costs 0", impl.Net{Nodes: 2, Pipes: []impl.Pipe{{From: 0, To: 1, Most: 2, Cost: -9}, {From: 1, To: 0, Most: 2, Cost: 9}}}, []int{1, 1}},
		{"pipes with a cost less than 0, but no ring", impl.Net{Nodes: 3, Pipes: []impl.Pipe{{From: 0, To: 1, Most: 4, Cost: -9}, {From: 1, To: 2, Most: 4, Cost: -9}}}, []int{2, 2}},
		{"a ring that is full", impl.Net{Nodes: 2, Pipes: []impl.Pipe{{From: 0, To: 1, Most: 2, Cost: -9}, {From: 1, To: 0, Most: 2}}}, []int{2, 2}},
	} {
		ring, ok := impl.GainOf(c.net, c.flow)
		if ok || len(ring) != 0 {
			t.Errorf("%s: in %v of %v a ring that gains is %v, %v", c.why, c.flow, c.net, ring, ok)
		}
		if prices, ok := impl.PricesFor(c.net, c.flow); !ok || len(prices) != c.net.Nodes {
			t.Errorf("%s: in %v of %v prices are %v, %v", c.why, c.flow, c.net, prices, ok)
		}
	}
}

func TestP35OthersDoNotGain(t *testing.T) {
	forNoCosts(func(net impl.Net, flow []int) {
		if ring, ok := impl.GainOf(net, flow); len(ring) != 0 || ok {
			t.Fatalf("in %v of %v a ring that gains is %v, %v", flow, net, ring, ok)
		}
	})
}

func TestP36ItGetsCheaperAndNoExcessChanges(t *testing.T) {
	one, more, none, fed := 0, 0, 0, 0
	forCosts(func(net impl.Net, flow []int) {
		cheaper, ok := impl.CheaperFlow(net, flow)
		if want := wantCheaper(net, flow); ok != (want != nil) || !slices.Equal(cheaper, want) {
			t.Fatalf("cheaper than %v in %v is %v, %v, not %v", flow, net, cheaper, ok, want)
		}
		ring := gainOf(t, net, flow)
		if ok != (len(ring) > 0) {
			t.Fatalf("cheaper than %v in %v is %v, %v, with the ring %v", flow, net, cheaper, ok, ring)
		}
		if !ok {
			none++
			return
		}
		if !impl.HoldsOk(net, cheaper) || costOf(t, net, cheaper) >= costOf(t, net, flow) || !sameExcesses(t, net, flow, cheaper) {
			t.Fatalf("cheaper than %v in %v is %v", flow, net, cheaper)
		}
		if !allZero(excesses(net, flow)) {
			fed++
		}
		if at := ring[0] / 2; cheaper[at]-flow[at] == 1 || flow[at]-cheaper[at] == 1 {
			one++
		} else {
			more++
		}
	})
	if one == 0 || more == 0 || none == 0 || fed == 0 {
		t.Fatalf("%d pushes by 1 were tried, %d by more, %d flows that are cheapest, and %d with excesses", one, more, none, fed)
	}
}

func TestP36RoundTheRingByAsMuchAsMayBe(t *testing.T) {
	held := func(a, b int) impl.Net {
		return impl.Net{Nodes: 2, Pipes: []impl.Pipe{{From: 0, To: 1, Most: a, Cost: -1}, {From: 1, To: 0, Most: b}}}
	}
	least := impl.Net{Nodes: 2, Pipes: []impl.Pipe{{From: 0, To: 1, Least: 1, Most: 4, Cost: 2}, {From: 0, To: 1, Most: 4, Cost: 1}}}
	for _, c := range []struct {
		why  string
		net  impl.Net
		flow []int
		want []int
	}{
		{"a cheap way around", shortcutNet(), []int{2, 0, 0}, []int{1, 1, 1}},
		{"as much as both hold", held(4, 4), []int{0, 0}, []int{4, 4}},
		{"as much as the first one holds", held(1, 4), []int{0, 0}, []int{1, 1}},
		{"as much as the second one holds", held(4, 2), []int{0, 0}, []int{2, 2}},
		{"as much as is left", held(4, 4), []int{1, 2}, []int{3, 4}},
		{"an excess is kept", held(4, 4), []int{2, 0}, []int{4, 2}},
		{"back as far as the least amount", least, []int{4, 0}, []int{1, 3}},
		{"back as far as the other one holds", least, []int{4, 2}, []int{2, 4}},
		{"round one ring only, once", twoRingsNet(), filled(twoRingsNet(), 0), []int{0, 0, 0, 2, 2, 0}},
		{"as many steps as may be", bigRingNet(), filled(bigRingNet(), 0), []int{2, 2, 2, 2, 2}},
	} {
		if flow, ok := impl.CheaperFlow(c.net, c.flow); !slices.Equal(flow, c.want) || !ok {
			t.Errorf("%s: cheaper than %v in %v is %v, %v, not %v", c.why, c.flow, c.net, flow, ok, c.want)
		}
	}
}

func TestP36NoFlowIsCheaper(t *testing.T) {
	for _, c := range []struct {
		net  impl.Net
		flow []int
	}{
		{impl.Net{Nodes: 2}, nil},
		{impl.Net{Nodes: 5, Pipes: []impl.Pipe{}}, []int{}},
		{stuckNet(), leastFlow(stuckNet())},
		{shortcutNet(), []int{1, 1, 1}},
		{shortcutNet(), []int{0, 0, 0}},
		{exampleNet(), []int{3, 2, 1, 2, 3}},
		{bigRingNet(), []int{2, 2, 2, 2, 2}},
	} {
		if flow, ok := impl.CheaperFlow(c.net, c.flow); len(flow) != 0 || ok {
			t.Errorf("cheaper than %v in %v is %v, %v", c.flow, c.net, flow, ok)
		}
	}
}

func TestP36OthersDoNotGetCheaper(t *testing.T) {
	forNoCosts(func(net impl.Net, flow []int) {
		if cheaper, ok := impl.CheaperFlow(net, flow); len(cheaper) != 0 || ok {
			t.Fatalf("cheaper than %v in %v is %v, %v", flow, net, cheaper, ok)
		}
	})
}

func TestP37InTheEndNoFlowIsCheaper(t *testing.T) {
	changes, same, fed, counted := 0, 0, 0, 0
	forCosts(func(net impl.Net, flow []int) {
		cheapest := cheapestFlow(t, net, flow)
		if want := wantCheapest(net, flow); !slices.Equal(cheapest, want) {
			t.Fatalf("the cheapest flow from %v in %v is %v, not %v", flow, net, cheapest, want)
		}
		if ring := gainOf(t, net, cheapest); len(ring) != 0 {
			t.Fatalf("in %v of %v the ring %v gains", cheapest, net, ring)
		}
		if prices, ok := impl.PricesFor(net, cheapest); !ok || !impl.PricesOk(net, cheapest, prices) {
			t.Fatalf("in %v of %v prices are %v, %v", cheapest, net, prices, ok)
		}
		if !sameExcesses(t, net, flow, cheapest) {
			t.Fatalf("the cheapest flow from %v in %v is %v", flow, net, cheapest)
		}
		switch {
		case slices.Equal(flow, cheapest):
			same++
		case allZero(excesses(net, flow)):
			changes++
		default:
			changes, fed = changes+1, fed+1
		}
		if len(net.Pipes) <= 4 {
			counted++
			checkLeastCost(t, net, cheapest)
		}
	})
	if changes < 100 || same < 100 || fed < 100 || counted < 100 {
		t.Fatalf("%d flows were tried that get cheaper, %d others, %d with excesses, and %d one by one", changes, same, fed, counted)
	}
}

// checkLeastCost asks all flows that all pipes hold with the same excesses, one by one.
func checkLeastCost(t *testing.T, net impl.Net, flow []int) {
	t.Helper()
	want := excesses(net, flow)
	for _, other := range allHeldFlows(net) {
		if slices.Equal(excesses(net, other), want) && wantCost(net, other) < wantCost(net, flow) {
			t.Fatalf("%v in %v is cheaper than %v", other, net, flow)
		}
	}
}

func TestP37RingsUntilNoneIsLeft(t *testing.T) {
	for _, c := range []struct {
		why  string
		net  impl.Net
		flow []int
		want []int
		cost int
	}{
		{"a cheap way around", shortcutNet(), []int{2, 0, 0}, []int{1, 1, 1}, 7},
		{"no pipes", impl.Net{Nodes: 2}, nil, nil, 0},
		{"no pipes", impl.Net{Nodes: 5, Pipes: []impl.Pipe{}}, []int{}, nil, 0},
		{"no step may be made", stuckNet(), []int{2, 1, 0, 4}, []int{2, 1, 0, 4}, -15},
		{"a ring after a ring", twoRingsNet(), filled(twoRingsNet(), 0), []int{4, 4, 4, 2, 1, 1}, -115},
		{"a ring that pays", paidNet(), []int{0, 0, 1, 0}, []int{3, 3, 4, 0}, 1},
		{"one ring along a pipe, and one back along another one", paidNet(), []int{2, 0, 1, 2}, []int{4, 3, 4, 1}, 1},
		{"a dear pipe is emptied", exampleNet(), []int{2, 0, 1, 1, 1}, []int{1, 1, 1, 0, 2}, 5},
	} {
		flow, ok := impl.CheapestFlow(c.net, c.flow)
		if !slices.Equal(flow, c.want) || !ok {
			t.Errorf("%s: the cheapest flow from %v in %v is %v, %v, not %v", c.why, c.flow, c.net, flow, ok, c.want)
		}
		if cost := wantCost(c.net, c.want); cost != c.cost {
			t.Errorf("%s: %v in %v costs %d, not %d", c.why, c.want, c.net, cost, c.cost)
		}
	}
}

func TestP37OthersHaveNoCheapestFlow(t *testing.T) {
	forNoCosts(func(net impl.Net, flow []int) {
		if cheapest, ok := impl.CheapestFlow(net, flow); len(cheapest) != 0 || ok {
			t.Fatalf("the cheapest flow from %v in %v is %v, %v", flow, net, cheapest, ok)
		}
	})
}

func TestP38PricesMayAllRiseByAsMuch(t *testing.T) {
	right, wrong, between := 0, 0, 0
	d := &draws{state: 38}
	forCosts(func(net impl.Net, flow []int) {
		cheapest, found := cheapestPrices(t, net, flow)
		for _, prices := range somePrices(found, d) {
			for _, flow := range [][]int{flow, cheapest} {
				want := wantRight(net, flow, prices)
				if impl.PricesOk(net, flow, prices) != want {
					t.Fatalf("prices %v in %v of %v are right: not %v", prices, flow, net, want)
				}
				if impl.PricesOk(net, flow, raised(prices, 1)) != want {
					t.Fatalf("prices %v in %v of %v, each one more, are right: not %v", prices, flow, net, want)
				}
				if !want {
					wrong++
					continue
				}
				right++
				if ring := gainOf(t, net, flow); len(ring) != 0 {
					t.Fatalf("prices %v in %v of %v are right, and the ring %v gains", prices, flow, net, ring)
				}
				between += checkBetween(t, net, flow, prices)
			}
		}
	})
	if right == 0 || wrong == 0 || between == 0 {
		t.Fatalf("%d right prices were tried, %d others, and %d pipes between their bounds", right, wrong, between)
	}
}

// checkBetween expects right prices, and tells how many pipes are neither full nor at their least amounts.
func checkBetween(t *testing.T, net impl.Net, flow, prices []int) int {
	t.Helper()
	count := 0
	for at, p := range net.Pipes {
		if flow[at] == p.Least || flow[at] == p.Most {
			continue
		}
		count++
		if p.Cost != prices[p.To]-prices[p.From] {
			t.Fatalf("prices %v in %v of %v are not the cost of pipe %d", prices, flow, net, at)
		}
	}
	return count
}

func TestP38APriceForEachNode(t *testing.T) {
	one := impl.Net{Nodes: 2, Pipes: []impl.Pipe{{From: 0, To: 1, Most: 2, Cost: 3}}}
	paid := impl.Net{Nodes: 2, Pipes: []impl.Pipe{{From: 0, To: 1, Most: 2, Cost: -3}}}
	for _, c := range []struct {
		why    string
		net    impl.Net
		flow   []int
		prices []int
		want   bool
	}{
		{"a cheap way around", shortcutNet(), []int{1, 1, 1}, []int{0, 5, 1}, true},
		{"one too little", shortcutNet(), []int{1, 1, 1}, []int{0, 4, 1}, false},
		{"a row that is too short", shortcutNet(), []int{1, 1, 1}, []int{0, 5}, false},
		{"a row that is too long", shortcutNet(), []int{1, 1, 1}, []int{0, 5, 1, 0}, false},
		{"no row", shortcutNet(), []int{1, 1, 1}, nil, false},
		{"no pipes, and no row", impl.Net{Nodes: 2}, nil, nil, false},
		{"no pipes, and one price", impl.Net{Nodes: 2}, nil, []int{0}, false},
		{"no pipes, and two prices", impl.Net{Nodes: 2}, nil, []int{7, -3}, true},
		{"no pipes, and three prices", impl.Net{Nodes: 2}, nil, []int{0, 0, 0}, false},
		{"no step may be made", stuckNet(), []int{2, 1, 0, 4}, []int{100, -100, 3}, true},
		{"no step may be made, and two prices", stuckNet(), []int{2, 1, 0, 4}, []int{100, -100}, false},
		{"along, just the cost", one, []int{0}, []int{0, 3}, true},
		{"along, less than the cost", one, []int{0}, []int{0, -50}, true},
		{"along, more than the cost", one, []int{0}, []int{0, 4}, false},
		{"back, just the cost", one, []int{2}, []int{0, 3}, true},
		{"back, less than the cost", one, []int{2}, []int{0, 2}, false},
		{"back, more than the cost", one, []int{2}, []int{0, 50}, true},
		{"both, just the cost", one, []int{1}, []int{-1, 2}, true},
		{"both, less than the cost", one, []int{1}, []int{-1, 1}, false},
		{"both, more than the cost", one, []int{1}, []int{-1, 3}, false},
		{"a cost less than 0", paid, []int{0}, []int{0, -3}, true},
		{"a cost less than 0, and one more", paid, []int{0}, []int{0, -2}, false},
		{"a cost less than 0, back", paid, []int{2}, []int{0, -4}, false},
	} {
		if got := impl.PricesOk(c.net, c.flow, c.prices); got != c.want {
			t.Errorf("%s: prices %v in %v of %v are right: %v", c.why, c.prices, c.flow, c.net, got)
		}
	}
}

// Prices may be any numbers: together with a cost they may be past all of them.
func TestP38PricesAtTheBoundsOfNumbers(t *testing.T) {
	bounds := []int{math.MinInt, math.MinInt + 1, math.MinInt + 9, math.MinInt + 10, -1, 0, 1, math.MaxInt - 10, math.MaxInt - 9, math.MaxInt - 1, math.MaxInt}
	right, wrong := 0, 0
	for _, cost := range []int{-9, -8, -1, 0, 1, 8, 9} {
		net := impl.Net{Nodes: 2, Pipes: []impl.Pipe{{From: 0, To: 1, Most: 2, Cost: cost}}}
		for amount := 0; amount <= 2; amount++ {
			for _, first := range bounds {
				for _, second := range bounds {
					flow, prices := []int{amount}, []int{first, second}
					want := wantRight(net, flow, prices)
					if impl.PricesOk(net, flow, prices) != want {
						t.Errorf("prices %v in %v of %v are right: not %v", prices, flow, net, want)
					}
					if want {
						right++
					} else {
						wrong++
					}
				}
			}
		}
	}
	if right == 0 || wrong == 0 {
		t.Fatalf("%d right prices were tried, and %d others", right, wrong)
	}
}

func TestP38OthersHaveNoRightPrices(t *testing.T) {
	forNoCosts(func(net impl.Net, flow []int) {
		if 0 <= net.Nodes && net.Nodes < 10 && impl.PricesOk(net, flow, make([]int, net.Nodes)) {
			t.Fatalf("prices of 0 in %v of %v are right", flow, net)
		}
		for nodes := range impl.MaxNodes + 2 {
			if impl.PricesOk(net, flow, make([]int, nodes)) {
				t.Fatalf("%d prices of 0 in %v of %v are right", nodes, flow, net)
			}
		}
	})
	for _, net := range costNets() {
		flow, prices := cheapestPrices(t, net, leastFlow(net))
		for short := range prices {
			if impl.PricesOk(net, flow, prices[:short]) {
				t.Fatalf("%d prices in %v of %v are right", short, flow, net)
			}
		}
		if !impl.PricesOk(net, flow, prices) || impl.PricesOk(net, flow, append(prices, 0)) {
			t.Fatalf("prices %v in %v of %v are not right, or are with one more", prices, flow, net)
		}
	}
}

func TestP39PricesAreRightAndNoneIsMoreThan0(t *testing.T) {
	deep, flat := 0, 0
	forCosts(func(net impl.Net, flow []int) {
		flow, prices := cheapestPrices(t, net, flow)
		if want := wantPrices(net, flow); !slices.Equal(prices, want) {
			t.Fatalf("prices in %v of %v are %v, not %v", flow, net, prices, want)
		}
		if !impl.PricesOk(net, flow, prices) {
			t.Fatalf("prices %v in %v of %v are not right", prices, flow, net)
		}
		if slices.Max(prices) != 0 {
			t.Fatalf("prices in %v of %v are %v: more than 0, or all less", flow, net, prices)
		}
		if slices.Min(prices) < -impl.MaxCost {
			deep++
		} else if allZero(prices) {
			flat++
		}
	})
	if deep == 0 || flat == 0 {
		t.Fatalf("%d prices of several pipes were tried, and %d that are all 0", deep, flat)
	}
}

func TestP39TheLeastSumOfCosts(t *testing.T) {
	line := impl.Net{Nodes: 5, Pipes: []impl.Pipe{
		{From: 3, To: 4, Most: 1, Cost: -9},
		{From: 2, To: 3, Most: 1, Cost: -9},
		{From: 1, To: 2, Most: 1, Cost: -9},
		{From: 0, To: 1, Most: 1, Cost: -9},
	}}
	hill := impl.Net{Nodes: 4, Pipes: []impl.Pipe{
		{From: 0, To: 1, Most: 1, Cost: 5},
		{From: 1, To: 2, Most: 1, Cost: -5},
		{From: 0, To: 2, Most: 1, Cost: -1},
		{From: 2, To: 3, Most: 1, Cost: 2},
	}}
	for _, c := range []struct {
		why  string
		net  impl.Net
		flow []int
		want []int
	}{
		{"a cheap way around", shortcutNet(), []int{1, 1, 1}, []int{-5, 0, -4}},
		{"no pipes", impl.Net{Nodes: 2}, nil, []int{0, 0}},
		{"no pipes", impl.Net{Nodes: 5, Pipes: []impl.Pipe{}}, []int{}, []int{0, 0, 0, 0, 0}},
		{"no step may be made", stuckNet(), []int{2, 1, 0, 4}, []int{0, 0, 0}},
		{"as many steps as may be, against the order of pipes", line, []int{0, 0, 0, 0}, []int{0, -9, -18, -27, -36}},
		{"all steps back", line, []int{1, 1, 1, 1}, []int{0, 0, 0, 0, 0}},
		{"a node to which no step leads, and one to which only a dear one does", hill, []int{0, 0, 0, 0}, []int{0, 0, -5, -3}},
		{"a step back from a full pipe", hill, []int{0, 0, 1, 0}, []int{-4, 0, -5, -3}},
		{"a step back, and one on", hill, []int{1, 0, 0, 0}, []int{-5, 0, -6, -4}},
	} {
		if prices, ok := impl.PricesFor(c.net, c.flow); !slices.Equal(prices, c.want) || !ok {
			t.Errorf("%s: prices in %v of %v are %v, %v, not %v", c.why, c.flow, c.net, prices, ok, c.want)
		}
	}
}

func TestP39OthersHaveNoPrices(t *testing.T) {
	none := func(net impl.Net, flow []int) {
		t.Helper()
		if prices, ok := impl.PricesFor(net, flow); len(prices) != 0 || ok {
			t.Fatalf("prices in %v of %v are %v, %v", flow, net, prices, ok)
		}
	}
	forNoCosts(none)
	none(shortcutNet(), []int{2, 0, 0})
	none(twoRingsNet(), filled(twoRingsNet(), 0))
	none(bigRingNet(), filled(bigRingNet(), 0))
}

func TestP40PartsCostWhatTheFlowCosts(t *testing.T) {
	threads, rings, below := 0, 0, 0
	forEnds(partNets(), func(net impl.Net, from, to int) {
		for _, flow := range flowsFrom(net, from, to) {
			sum := 0
			for _, part := range partsOf(t, net, flow, from, to) {
				if impl.RingOk(net, part[1:]) {
					rings++
				} else {
					threads++
				}
				for _, at := range part[1:] {
					sum += part[0] * net.Pipes[at].Cost
				}
			}
			cost := costOf(t, net, flow)
			if cost != sum {
				t.Fatalf("%v in %v costs %d, but its parts from %d to %d cost %d", flow, net, cost, from, to, sum)
			}
			if cost < 0 {
				below++
			}
		}
	})
	if threads == 0 || rings == 0 || below == 0 {
		t.Fatalf("%d threads were tried, %d rings, and %d costs less than 0", threads, rings, below)
	}
}

func TestP40EachPartCosts(t *testing.T) {
	loop := loopNet()
	for at, cost := range []int{2, -3, 5, 1, -9} {
		loop.Pipes[at].Cost = cost
	}
	for _, c := range []struct {
		why      string
		net      impl.Net
		flow     []int
		from, to int
		parts    [][]int
		cost     int
	}{
		{"no parts", exampleNet(), []int{0, 0, 0, 0, 0}, 0, 3, nil, 0},
		{"threads", exampleNet(), []int{3, 2, 1, 2, 3}, 0, 3, [][]int{{1, 0, 2, 4}, {2, 0, 3}, {2, 1, 4}}, 2 + 10 + 6},
		{"a ring, and a thread", loop, []int{2, 5, 3, 2, 0}, 0, 3, [][]int{{3, 1, 2}, {2, 0, 1, 3}}, 6},
		{"a ring alone", loop, []int{1, 1, 0, 1, 1}, 0, 3, [][]int{{1, 0, 1, 3, 4}}, -9},
		{"no pipes", impl.Net{Nodes: 2}, nil, 0, 1, nil, 0},
	} {
		if parts := partsOf(t, c.net, c.flow, c.from, c.to); !sameRows(parts, c.parts) {
			t.Errorf("%s: parts of %v in %v are %v, not %v", c.why, c.flow, c.net, parts, c.parts)
		}
		if cost := costOf(t, c.net, c.flow); cost != c.cost {
			t.Errorf("%s: %v in %v costs %d, not %d", c.why, c.flow, c.net, cost, c.cost)
		}
	}
}

func TestP40OthersHaveNoPartsThatCost(t *testing.T) {
	none := func(net impl.Net, flow []int) {
		t.Helper()
		parts, ok := impl.PartsOf(net, flow, 0, 1)
		cost, costs := impl.CostOf(net, flow)
		if len(parts) != 0 || ok || cost != 0 || costs {
			t.Fatalf("parts of %v in %v are %v, %v, and cost %d, %v", flow, net, parts, ok, cost, costs)
		}
	}
	for _, net := range partNets() {
		for _, flow := range badFlows(net) {
			none(net, flow)
		}
	}
	forNoNets(func(net impl.Net) { none(net, filled(net, 1)) })
}

// Only right prices tell the cost: what they leave of the cost of a pipe is nothing, or the pipe is at the cheaper one of its bounds.
func TestP41PricesTellALeastCost(t *testing.T) {
	right, wrong, below, above := 0, 0, 0, 0
	d := &draws{state: 41}
	forCosts(func(net impl.Net, flow []int) {
		cheapest, found := cheapestPrices(t, net, flow)
		for _, prices := range somePrices(found, d) {
			for _, flow := range [][]int{flow, cheapest} {
				cost, least, ok := costOf(t, net, flow), wantLeast(net, flow, prices), impl.PricesOk(net, flow, prices)
				if ok != (cost == least) || cost < least {
					t.Fatalf("%v in %v costs %d, and by the prices %v at least %d: right are these %v", flow, net, cost, prices, least, ok)
				}
				if !ok {
					wrong++
				} else if right++; cost < 0 {
					below++
				} else if cost > 0 {
					above++
				}
			}
		}
	})
	if right == 0 || wrong == 0 || below == 0 || above == 0 {
		t.Fatalf("%d right prices were tried, %d others, %d costs less than 0, and %d more", right, wrong, below, above)
	}
}

func TestP41NoFlowWithTheSameExcessesCostsLess(t *testing.T) {
	same := 0
	for _, net := range costNets() {
		if len(net.Pipes) > 4 {
			continue
		}
		all := allHeldFlows(net)
		for _, flow := range heldFlows(net) {
			flow, prices := cheapestPrices(t, net, flow)
			least, want := wantLeast(net, flow, prices), excesses(net, flow)
			for _, other := range all {
				if !slices.Equal(excesses(net, other), want) {
					continue
				}
				same++
				if cost := costOf(t, net, other); cost < least || impl.PricesOk(net, other, prices) != (cost == least) {
					t.Fatalf("%v in %v costs %d, and by the prices %v at least %d", other, net, cost, prices, least)
				}
			}
		}
	}
	if same < 1000 {
		t.Fatalf("%d flows were tried", same)
	}
}

func TestP41WhatExcessesAndPipesCost(t *testing.T) {
	for _, c := range []struct {
		why    string
		net    impl.Net
		flow   []int
		prices []int
		want   int
	}{
		{"a cheap way around", shortcutNet(), []int{1, 1, 1}, []int{-5, 0, -4}, 7},
		{"no pipes", impl.Net{Nodes: 3}, nil, []int{4, -5, 6}, 0},
		{"no step may be made", stuckNet(), []int{2, 1, 0, 4}, []int{0, 0, 0}, -15},
		{"no step may be made, and other prices", stuckNet(), []int{2, 1, 0, 4}, []int{7, -3, 40}, -15},
		{"full, and cheaper than the prices", paidNet(), []int{3, 3, 4, 0}, []int{0, -9, -4}, 1},
	} {
		if !impl.PricesOk(c.net, c.flow, c.prices) {
			t.Errorf("%s: prices %v in %v of %v are not right", c.why, c.prices, c.flow, c.net)
		}
		if least, cost := wantLeast(c.net, c.flow, c.prices), costOf(t, c.net, c.flow); least != c.want || cost != c.want {
			t.Errorf("%s: %v in %v costs %d, and by the prices %v at least %d, not %d", c.why, c.flow, c.net, cost, c.prices, least, c.want)
		}
	}
}

func TestP41OthersHaveNoPricesThatTell(t *testing.T) {
	forNoCosts(func(net impl.Net, flow []int) {
		prices, ok := impl.PricesFor(net, flow)
		if len(prices) != 0 || ok || impl.PricesOk(net, flow, prices) {
			t.Fatalf("prices in %v of %v are %v, %v", flow, net, prices, ok)
		}
	})
}

func TestCostsOnlyReadAndShareNothing(t *testing.T) {
	for _, net := range append(costNets()[:60], shortcutNet(), paidNet(), twoRingsNet(), stuckNet(), bigRingNet()) {
		net.Pipes = roomy(net.Pipes)
		wholePipes := slices.Clone(net.Pipes[:cap(net.Pipes)])
		for _, flow := range heldFlows(net) {
			flow, prices := roomy(flow), roomy(make([]int, net.Nodes))
			wholeFlow, wholePrices := slices.Clone(flow[:cap(flow)]), slices.Clone(prices[:cap(prices)])
			impl.CostOf(net, flow)
			impl.PricesOk(net, flow, prices)
			spoiledAgain(t, func() []int { ring, _ := impl.GainOf(net, flow); return ring })
			spoiledAgain(t, func() []int { cheaper, _ := impl.CheaperFlow(net, flow); return cheaper })
			spoiledAgain(t, func() []int { cheapest, _ := impl.CheapestFlow(net, flow); return cheapest })
			spoiledAgain(t, func() []int { prices, _ := impl.PricesFor(net, flow); return prices })
			if !slices.Equal(flow[:cap(flow)], wholeFlow) || !slices.Equal(prices[:cap(prices)], wholePrices) {
				t.Fatalf("changed: %v, %v", flow, prices)
			}
		}
		if !slices.Equal(net.Pipes[:cap(net.Pipes)], wholePipes) {
			t.Fatalf("changed: %v", net)
		}
	}
}
