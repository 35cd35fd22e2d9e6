package tests

import (
	"math"
	"slices"
	"testing"

	"loop.example/balancedpipes/impl"
)

// draws looks random but is the same in each run, so that a failure can be repeated.
type draws struct{ state uint64 }

func (d *draws) below(n int) int {
	d.state = d.state*6364136223846793005 + 1442695040888963407
	return int((d.state >> 33) % uint64(n))
}

func (d *draws) pipe(nodes int) impl.Pipe {
	from := d.below(nodes)
	most := d.below(impl.MaxHold + 1)
	return impl.Pipe{
		From:  from,
		To:    (from + 1 + d.below(nodes-1)) % nodes,
		Least: d.below(most + 1),
		Most:  most,
		Cost:  d.below(2*impl.MaxCost+1) - impl.MaxCost,
	}
}

func (d *draws) net() impl.Net {
	net := impl.Net{Nodes: 2 + d.below(impl.MaxNodes-1)}
	for range d.below(impl.MaxPipes + 1) {
		net.Pipes = append(net.Pipes, d.pipe(net.Nodes))
	}
	return net
}

func (d *draws) flow(net impl.Net, most int) []int {
	flow := make([]int, len(net.Pipes))
	for at := range flow {
		flow[at] = d.below(most + 1)
	}
	return flow
}

// exampleNet is the net of the document's examples.
func exampleNet() impl.Net {
	return impl.Net{Nodes: 4, Pipes: []impl.Pipe{
		{From: 0, To: 1, Most: 3, Cost: 1},
		{From: 0, To: 2, Most: 2, Cost: 2},
		{From: 1, To: 2, Most: 1},
		{From: 1, To: 3, Most: 2, Cost: 4},
		{From: 2, To: 3, Most: 4, Cost: 1},
	}}
}

// ringNet has a ring of three pipes, a pipe beside one of them, and a pipe that leads back.
func ringNet() impl.Net {
	return impl.Net{Nodes: 4, Pipes: []impl.Pipe{
		{From: 0, To: 1, Least: 1, Most: 2, Cost: -3},
		{From: 1, To: 2, Most: 4},
		{From: 2, To: 0, Least: 2, Most: 2, Cost: 9},
		{From: 0, To: 1, Most: 3, Cost: -9},
		{From: 1, To: 0, Most: 1},
	}}
}

// sameEndsNet has as many pipes as may be, all between the same two nodes, at all bounds of amounts and costs.
func sameEndsNet() impl.Net {
	return impl.Net{Nodes: 2, Pipes: []impl.Pipe{
		{From: 0, To: 1},
		{From: 0, To: 1},
		{From: 0, To: 1, Most: impl.MaxHold, Cost: impl.MaxCost},
		{From: 1, To: 0, Most: impl.MaxHold, Cost: -impl.MaxCost},
		{From: 0, To: 1, Least: impl.MaxHold, Most: impl.MaxHold},
		{From: 1, To: 0, Least: 1, Most: 1},
		{From: 1, To: 0, Least: 2, Most: 3, Cost: 1},
	}}
}

func goodNets() []impl.Net {
	nets := []impl.Net{exampleNet(), ringNet(), sameEndsNet()}
	for nodes := 2; nodes <= impl.MaxNodes; nodes++ {
		nets = append(nets, impl.Net{Nodes: nodes}, impl.Net{Nodes: nodes, Pipes: []impl.Pipe{}})
	}
	d := &draws{state: 1}
	for range 300 {
		nets = append(nets, d.net())
	}
	return nets
}

// badNets are no nets, each for one reason alone.
func badNets() map[string]impl.Net {
	bad := map[string]impl.Net{
		"zero value":          {},
		"one node":            {Nodes: 1},
		"fewer than no nodes": {Nodes: -1},
		"least number":        {Nodes: math.MinInt},
		"too many nodes":      {Nodes: impl.MaxNodes + 1},
		"greatest number":     {Nodes: math.MaxInt},
		"too many pipes":      {Nodes: 2, Pipes: slices.Repeat([]impl.Pipe{{From: 0, To: 1}}, impl.MaxPipes+1)},
	}
	for why, p := range badPipes() {
		good := impl.Pipe{From: 0, To: 1, Most: 1}
		bad[why+", first pipe"] = impl.Net{Nodes: 3, Pipes: []impl.Pipe{p, good}}
		bad[why+", last pipe"] = impl.Net{Nodes: 3, Pipes: []impl.Pipe{good, p}}
	}
	return bad
}

// badPipes are no pipes of a net with three nodes.
func badPipes() map[string]impl.Pipe {
	return map[string]impl.Pipe{
		"same node at both ends":   {From: 1, To: 1},
		"node 0 at both ends":      {From: 0, To: 0},
		"from below 0":             {From: -1, To: 1},
		"to below 0":               {From: 1, To: -1},
		"from past the last":       {From: 3, To: 1},
		"to past the last":         {From: 1, To: 3},
		"from far below":           {From: math.MinInt, To: 1},
		"to far past":              {From: 1, To: math.MaxInt},
		"least below 0":            {From: 0, To: 1, Least: -1, Most: 1},
		"least and most below 0":   {From: 0, To: 1, Least: -1, Most: -1},
		"least more than most":     {From: 0, To: 1, Least: 2, Most: 1},
		"most past the bound":      {From: 0, To: 1, Most: impl.MaxHold + 1},
		"both past the bound":      {From: 0, To: 1, Least: impl.MaxHold + 1, Most: impl.MaxHold + 1},
		"most far past the bound":  {From: 0, To: 1, Most: math.MaxInt},
		"cost below the bound":     {From: 0, To: 1, Cost: -impl.MaxCost - 1},
		"cost past the bound":      {From: 0, To: 1, Cost: impl.MaxCost + 1},
		"cost far below the bound": {From: 0, To: 1, Cost: math.MinInt},
		"cost far past the bound":  {From: 0, To: 1, Cost: math.MaxInt},
	}
}

// badFlows are no flows of a net, each for one reason alone.
func badFlows(net impl.Net) [][]int {
	bad := [][]int{make([]int, len(net.Pipes)+1)}
	if len(net.Pipes) == 0 {
		return bad
	}
	bad = append(bad, nil, []int{}, make([]int, len(net.Pipes)-1))
	for at := range net.Pipes {
		for _, amount := range []int{-1, impl.MaxFlow + 1, math.MinInt, math.MaxInt} {
			flow := make([]int, len(net.Pipes))
			flow[at] = amount
			bad = append(bad, flow)
		}
	}
	return bad
}

func amountsOf(net impl.Net, amount func(p impl.Pipe) int) []int {
	flow := make([]int, len(net.Pipes))
	for at, p := range net.Pipes {
		flow[at] = amount(p)
	}
	return flow
}

func filled(net impl.Net, amount int) []int {
	return amountsOf(net, func(impl.Pipe) int { return amount })
}

// someFlows are flows at the bounds of amounts, at those of the pipes, and between.
func someFlows(net impl.Net) [][]int {
	flows := [][]int{
		filled(net, 0),
		filled(net, 1),
		filled(net, impl.MaxFlow),
		amountsOf(net, func(p impl.Pipe) int { return p.Least }),
		amountsOf(net, func(p impl.Pipe) int { return p.Most }),
	}
	d := &draws{state: uint64(len(net.Pipes))}
	for range 6 {
		flows = append(flows, d.flow(net, 2), d.flow(net, impl.MaxFlow/2), d.flow(net, impl.MaxFlow))
	}
	return flows
}

// smallFlows are all flows of a net with no amount past most, one by one.
func smallFlows(net impl.Net, most int) [][]int {
	flows := [][]int{{}}
	for range net.Pipes {
		var longer [][]int
		for _, flow := range flows {
			for amount := range most + 1 {
				longer = append(longer, append(slices.Clone(flow), amount))
			}
		}
		flows = longer
	}
	return flows
}

// excesses counts what the net's pipes bring and take, without asking the program.
func excesses(net impl.Net, flow []int) []int {
	sums := make([]int, net.Nodes)
	for at, p := range net.Pipes {
		sums[p.To] += flow[at]
		sums[p.From] -= flow[at]
	}
	return sums
}

func allZero(row []int) bool {
	return !slices.ContainsFunc(row, func(n int) bool { return n != 0 })
}

func copied(net impl.Net) impl.Net {
	return impl.Net{Nodes: net.Nodes, Pipes: slices.Clone(net.Pipes)}
}

func sameNet(a, b impl.Net) bool {
	return a.Nodes == b.Nodes && slices.Equal(a.Pipes, b.Pipes)
}

func excessAt(t *testing.T, net impl.Net, flow []int, node int) int {
	t.Helper()
	n, ok := impl.ExcessAt(net, flow, node)
	if !ok {
		t.Fatalf("ExcessAt(%v, %v, %d) is not told", net, flow, node)
	}
	return n
}
