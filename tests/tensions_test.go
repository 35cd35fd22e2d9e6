package tests

import (
	"math"
	"slices"
	"testing"

	"loop.example/balancedpipes/impl"
)

// ends are the nodes where a pipe begins, and to which it leads.
type ends = [2]int

// netOf has pipes that hold nothing: these join, too.
func netOf(nodes int, pipes ...ends) impl.Net {
	net := impl.Net{Nodes: nodes}
	for _, e := range pipes {
		net.Pipes = append(net.Pipes, impl.Pipe{From: e[0], To: e[1]})
	}
	return net
}

// piecesNet has a piece with a ring of three, and one with a ring of two.
func piecesNet() impl.Net {
	return netOf(5, ends{0, 1}, ends{1, 2}, ends{3, 4}, ends{2, 0}, ends{4, 3})
}

// bridgeNet has two pieces of several nodes each, until pipe 3 joins them; the pipes behind it have rings.
func bridgeNet() impl.Net {
	return netOf(5, ends{1, 0}, ends{2, 3}, ends{4, 3}, ends{4, 1}, ends{0, 2}, ends{2, 4}, ends{0, 1})
}

// crookedNet has one ring, on which each second pipe is passed back.
func crookedNet() impl.Net {
	return netOf(5, ends{0, 1}, ends{2, 1}, ends{2, 3}, ends{4, 3}, ends{4, 0})
}

// starNet has a tree with a node in the middle, at which most of the other nodes lead nowhere.
func starNet() impl.Net {
	return netOf(5, ends{2, 0}, ends{1, 2}, ends{2, 3}, ends{4, 2}, ends{3, 4}, ends{0, 1})
}

// strayNet has a tree in which the first pipes from node 0 lead far away, and the last one is a ring with the last pipe.
func strayNet() impl.Net {
	return netOf(5, ends{0, 1}, ends{1, 2}, ends{2, 3}, ends{0, 4}, ends{4, 0})
}

// allNets are all nets with so many nodes, and so many pipes at most.
func allNets(nodes, most int) []impl.Net {
	nets := []impl.Net{{Nodes: nodes}}
	for first := 0; most > 0; most-- {
		last := len(nets)
		for _, net := range nets[first:last] {
			for from := range nodes {
				for to := range nodes {
					if from != to {
						pipes := append(slices.Clone(net.Pipes), impl.Pipe{From: from, To: to})
						nets = append(nets, impl.Net{Nodes: nodes, Pipes: pipes})
					}
				}
			}
		}
		first = last
	}
	return nets
}

// lineNet is a drawn net whose first pipes join all nodes in a line, whichever way they lead, so that the others have long rings. Each step from node to node, and from pipe to pipe, comes to all of them, as it has no divisor in common with their number.
func (d *draws) lineNet() impl.Net {
	net := impl.Net{Nodes: 5}
	for range impl.MaxPipes {
		net.Pipes = append(net.Pipes, d.pipe(net.Nodes))
	}
	step, skip := 1+d.below(4), 1+2*d.below(2)
	for i := range 4 {
		p := &net.Pipes[i*skip%4]
		p.From, p.To = i*step%5, (i+1)*step%5
		if d.below(2) == 1 {
			p.From, p.To = p.To, p.From
		}
	}
	return net
}

// treeNets are the good nets, nets in pieces and others whose trees are told, and more nets with as many nodes as may be.
func treeNets() []impl.Net {
	nets := append(goodNets(), piecesNet(), bridgeNet(), crookedNet(), starNet(), strayNet(), pairNet(), eightNet(), loopNet(), greatRingNet(), zigzagNet(), bothWaysNet(), twinsNet())
	d := &draws{state: 7}
	for range 150 {
		net := impl.Net{Nodes: impl.MaxNodes}
		for range 3 + d.below(impl.MaxPipes-2) {
			net.Pipes = append(net.Pipes, d.pipe(net.Nodes))
		}
		nets = append(nets, net, d.lineNet())
	}
	return nets
}

func manyTreeNets() []impl.Net {
	nets := append(treeNets(), allNets(3, 4)...)
	return append(nets, allNets(4, 3)...)
}

// onPipes is the net with some of its pipes alone.
func onPipes(net impl.Net, places []int) impl.Net {
	some := impl.Net{Nodes: net.Nodes}
	for _, at := range places {
		some.Pipes = append(some.Pipes, net.Pipes[at])
	}
	return some
}

// joinedWith goes from a node along all pipes, and back, as long as it comes to others, without asking the program.
func joinedWith(net impl.Net, node int) []bool {
	with := make([]bool, net.Nodes)
	with[node] = true
	for range net.Nodes {
		for _, p := range net.Pipes {
			if with[p.From] || with[p.To] {
				with[p.From], with[p.To] = true, true
			}
		}
	}
	return with
}

// wantTree asks of each pipe what those chosen before it join.
func wantTree(net impl.Net) []int {
	var tree []int
	for at, p := range net.Pipes {
		if !joinedWith(onPipes(net, tree), p.From)[p.To] {
			tree = append(tree, at)
		}
	}
	return tree
}

// wantPieces counts the nodes that are the first ones of their pieces.
func wantPieces(net impl.Net) int {
	pieces := 0
	for node := range net.Nodes {
		if slices.Index(joinedWith(net, node), true) == node {
			pieces++
		}
	}
	return pieces
}

// wantSigns tries all signs of the pipes of the tree with 1 for a pipe that is not of it, and 0 for the others: as the tree has no ring, just one row has at each node as much in as out.
func wantSigns(net impl.Net, at int) []int {
	start := filled(net, 0)
	start[at] = 1
	rows := [][]int{start}
	for _, chosen := range wantTree(net) {
		for _, row := range rows {
			rows = append(rows, changed(row, chosen, 1), changed(row, chosen, -1))
		}
	}
	fit := slices.DeleteFunc(rows, func(row []int) bool { return !allZero(excesses(net, row)) })
	if len(fit) != 1 {
		return nil
	}
	return fit[0]
}

func wantTension(net impl.Net, heights []int) []int {
	return amountsOf(net, func(p impl.Pipe) int { return heights[p.To] - heights[p.From] })
}

// wantProduct adds the one number as often as the other one tells.
func wantProduct(a, b []int) int {
	sum := 0
	for at := range a {
		for range max(b[at], -b[at]) {
			if b[at] > 0 {
				sum += a[at]
			} else {
				sum -= a[at]
			}
		}
	}
	return sum
}

func (d *draws) signed(count, most int) []int {
	row := make([]int, count)
	for i := range row {
		row[i] = d.below(2*most+1) - most
	}
	return row
}

// someHeights are equal ones, some at their bounds, and others.
func someHeights(net impl.Net, d *draws) [][]int {
	zigzag := make([]int, net.Nodes)
	for node := range zigzag {
		zigzag[node] = impl.MaxFlow * (1 - node%2*2)
	}
	some := [][]int{make([]int, net.Nodes), raised(make([]int, net.Nodes), impl.MaxFlow), raised(make([]int, net.Nodes), -impl.MaxFlow), zigzag}
	for range 4 {
		some = append(some, d.signed(net.Nodes, 2), d.signed(net.Nodes, impl.MaxFlow-1), d.signed(net.Nodes, impl.MaxFlow))
	}
	return some
}

// badNumbers are no numbers of so many in -most..most, each for one reason alone.
func badNumbers(count, most int) [][]int {
	bad := [][]int{make([]int, count+1), make([]int, count+2)}
	for short := range count {
		bad = append(bad, make([]int, short))
	}
	for i := range count {
		for _, n := range []int{-most - 1, most + 1, math.MinInt, math.MaxInt} {
			row := make([]int, count)
			row[i] = n
			bad = append(bad, row)
		}
	}
	return bad
}

// forBadPlaces tries places at which a net has no pipe.
func forBadPlaces(net impl.Net, try func(at int)) {
	for _, at := range []int{-1, -2, len(net.Pipes), len(net.Pipes) + 1, math.MinInt, math.MaxInt} {
		try(at)
	}
}

// forNoTreeNets tries what is no net, nets of one node among them, that would have trees and rings, if they were.
func forNoTreeNets(try func(net impl.Net)) {
	forNoNets(try)
	for _, net := range []impl.Net{piecesNet(), bridgeNet(), crookedNet(), sameEndsNet()} {
		for _, nodes := range []int{math.MinInt, -1, 0, 1, impl.MaxNodes + 1, math.MaxInt} {
			try(impl.Net{Nodes: nodes, Pipes: net.Pipes})
			try(impl.Net{Nodes: nodes})
		}
		for net.Nodes = impl.MaxNodes; len(net.Pipes) <= impl.MaxPipes; {
			net.Pipes = append(net.Pipes, impl.Pipe{From: 0, To: 1})
		}
		try(net)
	}
}

// forRings tries all pipes that have a ring with the tree.
func forRings(t *testing.T, net impl.Net, try func(at int, signs []int)) {
	t.Helper()
	for at := range net.Pipes {
		signs, ok := impl.RingSigns(net, at)
		if ok != !slices.Contains(wantTree(net), at) || ok != (len(signs) > 0) {
			t.Fatalf("signs of the ring of pipe %d in %v are %v, %v", at, net, signs, ok)
		}
		if ok {
			try(at, signs)
		}
	}
}

func productOf(t *testing.T, net impl.Net, a, b []int) int {
	t.Helper()
	n, ok := impl.ProductOf(net, a, b)
	if !ok {
		t.Fatalf("the product of %v and %v in %v is not told", a, b, net)
	}
	return n
}

func TestP42TreesHangTogetherAndHaveNoRings(t *testing.T) {
	inPieces, rings, bare := 0, 0, 0
	for _, net := range manyTreeNets() {
		tree, pieces := impl.TreePipes(net), impl.PiecesOf(net)
		if want := wantTree(net); !slices.Equal(tree, want) {
			t.Fatalf("the tree of %v is %v, not %v", net, tree, want)
		}
		if len(tree) != net.Nodes-pieces {
			t.Fatalf("the tree of %v is %v, and it has %d pieces", net, tree, pieces)
		}
		if turned := impl.TreePipes(impl.TurnedNet(net)); !slices.Equal(turned, tree) {
			t.Fatalf("the tree of %v is %v, but turned %v", net, tree, turned)
		}
		for at := range net.Pipes {
			signs, ok := impl.RingSigns(net, at)
			if ok == slices.Contains(tree, at) || ok != (len(signs) > 0) {
				t.Fatalf("signs of the ring of pipe %d in %v with the tree %v are %v, %v", at, net, tree, signs, ok)
			}
		}
		checkTreeAlone(t, net, tree, pieces)
		switch {
		case len(tree) == 0:
			bare++
		case len(tree) < len(net.Pipes) && pieces > 1:
			inPieces++
		case len(tree) < len(net.Pipes):
			rings++
		}
	}
	if inPieces < 100 || rings < 100 || bare == 0 {
		t.Fatalf("%d nets in pieces were tried, %d others with rings, and %d without a tree", inPieces, rings, bare)
	}
}

// checkTreeAlone looks at the net without the pipes that are not of the tree: it hangs together as before, and has no ring.
func checkTreeAlone(t *testing.T, net impl.Net, tree []int, pieces int) {
	t.Helper()
	alone := onPipes(net, tree)
	if impl.PiecesOf(alone) != pieces || len(impl.TreePipes(alone)) != len(tree) {
		t.Fatalf("the tree %v of %v does not hang together", tree, net)
	}
	for at := range tree {
		if signs, ok := impl.RingSigns(alone, at); ok || len(signs) != 0 {
			t.Fatalf("the tree %v of %v has a ring: %v, %v", tree, net, signs, ok)
		}
	}
}

func TestP42TheFirstPipesThatJoin(t *testing.T) {
	for _, c := range []struct {
		why  string
		net  impl.Net
		want []int
	}{
		{"the example", exampleNet(), []int{0, 1, 3}},
		{"no pipes", impl.Net{Nodes: 2}, nil},
		{"no pipes", impl.Net{Nodes: 5, Pipes: []impl.Pipe{}}, nil},
		{"one pipe", netOf(2, ends{0, 1}), []int{0}},
		{"one pipe the other way", netOf(2, ends{1, 0}), []int{0}},
		{"pipes with the same ends", netOf(2, ends{0, 1}, ends{0, 1}), []int{0}},
		{"pipes with the same ends, against each other", pairNet(), []int{0}},
		{"as many pipes with the same ends as may be", sameEndsNet(), []int{0}},
		{"twins behind each other", twinsNet(), []int{0, 3}},
		{"pieces with a ring each", piecesNet(), []int{0, 1, 2}},
		{"a node alone", netOf(4, ends{3, 1}, ends{1, 3}, ends{0, 1}), []int{0, 2}},
		{"pieces of several nodes are joined", bridgeNet(), []int{0, 1, 2, 3}},
		{"pieces of two nodes are joined by their first ones", netOf(4, ends{0, 1}, ends{2, 3}, ends{0, 2}, ends{1, 3}), []int{0, 1, 2}},
		{"pieces of two nodes are joined by their last ones", netOf(4, ends{0, 1}, ends{2, 3}, ends{3, 1}, ends{2, 0}), []int{0, 1, 2}},
		{"a ring, begun anywhere", greatRingNet(), []int{0, 1, 2, 3}},
		{"along and back", crookedNet(), []int{0, 1, 2, 3}},
		{"the last pipe is of the tree", netOf(3, ends{0, 1}, ends{1, 0}, ends{0, 1}, ends{1, 0}, ends{0, 1}, ends{1, 0}, ends{2, 1}), []int{0, 6}},
	} {
		if tree := impl.TreePipes(c.net); !slices.Equal(tree, c.want) {
			t.Errorf("%s: the tree of %v is %v, not %v", c.why, c.net, tree, c.want)
		}
	}
}

func TestP42OthersHaveNoTree(t *testing.T) {
	forNoTreeNets(func(net impl.Net) {
		if tree := impl.TreePipes(net); len(tree) != 0 {
			t.Fatalf("the tree of %v is %v", net, tree)
		}
	})
}

func TestP43PipesJoinPieces(t *testing.T) {
	counts, same, more := map[int]int{}, 0, 0
	for _, net := range manyTreeNets() {
		pieces := impl.PiecesOf(net)
		if want := wantPieces(net); pieces != want || pieces < 1 {
			t.Fatalf("%v has %d pieces, not %d", net, pieces, want)
		}
		counts[pieces]++
		if turned := impl.PiecesOf(impl.TurnedNet(net)); turned != pieces {
			t.Fatalf("%v has %d pieces, but turned %d", net, pieces, turned)
		}
		if len(net.Pipes) == 0 {
			continue
		}
		switch fewer := impl.PiecesOf(impl.Net{Nodes: net.Nodes, Pipes: net.Pipes[:len(net.Pipes)-1]}); fewer {
		case pieces:
			same++
		case pieces + 1:
			more++
		default:
			t.Fatalf("%v has %d pieces, but without its last pipe %d", net, pieces, fewer)
		}
	}
	for pieces := 1; pieces <= impl.MaxNodes; pieces++ {
		if counts[pieces] == 0 {
			t.Fatalf("nets were tried by their pieces: %v", counts)
		}
	}
	if same < 100 || more < 100 {
		t.Fatalf("%d last pipes that join nothing were tried, and %d that do", same, more)
	}
}

func TestP43PiecesAreCounted(t *testing.T) {
	for _, c := range []struct {
		why  string
		net  impl.Net
		want int
	}{
		{"no pipes", impl.Net{Nodes: 2}, 2},
		{"no pipes", impl.Net{Nodes: 3}, 3},
		{"no pipes", impl.Net{Nodes: 5, Pipes: []impl.Pipe{}}, 5},
		{"the example", exampleNet(), 1},
		{"as many pipes with the same ends as may be", sameEndsNet(), 1},
		{"pipes with the same ends among more nodes", netOf(5, ends{1, 3}, ends{3, 1}, ends{1, 3}), 4},
		{"a node alone", ringNet(), 2},
		{"pieces with a ring each", piecesNet(), 2},
		{"pieces of several nodes before they are joined", onPipes(bridgeNet(), []int{0, 1, 2}), 2},
		{"pieces of several nodes are joined", onPipes(bridgeNet(), []int{0, 1, 2, 3}), 1},
		{"more pipes than join", bridgeNet(), 1},
		{"pieces across each other", netOf(5, ends{4, 0}, ends{1, 3}), 3},
		{"all pipes lead to one node", netOf(5, ends{0, 4}, ends{1, 4}, ends{2, 4}, ends{3, 4}), 1},
		{"all pipes lead from one node", netOf(5, ends{0, 4}, ends{0, 3}, ends{0, 2}, ends{0, 1}), 1},
	} {
		if pieces := impl.PiecesOf(c.net); pieces != c.want {
			t.Errorf("%s: %v has %d pieces, not %d", c.why, c.net, pieces, c.want)
		}
	}
}

func TestP43OthersHaveNoPieces(t *testing.T) {
	forNoTreeNets(func(net impl.Net) {
		if pieces := impl.PiecesOf(net); pieces != -1 {
			t.Fatalf("%v has %d pieces", net, pieces)
		}
	})
}

func TestP44TensionsOfEqualHeightsAreNothing(t *testing.T) {
	rings, raisedOnes, atBounds := 0, 0, 0
	d := &draws{state: 44}
	for _, net := range treeNets() {
		for height := -impl.MaxFlow; height <= impl.MaxFlow; height += 8 {
			tension := impl.TensionOf(net, raised(make([]int, net.Nodes), height))
			if len(tension) != len(net.Pipes) || !allZero(tension) {
				t.Fatalf("with all heights %d of %v tensions are %v", height, net, tension)
			}
		}
		for _, heights := range someHeights(net, d) {
			tension := impl.TensionOf(net, heights)
			if want := wantTension(net, heights); !slices.Equal(tension, want) {
				t.Fatalf("with the heights %v of %v tensions are %v, not %v", heights, net, tension, want)
			}
			more := impl.TensionOf(net, raised(heights, 1))
			if slices.Max(heights) < impl.MaxFlow {
				raisedOnes++
				if !slices.Equal(more, tension) {
					t.Fatalf("with the heights %v of %v tensions are %v, but with each one more %v", heights, net, tension, more)
				}
			} else if atBounds++; len(more) != 0 {
				t.Fatalf("with the heights %v of %v, each one more, tensions are %v", heights, net, more)
			}
			forRings(t, net, func(at int, signs []int) {
				rings++
				if n := productOf(t, net, tension, signs); n != 0 {
					t.Fatalf("with the heights %v of %v tensions over the ring of pipe %d are together %d", heights, net, at, n)
				}
			})
		}
	}
	if rings < 1000 || raisedOnes < 1000 || atBounds < 100 {
		t.Fatalf("%d rings were tried, %d heights that were raised, and %d at the bound", rings, raisedOnes, atBounds)
	}
}

func TestP44HowMuchHigherEachPipeEnds(t *testing.T) {
	for _, c := range []struct {
		why     string
		net     impl.Net
		heights []int
		want    []int
	}{
		{"the example", exampleNet(), []int{0, 2, 5, 4}, []int{2, 5, 3, 2, -1}},
		{"no pipes", impl.Net{Nodes: 2}, []int{-40, 40}, nil},
		{"no pipes", impl.Net{Nodes: 3, Pipes: []impl.Pipe{}}, []int{1, 2, 3}, nil},
		{"pipes with the same ends, also against each other", sameEndsNet(), []int{-3, 4}, []int{7, 7, 7, -7, 7, -7, -7}},
		{"as much as may be, and as little", pairNet(), []int{-40, 40}, []int{80, -80}},
		{"both at the upper bound", pairNet(), []int{40, 40}, []int{0, 0}},
		{"both at the lower bound", pairNet(), []int{-40, -40}, []int{0, 0}},
		{"pieces, each with equal heights", piecesNet(), []int{7, 7, 7, -9, -9}, []int{0, 0, 0, 0, 0}},
		{"a node alone is as high as it may be", netOf(4, ends{0, 1}, ends{3, 0}), []int{1, 3, 40, -2}, []int{2, 3}},
		{"a step up at each pipe, and down again", greatRingNet(), []int{4, 3, 2, 1, 0}, []int{4, -1, -1, -1, -1, -1, 2}},
	} {
		if tension := impl.TensionOf(c.net, c.heights); !slices.Equal(tension, c.want) {
			t.Errorf("%s: with the heights %v of %v tensions are %v, not %v", c.why, c.heights, c.net, tension, c.want)
		}
	}
}

func TestP44OthersHaveNoTension(t *testing.T) {
	none := func(net impl.Net, heights []int) {
		t.Helper()
		if tension := impl.TensionOf(net, heights); len(tension) != 0 {
			t.Fatalf("with the heights %v of %v tensions are %v", heights, net, tension)
		}
	}
	for _, net := range treeNets() {
		for _, heights := range badNumbers(net.Nodes, impl.MaxFlow) {
			none(net, heights)
		}
		none(net, nil)
	}
	forNoTreeNets(func(net impl.Net) {
		for nodes := range impl.MaxNodes + 2 {
			none(net, make([]int, nodes))
		}
	})
}

func TestP45BalancedFlowsAndTensionsHaveTheProduct0(t *testing.T) {
	balanced, others, far := 0, 0, 0
	d := &draws{state: 45}
	for _, net := range treeNets() {
		for _, heights := range someHeights(net, d) {
			tension := impl.TensionOf(net, heights)
			if slices.Contains(tension, 2*impl.MaxFlow) {
				far++
			}
			for _, flow := range balancedFlows(net) {
				if !impl.BalancedOk(net, flow) {
					t.Fatalf("%v in %v is not balanced", flow, net)
				}
				if !allZero(flow) {
					balanced++
				}
				if n := productOf(t, net, flow, tension); n != 0 {
					t.Fatalf("%v and the tension %v of the heights %v in %v have the product %d", flow, tension, heights, net, n)
				}
			}
			for _, flow := range someFlows(net) {
				if productOf(t, net, flow, tension) != 0 {
					others++
				}
			}
		}
	}
	if balanced < 1000 || others < 1000 || far == 0 {
		t.Fatalf("%d balanced flows were tried, %d others, and %d tensions as great as may be", balanced, others, far)
	}
}

func TestP45ForBothRowsExchangedItIsTheSame(t *testing.T) {
	below, above := 0, 0
	d := &draws{state: 46}
	for _, net := range treeNets() {
		for _, most := range []int{1, 2, 9, impl.MaxFlow, 2 * impl.MaxFlow, 2 * impl.MaxFlow} {
			a, b := d.signed(len(net.Pipes), most), d.signed(len(net.Pipes), most)
			n := productOf(t, net, a, b)
			if want := wantProduct(a, b); n != want {
				t.Fatalf("the product of %v and %v in %v is %d, not %d", a, b, net, n, want)
			}
			if other := productOf(t, net, b, a); other != n {
				t.Fatalf("the product of %v and %v in %v is %d, but exchanged %d", a, b, net, n, other)
			}
			if n < 0 {
				below++
			} else if n > 0 {
				above++
			}
		}
	}
	if below < 100 || above < 100 {
		t.Fatalf("%d products less than 0 were tried, and %d more", below, above)
	}
}

func TestP45EachPipeHasAProduct(t *testing.T) {
	full := sameEndsNet()
	for _, c := range []struct {
		why  string
		net  impl.Net
		a, b []int
		want int
	}{
		{"no pipes", impl.Net{Nodes: 2}, nil, nil, 0},
		{"no pipes", impl.Net{Nodes: 5, Pipes: []impl.Pipe{}}, []int{}, nil, 0},
		{"a ring and a tension", exampleNet(), []int{1, -1, 1, 0, 0}, []int{2, 5, 3, 2, -1}, 0},
		{"a flow and a tension", exampleNet(), []int{3, 2, 1, 2, 3}, []int{2, 5, 3, 2, -1}, 20},
		{"one pipe", netOf(2, ends{0, 1}), []int{-7}, []int{6}, -42},
		{"both less than 0", netOf(2, ends{0, 1}), []int{-7}, []int{-6}, 42},
		{"with 0", pairNet(), []int{0, 80}, []int{80, 0}, 0},
		{"pipes that lead against each other count alike", pairNet(), []int{2, 3}, []int{5, 7}, 31},
		{"as much as may be", full, slices.Repeat([]int{80}, 7), slices.Repeat([]int{80}, 7), 44800},
		{"as much as may be, both less than 0", full, slices.Repeat([]int{-80}, 7), slices.Repeat([]int{-80}, 7), 44800},
		{"as little as may be", full, slices.Repeat([]int{-80}, 7), slices.Repeat([]int{80}, 7), -44800},
		{"more than a flow may have", piecesNet(), []int{41, 0, 0, 0, -80}, []int{1, 1, 1, 1, -1}, 121},
	} {
		if n, ok := impl.ProductOf(c.net, c.a, c.b); n != c.want || !ok {
			t.Errorf("%s: the product of %v and %v in %v is %d, %v, not %d", c.why, c.a, c.b, c.net, n, ok, c.want)
		}
	}
}

func TestP45OthersHaveNoProduct(t *testing.T) {
	none := func(net impl.Net, a, b []int) {
		t.Helper()
		if n, ok := impl.ProductOf(net, a, b); n != 0 || ok {
			t.Fatalf("the product of %v and %v in %v is %d, %v", a, b, net, n, ok)
		}
	}
	for _, net := range treeNets() {
		ones := filled(net, 1)
		for _, bad := range badNumbers(len(net.Pipes), 2*impl.MaxFlow) {
			none(net, bad, ones)
			none(net, ones, bad)
			none(net, bad, bad)
		}
	}
	forNoTreeNets(func(net impl.Net) {
		none(net, filled(net, 1), filled(net, 1))
		none(net, filled(net, 0), filled(net, 1))
		none(net, nil, nil)
	})
}

func TestP46RingsHaveAsMuchInAsOut(t *testing.T) {
	lengths, mixed, inPieces := map[int]int{}, 0, 0
	for _, net := range manyTreeNets() {
		tree := impl.TreePipes(net)
		forRings(t, net, func(at int, signs []int) {
			if want := wantSigns(net, at); !slices.Equal(signs, want) {
				t.Fatalf("signs of the ring of pipe %d in %v are %v, not %v", at, net, signs, want)
			}
			if turned, ok := impl.RingSigns(impl.TurnedNet(net), at); !ok || !slices.Equal(turned, signs) {
				t.Fatalf("signs of the ring of pipe %d in %v are %v, but turned %v, %v", at, net, signs, turned, ok)
			}
			if signs[at] != 1 || !allZero(excesses(net, signs)) {
				t.Fatalf("signs of the ring of pipe %d in %v are %v", at, net, signs)
			}
			along, back := checkSigns(t, net, tree, at, signs)
			lengths[along+back]++
			if along > 0 && back > 0 {
				mixed++
			}
			if impl.PiecesOf(net) > 1 && along+back > 1 {
				inPieces++
			}
		})
	}
	for length := 1; length < impl.MaxNodes; length++ {
		if lengths[length] < 20 {
			t.Fatalf("rings were tried by their pipes of the tree: %v", lengths)
		}
	}
	if mixed < 100 || inPieces < 100 {
		t.Fatalf("%d rings along and back were tried, and %d in pieces", mixed, inPieces)
	}
}

// checkSigns tells how many pipes of the tree are passed along, and how many back.
func checkSigns(t *testing.T, net impl.Net, tree []int, at int, signs []int) (along, back int) {
	t.Helper()
	for other, sign := range signs {
		switch {
		case other == at || sign == 0:
		case !slices.Contains(tree, other) || sign < -1 || sign > 1:
			t.Fatalf("signs of the ring of pipe %d in %v with the tree %v are %v", at, net, tree, signs)
		case sign == 1:
			along++
		default:
			back++
		}
	}
	return along, back
}

func TestP46ThroughTheTree(t *testing.T) {
	for _, c := range []struct {
		why  string
		net  impl.Net
		at   int
		want []int
	}{
		{"the example, along and back", exampleNet(), 2, []int{1, -1, 1, 0, 0}},
		{"the example, back and along", exampleNet(), 4, []int{-1, 1, 0, -1, 1}},
		{"pipes with the same ends", netOf(2, ends{0, 1}, ends{0, 1}), 1, []int{-1, 1}},
		{"pipes with the same ends, against each other", pairNet(), 1, []int{1, 1}},
		{"the first of many pipes with the same ends", sameEndsNet(), 1, []int{-1, 1, 0, 0, 0, 0, 0}},
		{"the last of many pipes with the same ends", sameEndsNet(), 6, []int{1, 0, 0, 0, 0, 0, 1}},
		{"each second pipe back", crookedNet(), 4, []int{1, -1, 1, -1, 1}},
		{"a ring of as many pipes as may be", greatRingNet(), 4, []int{1, 1, 1, 1, 1, 0, 0}},
		{"one beside it", greatRingNet(), 5, []int{1, 1, 1, 1, 0, 1, 0}},
		{"one across", greatRingNet(), 6, []int{-1, -1, -1, 0, 0, 0, 1}},
		{"the first piece", piecesNet(), 3, []int{1, 1, 0, 1, 0}},
		{"the second piece", piecesNet(), 4, []int{0, 0, 1, 0, 1}},
		{"over the pipe that joins pieces", bridgeNet(), 4, []int{1, 1, -1, 1, 1, 0, 0}},
		{"within one of the pieces that were joined", bridgeNet(), 5, []int{0, -1, 1, 0, 0, 1, 0}},
		{"within the other one", bridgeNet(), 6, []int{1, 0, 0, 0, 0, 0, 1}},
		{"past nodes that lead nowhere", starNet(), 4, []int{0, 0, 1, 1, 1, 0}},
		{"the first one of them", starNet(), 5, []int{1, 1, 0, 0, 0, 1}},
		{"back from far away", strayNet(), 4, []int{0, 0, 0, 1, 1}},
	} {
		if signs, ok := impl.RingSigns(c.net, c.at); !slices.Equal(signs, c.want) || !ok {
			t.Errorf("%s: signs of the ring of pipe %d in %v are %v, %v, not %v", c.why, c.at, c.net, signs, ok, c.want)
		}
	}
}

func TestP46OthersHaveNoRing(t *testing.T) {
	none := func(net impl.Net, at int) {
		t.Helper()
		if signs, ok := impl.RingSigns(net, at); len(signs) != 0 || ok {
			t.Fatalf("signs of the ring of pipe %d in %v are %v, %v", at, net, signs, ok)
		}
	}
	for _, net := range manyTreeNets() {
		for _, at := range wantTree(net) {
			none(net, at)
		}
		forBadPlaces(net, func(at int) { none(net, at) })
	}
	forNoTreeNets(func(net impl.Net) {
		for at := range net.Pipes {
			none(net, at)
		}
		forBadPlaces(net, func(at int) { none(net, at) })
	})
}

// fromRings adds the signs of all rings, each as often as its pipe that is not of the tree has an amount.
func fromRings(t *testing.T, net impl.Net, flow []int) []int {
	t.Helper()
	sum := filled(net, 0)
	forRings(t, net, func(at int, signs []int) {
		for other, sign := range signs {
			sum[other] += flow[at] * sign
		}
	})
	return sum
}

// Only balanced flows are such sums, as each ring has as much in as out.
func TestP47BalancedFlowsAreToldByThePipesThatAreNotOfTheTree(t *testing.T) {
	balanced, others, inPieces := 0, 0, 0
	for _, net := range treeNets() {
		for _, flow := range append(balancedFlows(net), someFlows(net)...) {
			ok, sum := impl.BalancedOk(net, flow), fromRings(t, net, flow)
			if ok != slices.Equal(sum, flow) {
				t.Fatalf("%v in %v is balanced: %v, and its rings are together %v", flow, net, ok, sum)
			}
			switch {
			case !ok:
				others++
			case !allZero(flow) && impl.PiecesOf(net) > 1:
				inPieces++
			case !allZero(flow):
				balanced++
			}
		}
	}
	if balanced < 1000 || others < 1000 || inPieces < 100 {
		t.Fatalf("%d balanced flows were tried, %d others, and %d in pieces", balanced, others, inPieces)
	}
}

func TestP47AllSmallBalancedFlows(t *testing.T) {
	count := 0
	for _, net := range treeNets() {
		if len(net.Pipes) > 5 {
			continue
		}
		for _, flow := range smallFlows(net, 2) {
			ok := impl.BalancedOk(net, flow)
			if ok != slices.Equal(fromRings(t, net, flow), flow) {
				t.Fatalf("%v in %v is balanced: %v", flow, net, ok)
			}
			if ok && !allZero(flow) {
				count++
			}
		}
	}
	if count < 100 {
		t.Fatalf("%d balanced flows were tried", count)
	}
}

func TestP47RingsAndTheTree(t *testing.T) {
	for _, c := range []struct {
		why  string
		net  impl.Net
		flow []int
		want []int
	}{
		{"no pipes", impl.Net{Nodes: 3}, nil, nil},
		{"a tree alone is empty", onPipes(bridgeNet(), []int{0, 1, 2, 3}), []int{0, 0, 0, 0}, []int{0, 0, 0, 0}},
		{"a flow in a tree is not balanced", onPipes(bridgeNet(), []int{0, 1, 2, 3}), []int{1, 2, 3, 4}, []int{0, 0, 0, 0}},
		{"pipes with the same ends, also against each other", sameEndsNet(), []int{1, 2, 3, 4, 5, 6, 1}, []int{1, 2, 3, 4, 5, 6, 1}},
		{"too much in pipes of the tree", sameEndsNet(), []int{9, 2, 3, 4, 5, 6, 1}, []int{1, 2, 3, 4, 5, 6, 1}},
		{"pieces with a ring each", piecesNet(), []int{3, 3, 40, 3, 40}, []int{3, 3, 40, 3, 40}},
		{"rings over each other", greatRingNet(), []int{7, 7, 7, 9, 4, 5, 2}, []int{7, 7, 7, 9, 4, 5, 2}},
		{"a ring on which pipes are passed back", crookedNet(), []int{0, 0, 0, 0, 2}, []int{2, -2, 2, -2, 2}},
	} {
		if sum := fromRings(t, c.net, c.flow); !slices.Equal(sum, c.want) {
			t.Errorf("%s: rings of %v in %v are together %v, not %v", c.why, c.flow, c.net, sum, c.want)
		}
		if ok := slices.Equal(c.flow, c.want); impl.BalancedOk(c.net, c.flow) != ok {
			t.Errorf("%s: %v in %v is balanced: not %v", c.why, c.flow, c.net, ok)
		}
	}
}

func TestP47OthersAreNotTold(t *testing.T) {
	forNoTreeNets(func(net impl.Net) {
		for at := range net.Pipes {
			if signs, ok := impl.RingSigns(net, at); len(signs) != 0 || ok || len(impl.TreePipes(net)) != 0 {
				t.Fatalf("signs of the ring of pipe %d in %v are %v, %v", at, net, signs, ok)
			}
		}
		if impl.BalancedOk(net, filled(net, 0)) {
			t.Fatalf("%v is balanced", net)
		}
	})
}

// sideHeights are 1 for the nodes of a side, and 0 for the others.
func sideHeights(net impl.Net, side int) []int {
	heights := make([]int, net.Nodes)
	for node, has := range nodesOf(net, side) {
		if has {
			heights[node] = 1
		}
	}
	return heights
}

func TestP48CutsAreTensionsOfTwoHeights(t *testing.T) {
	out, back, none := 0, 0, 0
	for _, net := range treeNets() {
		for side := 0; side <= allNodes(net); side++ {
			tension := impl.TensionOf(net, sideHeights(net, side))
			for _, flow := range append(someFlows(net), heldFlows(net)...) {
				across := acrossOf(t, net, flow, side)
				if n := productOf(t, net, flow, tension); n != -across {
					t.Fatalf("over side %d of %v goes %d of %v, but the product with the tension %v is %d", side, net, across, flow, tension, n)
				}
				switch {
				case across > 0:
					out++
				case across < 0:
					back++
				default:
					none++
				}
			}
		}
	}
	if out < 1000 || back < 1000 || none < 1000 {
		t.Fatalf("%d cuts were tried over which the flow goes out, %d back, and %d others", out, back, none)
	}
}

func TestP48EachSide(t *testing.T) {
	for _, c := range []struct {
		why     string
		net     impl.Net
		flow    []int
		side    int
		tension []int
		want    int
	}{
		{"the example, out", exampleNet(), []int{3, 2, 1, 2, 3}, 3, []int{0, -1, -1, -1, 0}, -5},
		{"the example, back", exampleNet(), []int{3, 2, 1, 2, 3}, 12, []int{0, 1, 1, 1, 0}, 5},
		{"no nodes", exampleNet(), []int{3, 2, 1, 2, 3}, 0, []int{0, 0, 0, 0, 0}, 0},
		{"all nodes", exampleNet(), []int{3, 2, 1, 2, 3}, 15, []int{0, 0, 0, 0, 0}, 0},
		{"no pipes", impl.Net{Nodes: 2}, nil, 1, nil, 0},
		{"pipes with the same ends, against each other", pairNet(), []int{7, 3}, 1, []int{-1, 1}, -4},
		{"a whole piece", piecesNet(), []int{3, 4, 5, 6, 7}, 7, []int{0, 0, 0, 0, 0}, 0},
		{"nodes of two pieces", piecesNet(), []int{3, 4, 5, 6, 7}, 9, []int{-1, 0, -1, 1, 1}, 5},
		{"as much as may be", sameEndsNet(), []int{40, 40, 40, 0, 40, 0, 0}, 1, []int{-1, -1, -1, 1, -1, 1, 1}, -160},
	} {
		tension := impl.TensionOf(c.net, sideHeights(c.net, c.side))
		if !slices.Equal(tension, c.tension) {
			t.Errorf("%s: tensions of side %d of %v are %v, not %v", c.why, c.side, c.net, tension, c.tension)
		}
		if n := productOf(t, c.net, c.flow, tension); n != c.want || acrossOf(t, c.net, c.flow, c.side) != -c.want {
			t.Errorf("%s: the product of %v and the tension of side %d of %v is %d, not %d", c.why, c.flow, c.side, c.net, n, c.want)
		}
	}
}

// What is more than a flow may have still has a product, up to twice as much, and nothing of it goes over a cut.
func TestP48OthersAreNoCuts(t *testing.T) {
	pair := pairNet()
	tension := impl.TensionOf(pair, sideHeights(pair, 1))
	for amount := -2*impl.MaxFlow - 2; amount <= 2*impl.MaxFlow+2; amount++ {
		row := []int{amount, 0}
		n, ok := impl.ProductOf(pair, row, tension)
		if within := -2*impl.MaxFlow <= amount && amount <= 2*impl.MaxFlow; ok != within || ok && n != -amount || !ok && n != 0 {
			t.Errorf("the product of %v and %v in %v is %d, %v", row, tension, pair, n, ok)
		}
		across, ok := impl.AcrossOf(pair, row, 1)
		if flow := 0 <= amount && amount <= impl.MaxFlow; ok != flow || ok && across != amount || !ok && across != 0 {
			t.Errorf("over side 1 of %v goes %d of %v, %v", pair, across, row, ok)
		}
	}
	forNoTreeNets(func(net impl.Net) {
		for nodes := range impl.MaxNodes + 2 {
			heights := make([]int, nodes)
			if nodes > 0 {
				heights[0] = 1
			}
			tension := impl.TensionOf(net, heights)
			n, ok := impl.ProductOf(net, filled(net, 1), tension)
			if len(tension) != 0 || n != 0 || ok {
				t.Fatalf("tensions of the heights %v in %v are %v, and the product is %d, %v", heights, net, tension, n, ok)
			}
		}
	})
}

func TestTensionsOnlyReadAndShareNothing(t *testing.T) {
	d := &draws{state: 48}
	for _, net := range append(treeNets()[:60], piecesNet(), bridgeNet(), crookedNet(), starNet(), strayNet(), pairNet()) {
		net.Pipes = roomy(net.Pipes)
		wholePipes := slices.Clone(net.Pipes[:cap(net.Pipes)])
		heights, a, b := roomy(d.signed(net.Nodes, impl.MaxFlow)), roomy(d.signed(len(net.Pipes), 80)), roomy(d.signed(len(net.Pipes), 80))
		rows := [][]int{heights[:cap(heights)], a[:cap(a)], b[:cap(b)]}
		wholeRows := copiedRows(rows)
		impl.PiecesOf(net)
		impl.ProductOf(net, a, b)
		spoiledAgain(t, func() []int { return impl.TreePipes(net) })
		spoiledAgain(t, func() []int { return impl.TensionOf(net, heights) })
		for at := range net.Pipes {
			spoiledAgain(t, func() []int { signs, _ := impl.RingSigns(net, at); return signs })
		}
		if !sameRows(rows, wholeRows) || !slices.Equal(net.Pipes[:cap(net.Pipes)], wholePipes) {
			t.Fatalf("changed: %v, %v", net, rows)
		}
	}
}
