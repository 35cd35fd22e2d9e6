package tests

import (
	"math"
	"slices"
	"testing"

	"loop.example/balancedpipes/impl"
)

// diamondNet has two threads one beside the other, each of two pipes that hold as much.
func diamondNet() impl.Net {
	return holding(netOf(4, ends{0, 1}, ends{0, 2}, ends{1, 3}, ends{2, 3}), 1)
}

// wheelNet has as many narrowest sides as may be, and a pipe that leaves each of them.
func wheelNet() impl.Net {
	return holding(netOf(5, ends{0, 1}, ends{0, 2}, ends{0, 3}, ends{1, 4}, ends{2, 4}, ends{3, 4}, ends{0, 4}), 1)
}

// backNet has wide pipes back to node 0 and from node 2, and narrow ones on.
func backNet() impl.Net {
	return impl.Net{Nodes: 3, Pipes: []impl.Pipe{
		{From: 1, To: 0, Most: 4},
		{From: 0, To: 1, Most: 1},
		{From: 2, To: 1, Most: 4},
		{From: 1, To: 2, Most: 1},
		{From: 2, To: 0, Most: 3},
	}}
}

// aroundNet has a narrow pipe straight to the end, and a wider way of two pipes round it.
func aroundNet() impl.Net {
	return impl.Net{Nodes: 3, Pipes: []impl.Pipe{
		{From: 0, To: 1, Most: 2},
		{From: 0, To: 2, Most: 1},
		{From: 1, To: 2, Most: 2},
	}}
}

// takenOverNet has three pipes one beside the other, of which each of the last two may hold all that comes to them.
func takenOverNet() impl.Net {
	return impl.Net{Nodes: 3, Pipes: []impl.Pipe{
		{From: 0, To: 1, Most: 2},
		{From: 1, To: 2, Most: 1},
		{From: 1, To: 2, Most: 2},
		{From: 1, To: 2, Most: 2},
	}}
}

// dryThreadsNet has threads of pipes that hold nothing, one of them a pipe alone.
func dryThreadsNet() impl.Net {
	return netOf(3, ends{0, 1}, ends{0, 2}, ends{1, 2})
}

// evenNet is a drawn net of which most pipes hold as much, so that often many sides are narrowest.
func (d *draws) evenNet() impl.Net {
	net := holding(d.manyWaysNet(), d.below(3))
	for at := range net.Pipes {
		if d.below(4) == 0 {
			net.Pipes[at].Most = d.below(impl.MaxHold + 1)
		}
	}
	return net
}

// narrowNets are free nets, and more with many narrowest sides.
func narrowNets() []impl.Net {
	nets := append(basinNets(), diamondNet(), holding(diamondNet(), 4), wheelNet(), impl.TurnedNet(wheelNet()), backNet(), aroundNet(), takenOverNet(), dryThreadsNet(), holding(exampleNet(), 0), holding(exampleNet(), 4))
	d := &draws{state: 13}
	for range 150 {
		nets = append(nets, d.evenNet())
	}
	return nets
}

// forPipes tries each pipe of free nets, between each two different nodes.
func forPipes(try func(net impl.Net, from, to, at int)) {
	forEnds(narrowNets(), func(net impl.Net, from, to int) {
		for at := range net.Pipes {
			try(net, from, to, at)
		}
	})
}

// wantHeld is the net with another amount for one pipe, without asking the program.
func wantHeld(net impl.Net, at, most int) impl.Net {
	held := copied(net)
	held.Pipes[at].Most = most
	return held
}

// wantValue tries all sides, one by one.
func wantValue(net impl.Net, from, to int) int {
	value, _ := wantNarrowest(net, from, to)
	return value
}

// wantNarrow counts how many of the narrowest sides each pipe leaves.
func wantNarrow(net impl.Net, from, to int) (narrow, vital []int) {
	_, sides := wantNarrowest(net, from, to)
	times := make([]int, len(net.Pipes))
	for _, side := range sides {
		for _, at := range wantLeaving(net, side) {
			times[at]++
		}
	}
	for at, n := range times {
		if n > 0 {
			narrow = append(narrow, at)
		}
		if n == len(sides) {
			vital = append(vital, at)
		}
	}
	return narrow, vital
}

func heldNet(t *testing.T, net impl.Net, at, most int) impl.Net {
	t.Helper()
	held, ok := impl.HeldNet(net, at, most)
	if !ok {
		t.Fatalf("pipe %d of %v does not hold %d", at, net, most)
	}
	return held
}

func TestP82HeldAsBeforeItIsAsBefore(t *testing.T) {
	met := meets{}
	for _, net := range narrowNets() {
		for at, p := range net.Pipes {
			for most := range impl.MaxHold + 1 {
				held := heldNet(t, net, at, most)
				if !sameNet(held, wantHeld(net, at, most)) || !impl.FreeOk(held) {
					t.Fatalf("with %d in pipe %d %v is %v", most, at, net, held)
				}
				if sameNet(held, net) != (most == p.Most) {
					t.Fatalf("with %d in pipe %d, as before or not, %v is %v", most, at, net, held)
				}
				if again := heldNet(t, held, at, p.Most); !sameNet(again, net) {
					t.Fatalf("with %d in pipe %d, and then as before, %v is %v", most, at, net, again)
				}
				met.count("a pipe that holds nothing holds more", p.Most == 0 && most > 0)
				met.count("a pipe that holds as much as may be holds less", p.Most == impl.MaxHold && most < impl.MaxHold)
				met.count("a pipe holds nothing any more", p.Most > 0 && most == 0)
				met.count("a pipe holds as much as may be now", p.Most < impl.MaxHold && most == impl.MaxHold)
			}
		}
	}
	met.check(t)
}

func TestP82EachHold(t *testing.T) {
	costly := impl.Net{Nodes: 5, Pipes: []impl.Pipe{{From: 4, To: 0, Most: 2, Cost: -9}, {From: 4, To: 0, Most: 2, Cost: 9}}}
	for _, c := range []struct {
		why      string
		net      impl.Net
		at, most int
		want     []int
	}{
		{"the first pipe", exampleNet(), 0, 1, []int{1, 2, 1, 2, 4}},
		{"a pipe between", exampleNet(), 2, 3, []int{3, 2, 3, 2, 4}},
		{"the last pipe", exampleNet(), 4, 2, []int{3, 2, 1, 2, 2}},
		{"as much as before", exampleNet(), 1, 2, []int{3, 2, 1, 2, 4}},
		{"nothing", exampleNet(), 3, 0, []int{3, 2, 1, 0, 4}},
		{"as much as may be", exampleNet(), 3, impl.MaxHold, []int{3, 2, 1, 4, 4}},
		{"as much as may be, as before", exampleNet(), 4, impl.MaxHold, []int{3, 2, 1, 2, 4}},
		{"nothing, as before", twinsNet(), 0, 0, []int{0, 2, 3, 3, 1}},
		{"something where nothing was held", twinsNet(), 0, 1, []int{1, 2, 3, 3, 1}},
		{"just one of several pipes with the same ends", streamNet(), 2, 0, []int{4, 1, 0, 4}},
		{"the last of as many pipes as may be", wheelNet(), 6, 3, []int{1, 1, 1, 1, 1, 1, 3}},
		{"costs stay", costly, 1, 4, []int{2, 4}},
		{"costs stay, whatever is held", costly, 0, 0, []int{0, 2}},
	} {
		held := heldNet(t, c.net, c.at, c.most)
		if held.Nodes != c.net.Nodes || len(held.Pipes) != len(c.net.Pipes) {
			t.Errorf("%s: with %d in pipe %d %v is %v", c.why, c.most, c.at, c.net, held)
			continue
		}
		for at, p := range c.net.Pipes {
			p.Most = c.want[at]
			if held.Pipes[at] != p {
				t.Errorf("%s: with %d in pipe %d pipe %d of %v is %v, not %v", c.why, c.most, c.at, at, c.net, held.Pipes[at], p)
			}
		}
	}
}

func TestP82OthersHoldNothing(t *testing.T) {
	none := func(net impl.Net, at, most int) {
		t.Helper()
		if held, ok := impl.HeldNet(net, at, most); ok || held.Nodes != 0 || len(held.Pipes) != 0 {
			t.Fatalf("with %d in pipe %d %v is %v, %v", most, at, net, held, ok)
		}
	}
	allHolds := func(net impl.Net, at int) {
		t.Helper()
		for most := range impl.MaxHold + 1 {
			none(net, at, most)
		}
	}
	for _, net := range narrowNets() {
		forBadPlaces(net, func(at int) {
			allHolds(net, at)
			none(net, at, -1)
		})
		for at := range net.Pipes {
			for _, most := range []int{-1, -2, impl.MaxHold + 1, impl.MaxHold + 2, impl.MaxCost, math.MinInt, math.MaxInt} {
				none(net, at, most)
			}
		}
	}
	for _, net := range boundNets() {
		for at := range net.Pipes {
			allHolds(net, at)
		}
	}
	forNoNets(func(net impl.Net) {
		for at := -1; at <= len(net.Pipes); at++ {
			allHolds(net, at)
		}
	})
}

// narrowCase has the pipes that leave some narrowest side, and those that leave each.
type narrowCase struct {
	why           string
	net           impl.Net
	from, to      int
	narrow, vital []int
}

// narrowCases are worked out by hand, side by side.
func narrowCases() []narrowCase {
	dryBegin := impl.Net{Nodes: 3, Pipes: []impl.Pipe{{From: 0, To: 1}, {From: 1, To: 2, Most: 4}}}
	dryFar := netOf(3, ends{1, 2})
	lastOnly := holding(netOf(4, ends{0, 1}, ends{0, 2}, ends{1, 2}, ends{2, 3}), 1)
	return []narrowCase{
		{"several narrowest sides", exampleNet(), 0, 3, []int{0, 1, 2, 3}, []int{1}},
		{"one narrowest side, of one node", exampleNet(), 1, 3, []int{2, 3}, []int{2, 3}},
		{"one narrowest side, of several nodes", exampleNet(), 0, 2, []int{1, 2}, []int{1, 2}},
		{"one narrowest side, of all nodes but one", lastOnly, 0, 3, []int{3}, []int{3}},
		{"all pipes lead back", exampleNet(), 3, 0, nil, nil},
		{"all pipes of a line hold as much", lineOfPipes(), 0, 4, []int{0, 1, 2, 3}, nil},
		{"one pipe of a line holds less", narrowLine(), 0, 2, []int{1}, []int{1}},
		{"two threads, and all hold as much", diamondNet(), 0, 3, []int{0, 1, 2, 3}, nil},
		{"all hold as much as may be", holding(diamondNet(), impl.MaxHold), 0, 3, []int{0, 1, 2, 3}, nil},
		{"as many narrowest sides as may be", wheelNet(), 0, 4, []int{0, 1, 2, 3, 4, 5, 6}, []int{6}},
		{"as many, and nodes that nothing leads to", holding(netOf(5, ends{0, 4}), 4), 0, 4, []int{0}, []int{0}},
		{"a pipe leaves each, and others some", aroundNet(), 0, 2, []int{0, 1, 2}, []int{1}},
		{"a pipe leaves none of several", zigzagNet(), 0, 3, []int{0, 2, 3, 4}, nil},
		{"two pipes leave none of several", starsNet(), 0, 1, []int{0, 1, 3, 4}, nil},
		{"pipes one beside the other hold more than comes", takenOverNet(), 0, 2, []int{0}, []int{0}},
		{"rings on the way, and a pipe round them", roundaboutNet(), 0, 3, []int{0, 2, 4, 6}, []int{6}},
		{"many pipes between the same nodes", streamNet(), 0, 1, []int{0, 1, 2, 3}, []int{0, 1, 2, 3}},
		{"many pipes between the same nodes, all back", streamNet(), 1, 0, nil, nil},
		{"many pipes both ways, of which some hold nothing", freed(sameEndsNet()), 0, 1, []int{0, 1, 2, 4}, []int{0, 1, 2, 4}},
		{"many pipes both ways, the other way", freed(sameEndsNet()), 1, 0, []int{3, 5, 6}, []int{3, 5, 6}},
		{"pipes back to the first node, and from the other one", backNet(), 0, 2, []int{1, 3}, nil},
		{"pipes back to the first node, and from the other one, turned", backNet(), 2, 0, []int{0, 2, 4}, []int{4}},
		{"a pipe back from the end", holding(loopNet(), 4), 0, 3, []int{0, 1, 3}, nil},
		{"a pipe that holds nothing beside others", twinsNet(), 0, 1, []int{0, 1, 2}, []int{0, 1, 2}},
		{"a pipe that holds nothing, and leaves none", twinsNet(), 0, 2, []int{3, 4}, []int{3, 4}},
		{"all pipes hold nothing", holding(exampleNet(), 0), 0, 3, []int{0, 1, 2, 3, 4}, nil},
		{"all pipes hold nothing, and one leads to the end", dryThreadsNet(), 0, 2, []int{0, 1, 2}, []int{1}},
		{"the one pipe that holds nothing", dryBegin, 0, 2, []int{0}, []int{0}},
		{"a pipe that holds nothing from a node that nothing leads to", dryFar, 0, 2, []int{0}, nil},
		{"a pipe that holds something from there", holding(dryFar, 1), 0, 2, nil, nil},
		{"nothing leads to the end", deadEndNet(), 0, 4, nil, nil},
		{"nothing leads from the first node", deadEndNet(), 4, 0, nil, nil},
		{"to a dead end", deadEndNet(), 0, 3, []int{0, 1, 2}, nil},
		{"both ways", bothWaysNet(), 0, 1, []int{1}, []int{1}},
		{"both ways, the other way", bothWaysNet(), 1, 0, []int{0}, []int{0}},
		{"no pipes", impl.Net{Nodes: 2}, 0, 1, nil, nil},
		{"no pipes, and as many nodes as may be", impl.Net{Nodes: 5, Pipes: []impl.Pipe{}}, 4, 0, nil, nil},
	}
}

func TestP83OneLessInANarrowPipeIsOneLessInAll(t *testing.T) {
	met := meets{}
	forEnds(narrowNets(), func(net impl.Net, from, to int) {
		narrow := impl.NarrowPipes(net, from, to)
		if want, _ := wantNarrow(net, from, to); !slices.Equal(narrow, want) {
			t.Fatalf("narrow from %d to %d in %v are %v, not %v", from, to, net, narrow, want)
		}
		value := impl.GreatestValue(net, from, to)
		for at, p := range net.Pipes {
			is := slices.Contains(narrow, at)
			met.count("a narrow pipe that holds nothing", is && p.Most == 0)
			met.count("another one that holds nothing", !is && p.Most == 0)
			if p.Most == 0 {
				continue
			}
			want := value
			if is {
				want--
			}
			less := impl.GreatestValue(heldNet(t, net, at, p.Most-1), from, to)
			if less != want || less != wantValue(wantHeld(net, at, p.Most-1), from, to) {
				t.Fatalf("narrow from %d to %d in %v are %v, and one less in %d makes %d of %d", from, to, net, narrow, at, less, value)
			}
			met.count("a narrow pipe that holds something", is)
			met.count("another one that holds something", !is)
		}
		for _, flow := range [][]int{greatestFlow(t, net, from, to), basinRun(t, net, from, to).Flow} {
			for _, at := range narrow {
				if flow[at] != net.Pipes[at].Most {
					t.Fatalf("narrow from %d to %d in %v are %v, and %v does not fill %d", from, to, net, narrow, flow, at)
				}
			}
		}
	})
	met.check(t)
}

// Just the narrow pipes are full in each of all greatest flows, and those that hold nothing.
func TestP83AllGreatestFlowsFillThem(t *testing.T) {
	narrows, full := 0, 0
	forFlowsBetween(func(net impl.Net, flows [][]int, from, to int) {
		narrow, value := impl.NarrowPipes(net, from, to), wantValue(net, from, to)
		greatest := slices.DeleteFunc(flows, func(flow []int) bool { return excesses(net, flow)[to] != value })
		for at, p := range net.Pipes {
			if p.Most == 0 {
				continue
			}
			filled := slices.DeleteFunc(slices.Clone(greatest), func(flow []int) bool { return flow[at] != p.Most })
			if slices.Contains(narrow, at) != (len(filled) == len(greatest)) {
				t.Fatalf("narrow from %d to %d in %v are %v, and %d of %d greatest flows fill %d", from, to, net, narrow, len(filled), len(greatest), at)
			}
			if len(filled) == len(greatest) {
				narrows++
			} else if len(filled) > 0 {
				full++
			}
		}
	})
	if narrows == 0 || full == 0 {
		t.Fatalf("%d narrow pipes were tried, and %d that some greatest flows fill", narrows, full)
	}
}

func TestP83EachNarrowPipe(t *testing.T) {
	for _, c := range narrowCases() {
		if narrow := impl.NarrowPipes(c.net, c.from, c.to); !slices.Equal(narrow, c.narrow) {
			t.Errorf("%s: narrow from %d to %d in %v are %v, not %v", c.why, c.from, c.to, c.net, narrow, c.narrow)
		}
	}
}

// forNoNarrow tries what has no narrow pipes: what are no ends, and nets that are not free, or no nets.
func forNoNarrow(try func(net impl.Net, from, to int)) {
	forNoGreatest(try)
	forNoNets(func(net impl.Net) {
		try(net, 0, 1)
		try(net, 1, 0)
	})
}

func TestP83OthersHaveNoNarrowPipes(t *testing.T) {
	forNoNarrow(func(net impl.Net, from, to int) {
		if narrow := impl.NarrowPipes(net, from, to); len(narrow) != 0 {
			t.Fatalf("narrow from %d to %d in %v are %v", from, to, net, narrow)
		}
	})
	nearly := 0
	forEnds(boundNets(), func(net impl.Net, from, to int) {
		if _, vital := wantNarrow(net, from, to); len(vital) > 0 {
			nearly++
		}
	})
	if nearly == 0 {
		t.Fatal("none was tried that would have vital pipes if its pipes might be empty")
	}
}

func TestP84OneMoreInAVitalPipeIsOneMoreInAll(t *testing.T) {
	met := meets{}
	forEnds(narrowNets(), func(net impl.Net, from, to int) {
		narrow, vital := impl.NarrowPipes(net, from, to), impl.VitalPipes(net, from, to)
		if _, want := wantNarrow(net, from, to); !slices.Equal(vital, want) {
			t.Fatalf("vital from %d to %d in %v are %v, not %v", from, to, net, vital, want)
		}
		value := impl.GreatestValue(net, from, to)
		for at, p := range net.Pipes {
			is := slices.Contains(vital, at)
			if is && !slices.Contains(narrow, at) {
				t.Fatalf("vital from %d to %d in %v are %v, but narrow %v", from, to, net, vital, narrow)
			}
			met.count("a vital pipe that holds as much as may be", is && p.Most == impl.MaxHold)
			if p.Most == impl.MaxHold {
				continue
			}
			want := value
			if is {
				want++
			}
			more := impl.GreatestValue(heldNet(t, net, at, p.Most+1), from, to)
			if more != want || more != wantValue(wantHeld(net, at, p.Most+1), from, to) {
				t.Fatalf("vital from %d to %d in %v are %v, and one more in %d makes %d of %d", from, to, net, vital, at, more, value)
			}
			met.count("a vital pipe that holds nothing", is && p.Most == 0)
			met.count("a vital pipe that holds something", is && p.Most > 0)
			met.count("a narrow pipe that is not vital", !is && slices.Contains(narrow, at))
			met.count("a pipe that is not narrow", !slices.Contains(narrow, at))
		}
		_, sides := wantNarrowest(net, from, to)
		met.count("one narrowest side", len(sides) == 1)
		met.count("as many narrowest sides as may be", len(sides) == 8)
		met.count("a greatest flow of 0", value == 0)
	})
	met.check(t)
}

func TestP84EachVitalPipe(t *testing.T) {
	for _, c := range narrowCases() {
		if vital := impl.VitalPipes(c.net, c.from, c.to); !slices.Equal(vital, c.vital) {
			t.Errorf("%s: vital from %d to %d in %v are %v, not %v", c.why, c.from, c.to, c.net, vital, c.vital)
		}
	}
}

func TestP84OneMoreInEachPipe(t *testing.T) {
	for _, c := range []struct {
		why      string
		net      impl.Net
		from, to int
		want     []int
	}{
		{"the example", exampleNet(), 0, 3, []int{5, 6, 5, 5, 5}},
		{"the example, with one more in its vital pipe", heldNet(t, exampleNet(), 1, 3), 0, 3, []int{6, 6, 6, 6, 6}},
		{"a line", lineOfPipes(), 0, 4, []int{3, 3, 3, 3}},
		{"the narrow pipe of a line", narrowLine(), 0, 2, []int{1, 2}},
		{"pipes that hold nothing", dryThreadsNet(), 0, 2, []int{0, 1, 0}},
		{"many pipes", streamNet(), 0, 1, []int{13, 14, 13, 13}},
	} {
		for at, want := range c.want {
			more := impl.GreatestValue(heldNet(t, c.net, at, min(c.net.Pipes[at].Most+1, impl.MaxHold)), c.from, c.to)
			if more != want {
				t.Errorf("%s: with one more in %d the greatest from %d to %d in %v is %d, not %d", c.why, at, c.from, c.to, c.net, more, want)
			}
		}
	}
}

func TestP84OthersHaveNoVitalPipes(t *testing.T) {
	forNoNarrow(func(net impl.Net, from, to int) {
		if vital := impl.VitalPipes(net, from, to); len(vital) != 0 {
			t.Fatalf("vital from %d to %d in %v are %v", from, to, net, vital)
		}
	})
}

func TestP85NoPipeIsMissedByMoreThanItHeld(t *testing.T) {
	met := meets{}
	forPipes(func(net impl.Net, from, to, at int) {
		loss, value, held := impl.LossOf(net, from, to, at), impl.GreatestValue(net, from, to), net.Pipes[at].Most
		if want := wantValue(net, from, to) - wantValue(wantHeld(net, at, 0), from, to); loss != want {
			t.Fatalf("without pipe %d from %d to %d in %v there is %d less, not %d", at, from, to, net, loss, want)
		}
		if loss < 0 || loss > held || loss > value {
			t.Fatalf("without pipe %d from %d to %d in %v there is %d less of %d", at, from, to, net, loss, value)
		}
		narrow := slices.Contains(impl.NarrowPipes(net, from, to), at)
		if narrow && loss != held {
			t.Fatalf("without the narrow pipe %d from %d to %d in %v there is %d less", at, from, to, net, loss)
		}
		met.count("nothing is lost", loss == 0 && held > 0)
		met.count("nothing was held", held == 0)
		met.count("all is lost", loss == value && loss > 0)
		met.count("some is lost", loss < value && loss > 0)
		met.count("a pipe that is not narrow is missed", loss > 0 && !narrow)
		met.count("less than was held is lost", loss > 0 && loss < held)
		met.count("as much as may be is lost", loss == impl.MaxHold)
	})
	met.check(t)
}

// What is left is the most that comes by flows in which the pipe is empty.
func TestP85AllFlowsWithoutThePipe(t *testing.T) {
	tried := 0
	forFlowsBetween(func(net impl.Net, flows [][]int, from, to int) {
		for at := range net.Pipes {
			most, left := 0, 0
			for _, flow := range flows {
				comes := excesses(net, flow)[to]
				most = max(most, comes)
				if flow[at] == 0 {
					left = max(left, comes)
				}
			}
			if loss := impl.LossOf(net, from, to, at); loss != most-left {
				t.Fatalf("without pipe %d from %d to %d in %v there is %d less, not %d", at, from, to, net, loss, most-left)
			}
			if left < most {
				tried++
			}
		}
	})
	if tried == 0 {
		t.Fatal("no pipe was tried that is missed")
	}
}

func TestP85EachLoss(t *testing.T) {
	for _, c := range []struct {
		why      string
		net      impl.Net
		from, to int
		want     []int
	}{
		{"the example", exampleNet(), 0, 3, []int{3, 2, 1, 2, 3}},
		{"from a node within", exampleNet(), 1, 3, []int{0, 0, 1, 2, 1}},
		{"all pipes lead back", exampleNet(), 3, 0, []int{0, 0, 0, 0, 0}},
		{"a line", lineOfPipes(), 0, 4, []int{3, 3, 3, 3}},
		{"less comes than the first pipe holds", narrowLine(), 0, 2, []int{1, 1}},
		{"a pipe between two threads", zigzagNet(), 0, 3, []int{1, 0, 1, 1, 1}},
		{"as many pipes as may be", wheelNet(), 0, 4, []int{1, 1, 1, 1, 1, 1, 1}},
		{"many pipes between the same nodes", streamNet(), 0, 1, []int{4, 1, 4, 4}},
		{"many pipes between the same nodes, all back", streamNet(), 1, 0, []int{0, 0, 0, 0}},
		{"pipes one behind the other, and one that holds nothing", twinsNet(), 0, 2, []int{0, 1, 2, 3, 1}},
		{"others take over what a pipe held", takenOverNet(), 0, 2, []int{2, 0, 0, 0}},
		{"others take over some of it", heldNet(t, takenOverNet(), 3, 0), 0, 2, []int{2, 0, 1, 0}},
		{"pipes back to the first node, and from the other one", backNet(), 0, 2, []int{0, 1, 0, 1, 0}},
		{"pipes back to the first node, and from the other one, turned", backNet(), 2, 0, []int{4, 0, 4, 0, 3}},
		{"all pipes hold nothing", holding(exampleNet(), 0), 0, 3, []int{0, 0, 0, 0, 0}},
		{"all pipes hold as much as may be", holding(exampleNet(), 4), 0, 3, []int{4, 4, 0, 4, 4}},
		{"nothing leads to the end", deadEndNet(), 0, 4, []int{0, 0, 0}},
		{"to a dead end", deadEndNet(), 0, 3, []int{2, 2, 2}},
	} {
		for at, want := range c.want {
			if loss := impl.LossOf(c.net, c.from, c.to, at); loss != want {
				t.Errorf("%s: without pipe %d from %d to %d in %v there is %d less, not %d", c.why, at, c.from, c.to, c.net, loss, want)
			}
		}
	}
}

func TestP85OthersLoseNothing(t *testing.T) {
	none := func(net impl.Net, from, to, at int) {
		t.Helper()
		if loss := impl.LossOf(net, from, to, at); loss != -1 {
			t.Fatalf("without pipe %d from %d to %d in %v there is %d less", at, from, to, net, loss)
		}
	}
	forEnds(narrowNets(), func(net impl.Net, from, to int) {
		forBadPlaces(net, func(at int) { none(net, from, to, at) })
	})
	forNoNarrow(func(net impl.Net, from, to int) {
		for at := -1; at <= len(net.Pipes); at++ {
			none(net, from, to, at)
		}
	})
}

func TestP86NarrowPartsOfTermsAreNarrowPipes(t *testing.T) {
	met := meets{}
	forShortWords(func(w *word) {
		row := w.marks()
		net := netOfTerm(t, row)
		narrow, vital := impl.NarrowPipes(net, 0, 1), impl.VitalPipes(net, 0, 1)
		if wantSome, wantEach := wantNarrow(w.net(), 0, 1); !slices.Equal(narrow, wantSome) || !slices.Equal(vital, wantEach) {
			t.Fatalf("in the net of %v narrow are %v, and vital %v, not %v and %v", row, narrow, vital, wantSome, wantEach)
		}
		cut, _ := w.narrow(0)
		for _, places := range [][]int{cut, impl.NarrowOf(row)} {
			if len(places) == 0 || slices.ContainsFunc(places, func(at int) bool { return !slices.Contains(narrow, at) }) {
				t.Fatalf("a narrowest cut of %v is %v, but narrow in its net are %v", row, places, narrow)
			}
		}
		met.count("a narrowest cut with all narrow pipes", len(cut) == len(narrow))
		met.count("a narrowest cut without some narrow pipes", len(cut) < len(narrow))
		for at, pipe := range w.pipes() {
			is := slices.Contains(vital, at)
			if pipe.Hold == impl.MaxHold {
				met.count("a vital pipe that holds as much as may be", is)
				continue
			}
			more := heldTerm(t, row, at, pipe.Hold+1)
			want := w.carries()
			if is {
				want++
			}
			if impl.CarriesOf(more) != want {
				t.Fatalf("%v carries %d with one more in %d, and vital in its net are %v", row, impl.CarriesOf(more), at, vital)
			}
			if held := heldNet(t, net, at, pipe.Hold+1); !sameNet(held, netOfTerm(t, more)) {
				t.Fatalf("%v is the net of %v with one more in %d, not %v", netOfTerm(t, more), row, at, held)
			}
			met.count("a vital pipe", is)
			met.count("another one of a narrowest cut", !is && slices.Contains(cut, at))
			met.count("another one", !slices.Contains(narrow, at))
		}
	})
	met.check(t)
}

func TestP86EachTerm(t *testing.T) {
	for _, c := range []struct {
		text               string
		cut, narrow, vital []int
	}{
		{"0:0", []int{0}, []int{0}, []int{0}},
		{"4:9", []int{0}, []int{0}, []int{0}},
		{"2:0.2:0", []int{0}, []int{0, 1}, nil},
		{"2:0.3:0", []int{0}, []int{0}, []int{0}},
		{"3:0.2:0", []int{1}, []int{1}, []int{1}},
		{"0:9.0:0", []int{0}, []int{0, 1}, nil},
		{"4:9.0:0", []int{1}, []int{1}, []int{1}},
		{"2:0+3:0", []int{0, 1}, []int{0, 1}, []int{0, 1}},
		{"0:0+0:0", []int{0, 1}, []int{0, 1}, []int{0, 1}},
		{"1:0.1:0.1:0.1:0", []int{0}, []int{0, 1, 2, 3}, nil},
		{"2:0.1:0.1:0", []int{1}, []int{1, 2}, nil},
		{"(3:2+2:1).4:0", []int{2}, []int{2}, []int{2}},
		{"(2:0+2:0).4:0", []int{0, 1}, []int{0, 1, 2}, nil},
		{"(1:0+3:0).(2:0+2:0)", []int{0, 1}, []int{0, 1, 2, 3}, nil},
		{"1:0.1:0+1:0.1:0", []int{0, 2}, []int{0, 1, 2, 3}, nil},
		{"2:0.1:0+2:0.2:0+3:0", []int{1, 2, 4}, []int{1, 2, 3, 4}, []int{1, 4}},
		{"1:0.1:0+1:0.1:0+1:0.1:0+1:0", []int{0, 2, 4, 6}, []int{0, 1, 2, 3, 4, 5, 6}, []int{6}},
		{"(4:9+4:9+4:9+4:9+4:9+4:9).1:0", []int{6}, []int{6}, []int{6}},
	} {
		row := readTerm(t, c.text)
		net := netOfTerm(t, row)
		if cut := impl.NarrowOf(row); !slices.Equal(cut, c.cut) {
			t.Errorf("a narrowest cut of %s is %v, not %v", c.text, cut, c.cut)
		}
		if narrow, vital := impl.NarrowPipes(net, 0, 1), impl.VitalPipes(net, 0, 1); !slices.Equal(narrow, c.narrow) || !slices.Equal(vital, c.vital) {
			t.Errorf("in the net of %s narrow are %v, and vital %v, not %v and %v", c.text, narrow, vital, c.narrow, c.vital)
		}
	}
}

func TestP86OthersHaveNoNarrowParts(t *testing.T) {
	for why, row := range noTerms() {
		net, _ := impl.NetOfTerm(row)
		if places := slices.Concat(impl.NarrowOf(row), impl.NarrowPipes(net, 0, 1), impl.VitalPipes(net, 0, 1)); len(places) != 0 {
			t.Errorf("%s: narrow in %v are %v", why, row, places)
		}
	}
}

// lossOfBoth is by how much less comes without two pipes.
func lossOfBoth(t *testing.T, net impl.Net, from, to, a, b int) int {
	t.Helper()
	return impl.GreatestValue(net, from, to) - impl.GreatestValue(withoutPipes(t, net, []int{a, b}), from, to)
}

func TestP87TwoPipesAreMissedByNoMoreThanBothHold(t *testing.T) {
	met := meets{}
	forPipes(func(net impl.Net, from, to, a int) {
		first := impl.LossOf(net, from, to, a)
		if alone := lossOfBoth(t, net, from, to, a, a); alone != first {
			t.Fatalf("without pipe %d from %d to %d in %v there is %d less, and twice %d", a, from, to, net, first, alone)
		}
		for b := range a {
			second, both := impl.LossOf(net, from, to, b), lossOfBoth(t, net, from, to, b, a)
			if want := wantValue(net, from, to) - wantValue(wantHeld(wantHeld(net, a, 0), b, 0), from, to); both != want {
				t.Fatalf("without %d and %d from %d to %d in %v there is %d less, not %d", b, a, from, to, net, both, want)
			}
			if both < max(first, second) || both > net.Pipes[a].Most+net.Pipes[b].Most {
				t.Fatalf("without %d and %d from %d to %d in %v there is %d less, and %d and %d", b, a, from, to, net, both, second, first)
			}
			met.count("neither is missed, but both", first == 0 && second == 0 && both > 0)
			met.count("both are missed by more than each by itself", first > 0 && second > 0 && both > first+second)
			met.count("both are missed by just as much", first > 0 && second > 0 && both == first+second)
			met.count("both are missed by less", both > max(first, second) && both < first+second)
			met.count("both are missed by no more than one", first > 0 && second > 0 && both == max(first, second))
			met.count("both are missed by all that they held", both > 0 && both == net.Pipes[a].Most+net.Pipes[b].Most)
			met.count("neither is missed, nor both", net.Pipes[a].Most > 0 && net.Pipes[b].Most > 0 && both == 0)
		}
	})
	met.check(t)
}

func TestP87EachTwoPipes(t *testing.T) {
	for _, c := range []struct {
		why               string
		net               impl.Net
		from, to          int
		a, b              int
		first, second, is int
	}{
		{"both from the first node", exampleNet(), 0, 3, 0, 1, 3, 2, 5},
		{"both to the end", exampleNet(), 0, 3, 3, 4, 2, 3, 5},
		{"one behind the other", exampleNet(), 0, 3, 0, 3, 3, 2, 3},
		{"one behind the other, in part", exampleNet(), 0, 3, 1, 4, 2, 3, 3},
		{"both behind one", exampleNet(), 0, 3, 2, 3, 1, 2, 3},
		{"all pipes lead back", exampleNet(), 3, 0, 1, 4, 0, 0, 0},
		{"a line", lineOfPipes(), 0, 4, 0, 3, 3, 3, 3},
		{"each may take over what the other one held", takenOverNet(), 0, 2, 2, 3, 0, 0, 1},
		{"a third one takes over all", takenOverNet(), 0, 2, 1, 2, 0, 0, 0},
		{"one is missed, and so are both", takenOverNet(), 0, 2, 0, 1, 2, 0, 2},
		{"two threads, one pipe of each", diamondNet(), 0, 3, 0, 3, 1, 1, 2},
		{"two threads, both of one", diamondNet(), 0, 3, 0, 2, 1, 1, 1},
		{"two pipes between the same nodes", streamNet(), 0, 1, 0, 1, 4, 1, 5},
		{"two wide pipes between the same nodes", streamNet(), 0, 1, 2, 3, 4, 4, 8},
		{"two pipes back", backNet(), 0, 2, 0, 4, 0, 0, 0},
		{"a pipe back and one on", backNet(), 0, 2, 2, 3, 0, 1, 1},
		{"a pipe that holds nothing", twinsNet(), 0, 2, 0, 2, 0, 2, 2},
		{"pipes that hold nothing", dryThreadsNet(), 0, 2, 0, 1, 0, 0, 0},
	} {
		if first, second := impl.LossOf(c.net, c.from, c.to, c.a), impl.LossOf(c.net, c.from, c.to, c.b); first != c.first || second != c.second {
			t.Errorf("%s: without %d or %d from %d to %d in %v there is %d or %d less, not %d or %d", c.why, c.a, c.b, c.from, c.to, c.net, first, second, c.first, c.second)
		}
		if both := lossOfBoth(t, c.net, c.from, c.to, c.a, c.b); both != c.is {
			t.Errorf("%s: without %d and %d from %d to %d in %v there is %d less, not %d", c.why, c.a, c.b, c.from, c.to, c.net, both, c.is)
		}
	}
}

// A pipe that may not be empty is emptied without a word, but nothing greatest, and no loss, is told of its net.
func TestP87OthersMissNothing(t *testing.T) {
	forNoNarrow(func(net impl.Net, from, to int) {
		if value := impl.GreatestValue(net, from, to); value != -1 || impl.LossOf(net, from, to, 0) != -1 || impl.LossOf(net, from, to, 1) != -1 {
			t.Fatalf("the greatest from %d to %d in %v is %d, and pipes are missed", from, to, net, value)
		}
	})
	for _, net := range narrowNets() {
		forBadPlaces(net, func(at int) {
			if without, ok := impl.WithoutPipes(net, []int{0, at}); ok || impl.LossOf(net, 0, 1, at) != -1 {
				t.Fatalf("without the pipes 0 and %d %v is %v", at, net, without)
			}
		})
	}
}

func TestNarrowPipesOnlyReadAndShareNothing(t *testing.T) {
	spoil := impl.Pipe{From: -7, To: -7, Least: -7, Most: -7, Cost: -7}
	for _, net := range narrowNets() {
		net.Pipes = roomy(net.Pipes)
		pipes := slices.Clone(net.Pipes[:cap(net.Pipes)])
		for at := range net.Pipes {
			for most := range impl.MaxHold + 1 {
				spoiledWith(t, spoil, func() []impl.Pipe { return heldNet(t, net, at, most).Pipes })
			}
		}
		forEnds([]impl.Net{net}, func(net impl.Net, from, to int) {
			spoiledAgain(t, func() []int { return impl.NarrowPipes(net, from, to) })
			spoiledAgain(t, func() []int { return impl.VitalPipes(net, from, to) })
			for at := range net.Pipes {
				impl.LossOf(net, from, to, at)
			}
		})
		if !slices.Equal(net.Pipes[:cap(net.Pipes)], pipes) {
			t.Fatalf("changed: %v", net)
		}
	}
}
