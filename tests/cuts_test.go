package tests

import (
	"math"
	"slices"
	"testing"

	"loop.example/balancedpipes/impl"
)

// nodesOf tells which nodes a side has by halving the number, as the program does not.
func nodesOf(net impl.Net, side int) []bool {
	has := make([]bool, net.Nodes)
	for node := range has {
		has[node] = side%2 == 1
		side /= 2
	}
	return has
}

func allNodes(net impl.Net) int {
	side, worth := 0, 1
	for range net.Nodes {
		side += worth
		worth *= 2
	}
	return side
}

func nodeAlone(node int) int {
	side := 1
	for range node {
		side *= 2
	}
	return side
}

// badSides are no sides of any net with so many nodes.
func badSides(net impl.Net) []int {
	all := allNodes(net)
	return []int{-1, -2, -all, -all - 1, all + 1, all + 2, 2*all + 1, math.MinInt, math.MinInt + 1, math.MaxInt}
}

// wantLeaving counts by nodes what leaves a side, without asking the program.
func wantLeaving(net impl.Net, side int) []int {
	has := nodesOf(net, side)
	var places []int
	for at, p := range net.Pipes {
		if has[p.From] && !has[p.To] {
			places = append(places, at)
		}
	}
	return places
}

func wantRoom(net impl.Net, side int) int {
	sum := 0
	for _, at := range wantLeaving(net, side) {
		sum += net.Pipes[at].Most
	}
	for _, at := range wantLeaving(net, allNodes(net)-side) {
		sum -= net.Pipes[at].Least
	}
	return sum
}

// wantNarrowest tries all sides, one by one.
func wantNarrowest(net impl.Net, from, to int) (least int, sides []int) {
	for side := 0; side <= allNodes(net); side++ {
		has := nodesOf(net, side)
		if !has[from] || has[to] {
			continue
		}
		room := wantRoom(net, side)
		if sides == nil || room < least {
			least, sides = room, nil
		}
		if room == least {
			sides = append(sides, side)
		}
	}
	return least, sides
}

// heldFlows are flows that all pipes hold: at their bounds, and between.
func heldFlows(net impl.Net) [][]int {
	flows := [][]int{
		amountsOf(net, func(p impl.Pipe) int { return p.Least }),
		amountsOf(net, func(p impl.Pipe) int { return p.Most }),
	}
	d := &draws{state: uint64(net.Nodes)}
	for range 6 {
		flows = append(flows, amountsOf(net, func(p impl.Pipe) int { return p.Least + d.below(p.Most-p.Least+1) }))
	}
	return flows
}

// forNoSides tries what are no sides of a net, and sides of what is no net.
func forNoSides(try func(net impl.Net, side int)) {
	for _, net := range goodNets() {
		for _, side := range badSides(net) {
			try(net, side)
		}
	}
	for _, net := range badNets() {
		for _, side := range []int{-1, 0, 1, 2, 3} {
			try(net, side)
		}
	}
}

// forEnds tries each two different nodes of each net, in both orders.
func forEnds(nets []impl.Net, try func(net impl.Net, from, to int)) {
	for _, net := range nets {
		for from := range net.Nodes {
			for to := range net.Nodes {
				if from != to {
					try(net, from, to)
				}
			}
		}
	}
}

// forNoEnds tries what are no ends of a net: the same node twice, nodes that it has not, and what is no net.
func forNoEnds(try func(net impl.Net, from, to int)) {
	for _, net := range goodNets() {
		for node := range net.Nodes {
			try(net, node, node)
			for _, none := range []int{-1, -2, net.Nodes, net.Nodes + 1, 63, 64, math.MinInt, math.MaxInt} {
				try(net, none, node)
				try(net, node, none)
				try(net, none, none)
			}
		}
	}
	for _, net := range badNets() {
		try(net, 0, 1)
		try(net, 1, 0)
	}
}

func roomOf(t *testing.T, net impl.Net, side int) int {
	t.Helper()
	n, ok := impl.RoomOf(net, side)
	if !ok {
		t.Fatalf("RoomOf(%v, %d) is not told", net, side)
	}
	return n
}

func acrossOf(t *testing.T, net impl.Net, flow []int, side int) int {
	t.Helper()
	n, ok := impl.AcrossOf(net, flow, side)
	if !ok {
		t.Fatalf("AcrossOf(%v, %v, %d) is not told", net, flow, side)
	}
	return n
}

func leastRoom(t *testing.T, net impl.Net, from, to int) int {
	t.Helper()
	n, ok := impl.LeastRoom(net, from, to)
	if !ok {
		t.Fatalf("LeastRoom(%v, %d, %d) is not told", net, from, to)
	}
	return n
}

func TestP8NoNodesAndAllAreSides(t *testing.T) {
	for _, net := range goodNets() {
		all := allNodes(net)
		if !impl.SideOk(net, 0) || !impl.SideOk(net, all) {
			t.Fatalf("no nodes or all are no side of %v", net)
		}
		tried := badSides(net)
		for side := -70; side <= 70; side++ {
			tried = append(tried, side)
		}
		for _, side := range tried {
			want := 0 <= side && side <= all
			if impl.SideOk(net, side) != want || impl.SideOk(net, all-side) != want {
				t.Fatalf("%d or what lacks to it: not %v of %v", side, want, net)
			}
		}
	}
}

func TestP8EachNodeDoublesTheSides(t *testing.T) {
	for nodes, past := range map[int]int{2: 4, 3: 8, 4: 16, 5: 32} {
		net := impl.Net{Nodes: nodes}
		if !impl.SideOk(net, past-1) || impl.SideOk(net, past) {
			t.Errorf("of %d nodes the sides do not end at %d", nodes, past)
		}
	}
}

func TestP8OthersHaveNoSides(t *testing.T) {
	for why, net := range badNets() {
		for _, side := range []int{-1, 0, 1, 3, math.MinInt, math.MaxInt} {
			if impl.SideOk(net, side) {
				t.Errorf("%s: %d is a side", why, side)
			}
		}
	}
}

func TestP9WhatGoesOverLacksOnTheSide(t *testing.T) {
	for _, net := range goodNets() {
		all := allNodes(net)
		for _, flow := range append(someFlows(net), heldFlows(net)...) {
			excess, held := excesses(net, flow), impl.HoldsOk(net, flow)
			for side := 0; side <= all; side++ {
				over := acrossOf(t, net, flow, side)
				lacks := 0
				for node, has := range nodesOf(net, side) {
					if has {
						lacks -= excess[node]
					}
				}
				if over != lacks || acrossOf(t, net, flow, all-side) != -over {
					t.Fatalf("over %d of %v in %v goes %d, not %d", side, flow, net, over, lacks)
				}
				if held && over > roomOf(t, net, side) {
					t.Fatalf("over %d of %v in %v goes %d, more than there is room", side, flow, net, over)
				}
			}
		}
	}
}

func TestP9PipesWithTheSameEnds(t *testing.T) {
	net, flow := sameEndsNet(), []int{1, 2, 4, 8, 16, 32, 40}
	for side, want := range []int{0, 1 + 2 + 4 + 16 - 8 - 32 - 40, 8 + 32 + 40 - 1 - 2 - 4 - 16, 0} {
		if over := acrossOf(t, net, flow, side); over != want {
			t.Errorf("over %d goes %d, not %d", side, over, want)
		}
	}
}

func TestP9NothingGoesOverWithoutPipes(t *testing.T) {
	for nodes := 2; nodes <= impl.MaxNodes; nodes++ {
		net := impl.Net{Nodes: nodes}
		for side := 0; side <= allNodes(net); side++ {
			if acrossOf(t, net, nil, side) != 0 || acrossOf(t, net, []int{}, side) != 0 {
				t.Errorf("of %d nodes alone something goes over %d", nodes, side)
			}
		}
	}
}

func TestP9OthersHaveNothingAcross(t *testing.T) {
	none := func(net impl.Net, flow []int, side int) {
		t.Helper()
		if n, ok := impl.AcrossOf(net, flow, side); n != 0 || ok {
			t.Errorf("over %d of %v in %v goes %d, %v", side, flow, net, n, ok)
		}
	}
	for _, net := range goodNets() {
		for _, side := range badSides(net) {
			none(net, filled(net, 1), side)
		}
		for _, flow := range badFlows(net) {
			for side := 0; side <= allNodes(net); side++ {
				none(net, flow, side)
			}
		}
	}
	for _, net := range badNets() {
		for _, side := range []int{0, 1, 2, 3} {
			none(net, filled(net, 1), side)
		}
	}
}

func TestP10RoomsOfBothAndOfTheCommonSideAreNoMore(t *testing.T) {
	for _, net := range goodNets() {
		all := allNodes(net)
		var rooms []int
		for side := 0; side <= all; side++ {
			rooms = append(rooms, roomOf(t, net, side))
			if want := wantRoom(net, side); rooms[side] != want {
				t.Fatalf("the room of %d in %v is %d, not %d", side, net, rooms[side], want)
			}
		}
		if rooms[0] != 0 || rooms[all] != 0 {
			t.Fatalf("no nodes have the room %d, all have %d in %v", rooms[0], rooms[all], net)
		}
		for a := range rooms {
			for b := range rooms {
				if rooms[a&b]+rooms[a|b] > rooms[a]+rooms[b] {
					t.Fatalf("rooms of %d and %d in %v are less than those of both and of the common side", a, b, net)
				}
			}
		}
	}
}

func TestP10LeastAmountsThatLeadBackAreTakenAway(t *testing.T) {
	pair := impl.Net{Nodes: 2, Pipes: []impl.Pipe{{From: 0, To: 1, Least: 1, Most: 2}, {From: 1, To: 0, Least: 3, Most: 4}}}
	for _, c := range []struct {
		net   impl.Net
		rooms []int
	}{
		{pair, []int{0, 2 - 3, 4 - 1, 0}},
		{impl.TurnedNet(pair), []int{0, 4 - 1, 2 - 3, 0}},
		{sameEndsNet(), []int{0, 4 + 4 - 1 - 2, 4 + 1 + 3 - 4, 0}},
		{exampleNet(), []int{0, 5, 3, 5, 4, 7, 6, 6, 0, 5, 1, 3, 0, 3, 0, 0}},
		{impl.Net{Nodes: 3}, []int{0, 0, 0, 0, 0, 0, 0, 0}},
	} {
		for side, want := range c.rooms {
			if room := roomOf(t, c.net, side); room != want {
				t.Errorf("the room of %d in %v is %d, not %d", side, c.net, room, want)
			}
		}
	}
}

func TestP10OthersHaveNoRoom(t *testing.T) {
	forNoSides(func(net impl.Net, side int) {
		if n, ok := impl.RoomOf(net, side); n != 0 || ok {
			t.Fatalf("the room of %d in %v is %d, %v", side, net, n, ok)
		}
	})
}

func TestP11PipesLeaveOneSideOrTheOtherOneOrNone(t *testing.T) {
	for _, net := range goodNets() {
		all, turned := allNodes(net), impl.TurnedNet(net)
		for side := 0; side <= all; side++ {
			leaving, others := impl.LeavingOf(net, side), impl.LeavingOf(net, all-side)
			if !slices.Equal(leaving, wantLeaving(net, side)) {
				t.Fatalf("%v leave %d in %v", leaving, side, net)
			}
			for _, at := range leaving {
				if slices.Contains(others, at) {
					t.Fatalf("pipe %d leaves %d and the other nodes in %v", at, side, net)
				}
			}
			if back := impl.LeavingOf(turned, side); !slices.Equal(back, others) {
				t.Fatalf("%v leave %d in %v turned, not %v", back, side, net, others)
			}
		}
	}
}

func TestP11PlacesAreAscending(t *testing.T) {
	for side, want := range [][]int{{}, {0, 1, 2, 4}, {3, 5, 6}, {}} {
		if leaving := impl.LeavingOf(sameEndsNet(), side); !slices.Equal(leaving, want) {
			t.Errorf("%v leave %d, not %v", leaving, side, want)
		}
	}
	for side, want := range map[int][]int{0: {}, 1: {0, 1}, 3: {1, 2, 3}, 7: {3, 4}, 8: {}, 9: {0, 1}, 15: {}} {
		if leaving := impl.LeavingOf(exampleNet(), side); !slices.Equal(leaving, want) {
			t.Errorf("%v leave %d, not %v", leaving, side, want)
		}
	}
	for side := range 8 {
		if leaving := impl.LeavingOf(impl.Net{Nodes: 3}, side); len(leaving) != 0 {
			t.Errorf("%v leave %d of three nodes alone", leaving, side)
		}
	}
}

func TestP11OthersAreNotLeft(t *testing.T) {
	forNoSides(func(net impl.Net, side int) {
		if leaving := impl.LeavingOf(net, side); len(leaving) != 0 {
			t.Fatalf("%v leave %d in %v", leaving, side, net)
		}
	})
}

func TestP12TheLeastRoomIsOneOfACut(t *testing.T) {
	forEnds(goodNets(), func(net impl.Net, from, to int) {
		least := leastRoom(t, net, from, to)
		if want, _ := wantNarrowest(net, from, to); least != want {
			t.Fatalf("the least room from %d to %d in %v is %d, not %d", from, to, net, least, want)
		}
		if least > roomOf(t, net, nodeAlone(from)) || least > roomOf(t, net, allNodes(net)-nodeAlone(to)) {
			t.Fatalf("the least room from %d to %d in %v is %d, more than that of one node", from, to, net, least)
		}
		if back := leastRoom(t, impl.TurnedNet(net), to, from); back != least {
			t.Fatalf("the least room from %d to %d in %v is %d, but %d turned", from, to, net, least, back)
		}
	})
}

func TestP12TheLeastRoomMayBeLessThanNothing(t *testing.T) {
	for _, net := range []impl.Net{
		{Nodes: 2, Pipes: []impl.Pipe{{From: 1, To: 0, Least: 3, Most: 4}}},
		{Nodes: 3, Pipes: []impl.Pipe{{From: 1, To: 0, Least: 3, Most: 4}, {From: 1, To: 2, Most: 4}, {From: 2, To: 1, Least: 1, Most: 1}}},
	} {
		if least := leastRoom(t, net, 0, 1); least > -3 {
			t.Errorf("the least room in %v is %d", net, least)
		}
		if least := leastRoom(t, net, 1, 0); least != 4 {
			t.Errorf("the least room back in %v is %d", net, least)
		}
	}
	for nodes := 2; nodes <= impl.MaxNodes; nodes++ {
		if least := leastRoom(t, impl.Net{Nodes: nodes}, nodes-1, 0); least != 0 {
			t.Errorf("the least room of %d nodes alone is %d", nodes, least)
		}
	}
}

func TestP12OthersHaveNoLeastRoom(t *testing.T) {
	forNoEnds(func(net impl.Net, from, to int) {
		if n, ok := impl.LeastRoom(net, from, to); n != 0 || ok {
			t.Fatalf("the least room from %d to %d in %v is %d, %v", from, to, net, n, ok)
		}
	})
}

func TestP13NarrowestCutsAreClosedUnderBoth(t *testing.T) {
	more := 0
	forEnds(goodNets(), func(net impl.Net, from, to int) {
		sides, least := impl.NarrowestOf(net, from, to), leastRoom(t, net, from, to)
		if len(sides) == 0 {
			t.Fatalf("none is narrowest from %d to %d in %v", from, to, net)
		}
		if _, want := wantNarrowest(net, from, to); !slices.Equal(sides, want) {
			t.Fatalf("narrowest from %d to %d in %v are %v, not %v", from, to, net, sides, want)
		}
		for _, a := range sides {
			if roomOf(t, net, a) != least {
				t.Fatalf("%d has not the least room from %d to %d in %v", a, from, to, net)
			}
			for _, b := range sides {
				if !slices.Contains(sides, a&b) || !slices.Contains(sides, a|b) {
					t.Fatalf("narrowest from %d to %d in %v are %v: not closed for %d and %d", from, to, net, sides, a, b)
				}
				if a&b != a && a&b != b {
					more++
				}
			}
		}
	})
	if more == 0 {
		t.Fatal("no two narrowest sides were tried of which neither has the other")
	}
}

func TestP13SidesAreAscending(t *testing.T) {
	if sides := impl.NarrowestOf(exampleNet(), 0, 3); !slices.Equal(sides, []int{1, 3}) {
		t.Errorf("narrowest of the example are %v", sides)
	}
	if sides := impl.NarrowestOf(impl.Net{Nodes: 4}, 2, 1); !slices.Equal(sides, []int{4, 5, 12, 13}) {
		t.Errorf("narrowest of four nodes alone are %v", sides)
	}
	if sides := impl.NarrowestOf(sameEndsNet(), 1, 0); !slices.Equal(sides, []int{2}) {
		t.Errorf("narrowest of two nodes are %v", sides)
	}
}

func TestP13OthersHaveNoNarrowest(t *testing.T) {
	forNoEnds(func(net impl.Net, from, to int) {
		if sides := impl.NarrowestOf(net, from, to); len(sides) != 0 {
			t.Fatalf("narrowest from %d to %d in %v are %v", from, to, net, sides)
		}
	})
}

func TestP14ACutIsHeldFromBothSides(t *testing.T) {
	full, least := 0, 0
	for _, net := range goodNets() {
		all := allNodes(net)
		for _, flow := range heldFlows(net) {
			if !impl.HoldsOk(net, flow) {
				t.Fatalf("not held: %v in %v", flow, net)
			}
			for side := 0; side <= all; side++ {
				over, room, back := acrossOf(t, net, flow, side), roomOf(t, net, side), roomOf(t, net, all-side)
				if over < -back || over > room {
					t.Fatalf("over %d of %v in %v goes %d, not in %d..%d", side, flow, net, over, -back, room)
				}
				if -back < room && over == room {
					full++
				}
				if -back < room && over == -back {
					least++
				}
			}
		}
	}
	if full == 0 || least == 0 {
		t.Fatal("no flow was tried that fills a cut, and none that just holds one")
	}
}

func TestP14ACutIsFilledAndJustHeld(t *testing.T) {
	net := impl.Net{Nodes: 2, Pipes: []impl.Pipe{{From: 0, To: 1, Least: 1, Most: 4}, {From: 1, To: 0, Least: 2, Most: 3}}}
	if over := acrossOf(t, net, []int{4, 2}, 1); over != 2 || over != roomOf(t, net, 1) {
		t.Errorf("filled it is %d", over)
	}
	if over := acrossOf(t, net, []int{1, 3}, 1); over != -2 || over != -roomOf(t, net, 2) {
		t.Errorf("just held it is %d", over)
	}
}

func TestP15TurnedTheOtherSidesAreNarrowest(t *testing.T) {
	forEnds(goodNets(), func(net impl.Net, from, to int) {
		var want []int
		for _, side := range impl.NarrowestOf(net, from, to) {
			want = append(want, allNodes(net)-side)
		}
		slices.Reverse(want)
		if sides := impl.NarrowestOf(impl.TurnedNet(net), to, from); len(sides) == 0 || !slices.Equal(sides, want) {
			t.Fatalf("narrowest from %d to %d in %v turned are %v, not %v", to, from, net, sides, want)
		}
	})
}

func TestP15OfOthersTurnedNoneIsNarrowest(t *testing.T) {
	turned := impl.TurnedNet(exampleNet())
	if sides := impl.NarrowestOf(turned, 3, 0); !slices.Equal(sides, []int{12, 14}) {
		t.Errorf("narrowest of the example turned are %v", sides)
	}
	forNoEnds(func(net impl.Net, from, to int) {
		if sides := impl.NarrowestOf(impl.TurnedNet(net), to, from); len(sides) != 0 {
			t.Fatalf("narrowest from %d to %d in %v turned are %v", to, from, net, sides)
		}
	})
}

func TestCutsOnlyReadAndShareNothing(t *testing.T) {
	for _, net := range []impl.Net{exampleNet(), ringNet(), sameEndsNet()} {
		flow := roomy(filled(net, 1))
		net.Pipes = roomy(net.Pipes)
		wholePipes, wholeFlow := slices.Clone(net.Pipes[:cap(net.Pipes)]), slices.Clone(flow[:cap(flow)])
		for side := 0; side <= allNodes(net); side++ {
			impl.SideOk(net, side)
			impl.AcrossOf(net, flow, side)
			impl.RoomOf(net, side)
			spoiledAgain(t, func() []int { return impl.LeavingOf(net, side) })
		}
		impl.LeastRoom(net, 0, 1)
		spoiledAgain(t, func() []int { return impl.NarrowestOf(net, 0, 1) })
		if !slices.Equal(net.Pipes[:cap(net.Pipes)], wholePipes) || !slices.Equal(flow[:cap(flow)], wholeFlow) {
			t.Fatalf("changed: %v, %v", net, flow)
		}
	}
}

// spoiledAgain writes over a result, and the memory behind it, and asks once more: nothing of it may come back.
func spoiledAgain(t *testing.T, ask func() []int) {
	t.Helper()
	spoiledWith(t, -7, ask)
}

func spoiledWith[T comparable](t *testing.T, spoil T, ask func() []T) {
	t.Helper()
	first := ask()
	want := slices.Clone(first)
	whole := first[:cap(first)]
	for i := range whole {
		whole[i] = spoil
	}
	if again := ask(); !slices.Equal(again, want) {
		t.Fatalf("asked again it is %v, not %v", again, want)
	}
}
