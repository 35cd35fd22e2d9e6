package tests

import (
	"math"
	"slices"
	"testing"

	"loop.example/balancedpipes/impl"
)

// forShortWords tries drawn words of all shapes that are terms, and those whose pipes are all the same: in these many cuts are equal, and many pipes can be made one.
func forShortWords(try func(w *word)) {
	forWords(impl.MaxPipes, try)
	for pipes := 1; pipes <= impl.MaxPipes; pipes++ {
		for _, shape := range shapes(pipes) {
			if shape.fits() {
				try(shape)
				try(filledWord(shape, 1, 1))
				try(filledWord(shape, 2, 0))
				try(filledWord(shape, 1, 3))
			}
		}
	}
}

func (w *word) turned() *word {
	if w.first == nil {
		return w
	}
	mark := thenMark()
	if w.mark.Kind == impl.MarkThen {
		mark = besideMark()
	}
	return &word{mark, w.first.turned(), w.second.turned()}
}

func (w *word) pipes() []impl.Mark {
	return slices.DeleteFunc(w.marks(), func(mark impl.Mark) bool { return mark.Kind != impl.MarkPipe })
}

// shortestWay tries all ways through the net that the tests make of a word, with holds for lengths.
func (w *word) shortestWay() int {
	net := w.net()
	var from func(node int) int
	from = func(node int) int {
		if node == 1 {
			return 0
		}
		least := math.MaxInt
		for _, p := range net.Pipes {
			if p.From == node {
				least = min(least, p.Most+from(p.To))
			}
		}
		return least
	}
	return from(0)
}

// narrow has the places of the pipes of the cut that is told, and how often both parts behind each other carried as much.
func (w *word) narrow(begin int) (places []int, ties int) {
	if w.first == nil {
		return []int{begin}, 0
	}
	first, firstTies := w.first.narrow(begin)
	second, secondTies := w.second.narrow(begin + w.first.count(impl.MarkPipe))
	here, there := w.first.carries(), w.second.carries()
	switch {
	case w.mark.Kind == impl.MarkBeside:
		return append(first, second...), firstTies + secondTies
	case here == there:
		return first, firstTies + 1
	case here < there:
		return first, firstTies
	}
	return second, secondTies
}

// left turns one bracket after the other, from without to within, until there is none to turn.
func (w *word) left() *word {
	if w.first == nil {
		return w
	}
	if w.second.mark == w.mark {
		return (&word{w.mark, &word{w.mark, w.first, w.second.first}, w.second.second}).left()
	}
	return &word{w.mark, w.first.left(), w.second.left()}
}

// leansLeft is what LeftTerm promises of its result.
func (w *word) leansLeft() bool {
	return w.first == nil || w.second.mark != w.mark && w.first.leansLeft() && w.second.leansLeft()
}

// merged also counts the pipes that were made of others, and those of these that were made of such ones again.
func (w *word) merged() (result *word, made, again int) {
	if w.first == nil {
		return w, 0, 0
	}
	first, firstMade, firstAgain := w.first.merged()
	second, secondMade, secondAgain := w.second.merged()
	made, again = firstMade+secondMade, firstAgain+secondAgain
	result = &word{w.mark, first, second}
	if first.first != nil || second.first != nil {
		return result, made, again
	}
	a, b := first.mark, second.mark
	one := pipeMark(a.Hold+b.Hold, a.Price)
	fits := a.Price == b.Price && one.Hold <= impl.MaxHold
	if w.mark.Kind == impl.MarkThen {
		one = pipeMark(min(a.Hold, b.Hold), a.Price+b.Price)
		fits = one.Price <= impl.MaxCost
	}
	if !fits {
		return result, made, again
	}
	if w.first.first != nil || w.second.first != nil {
		again++
	}
	return &word{mark: one}, made + 1, again
}

// wordOf reads marks from the last one on.
func wordOf(row []impl.Mark) *word {
	last := len(row) - 1
	if row[last].Kind == impl.MarkPipe {
		return &word{mark: row[last]}
	}
	begin := partBegin(row, last)
	return &word{row[last], wordOf(row[:begin]), wordOf(row[begin:last])}
}

func readTerm(t *testing.T, text string) []impl.Mark {
	t.Helper()
	row, ok := impl.ReadTerm(text)
	if !ok {
		t.Fatalf("%q is not read", text)
	}
	return row
}

func heldTerm(t *testing.T, row []impl.Mark, at, hold int) []impl.Mark {
	t.Helper()
	held, ok := impl.HeldTerm(row, at, hold)
	if !ok {
		t.Fatalf("pipe %d of %v does not hold %d", at, row, hold)
	}
	return held
}

// holdsOf adds what pipes hold, and the squares of that.
func holdsOf(pipes []impl.Mark) (sum, squares int) {
	for _, pipe := range pipes {
		sum += pipe.Hold
		squares += pipe.Hold * pipe.Hold
	}
	return sum, squares
}

func TestP57TheTurnedTermIsAsLongAsTheTermCarries(t *testing.T) {
	turned, none := 0, 0
	forShortWords(func(w *word) {
		row := w.marks()
		dual, ok := impl.DualTerm(row)
		if want := w.count(impl.MarkBeside) <= impl.MaxNodes-2; ok != want {
			t.Fatalf("%v turned is a term: %v", row, ok)
		}
		if !ok {
			none++
			if len(dual) != 0 {
				t.Fatalf("%v turned is %v, and no term", row, dual)
			}
			return
		}
		turned++
		if !impl.TermOk(dual) || !slices.Equal(dual, w.turned().marks()) {
			t.Fatalf("%v turned is %v", row, dual)
		}
		if impl.LengthOf(dual) != impl.CarriesOf(row) || impl.CarriesOf(dual) != impl.LengthOf(row) {
			t.Fatalf("%v carries %d, is %d long, and turned %d and %d", row, impl.CarriesOf(row), impl.LengthOf(row), impl.CarriesOf(dual), impl.LengthOf(dual))
		}
		if again, againOk := impl.DualTerm(dual); !slices.Equal(again, row) || !againOk {
			t.Fatalf("%v turned twice is %v, %v", row, again, againOk)
		}
	})
	if turned < 1000 || none < 1000 {
		t.Fatalf("%d turned terms were tried, and %d that are none", turned, none)
	}
}

func TestP57DotsForPlusesAndPlusesForDots(t *testing.T) {
	for _, c := range []struct{ text, want string }{
		{"0:0", "0:0"},
		{"4:9", "4:9"},
		{"3:2.2:1", "3:2+2:1"},
		{"3:2+2:1", "3:2.2:1"},
		{"(3:2+2:1).4:0", "3:2.2:1+4:0"},
		{"3:2.2:1+4:0", "(3:2+2:1).4:0"},
		{"1:1.(2:2.3:3)", "1:1+(2:2+3:3)"},
		{"1:1+(2:2+3:3)", "1:1.(2:2.3:3)"},
		{"1:1.2:2.3:3.4:4", "1:1+2:2+3:3+4:4"},
		{"1:1+2:2+3:3+4:4", "1:1.2:2.3:3.4:4"},
		{"(1:0+1:0).(1:0+1:0).1:0.1:0", "1:0.1:0+1:0.1:0+1:0+1:0"},
		{"(1:0+1:0+1:0+1:0).1:0", "1:0.1:0.1:0.1:0+1:0"},
		{"(1:0+1:0+1:0+1:0+1:0).1:0", ""},
		{"1:1+2:2+3:3+4:4+0:5", ""},
		{"0:0+(0:0+(0:0+(0:0+0:0)))", ""},
		{"0:0+0:0+0:0+0:0+0:0+0:0+0:0", ""},
	} {
		dual, ok := impl.DualTerm(readTerm(t, c.text))
		if text := impl.TermText(dual); text != c.want || ok != (c.want != "") || !ok && len(dual) != 0 {
			t.Errorf("%s turned is %q, %v, not %q", c.text, text, ok, c.want)
		}
	}
}

func TestP57OthersAreNotTurned(t *testing.T) {
	for why, row := range noTerms() {
		if dual, ok := impl.DualTerm(row); len(dual) != 0 || ok {
			t.Errorf("%s: %v turned is %v, %v", why, row, dual, ok)
		}
	}
	mended := 0
	for pipes := 1; pipes <= impl.MaxPipes; pipes++ {
		for _, shape := range shapes(pipes) {
			if shape.fits() {
				continue
			}
			if dual, ok := impl.DualTerm(shape.marks()); len(dual) != 0 || ok {
				t.Fatalf("%v is no term, and turned it is %v, %v", shape.marks(), dual, ok)
			}
			if shape.turned().fits() {
				mended++
			}
		}
	}
	if mended < 1000 {
		t.Fatalf("%d rows were tried that would be terms if they were turned", mended)
	}
}

func TestP58LengthsAndLoadsAreBounded(t *testing.T) {
	lengths, full := map[int]int{}, 0
	forShortWords(func(w *word) {
		row := w.marks()
		length := impl.LengthOf(row)
		if want := w.shortestWay(); length != want {
			t.Fatalf("%v is %d long, not %d", row, length, want)
		}
		sum, squares := holdsOf(w.pipes())
		if length > sum || length*impl.CarriesOf(row) > squares {
			t.Fatalf("%v is %d long, and carries %d", row, length, impl.CarriesOf(row))
		}
		lengths[length]++
		if sum > 0 && length*impl.CarriesOf(row) == squares {
			full++
		}
	})
	for length := range 3 * impl.MaxHold {
		if lengths[length] == 0 {
			t.Fatalf("terms were tried by their lengths: %v", lengths)
		}
	}
	if full < 100 {
		t.Fatalf("%d terms were tried that are as long as may be", full)
	}
}

func TestP58BothLengthsOrTheLesserOne(t *testing.T) {
	for _, c := range []struct {
		text string
		want int
	}{
		{"0:0", 0},
		{"0:9", 0},
		{"4:9", 4},
		{"3:0.2:0", 5},
		{"3:0+2:0", 2},
		{"2:0+3:0", 2},
		{"2:0+2:0", 2},
		{"4:0.0:0", 4},
		{"4:0+0:0", 0},
		{"0:0+4:0", 0},
		{"(3:2+2:1).4:0", 6},
		{"3:2.2:1+4:0", 4},
		{"1:0.1:0+4:0", 2},
		{"4:0.4:0.4:0.4:0", 16},
		{"4:0.4:0.(4:0.4:0)", 16},
		{"4:0+4:0+4:0+4:0+4:0+4:0+4:0", 4},
		{"4:0.(4:0+1:0.2:0).4:0", 11},
	} {
		if length := impl.LengthOf(readTerm(t, c.text)); length != c.want {
			t.Errorf("%s is %d long, not %d", c.text, length, c.want)
		}
	}
}

func TestP58OthersHaveNoLength(t *testing.T) {
	for why, row := range noTerms() {
		if length := impl.LengthOf(row); length != -1 {
			t.Errorf("%s: %v is %d long", why, row, length)
		}
	}
}

func TestP59TheNarrowestCutHoldsWhatTheTermCarries(t *testing.T) {
	ties, idle, all := 0, 0, 0
	forShortWords(func(w *word) {
		row := w.marks()
		places := impl.NarrowOf(row)
		want, equal := w.narrow(0)
		if !slices.Equal(places, want) {
			t.Fatalf("a narrowest cut of %v is %v, not %v", row, places, want)
		}
		pipes, held := w.pipes(), row
		var cut []impl.Mark
		for i, at := range places {
			if i > 0 && places[i-1] >= at {
				t.Fatalf("a narrowest cut of %v is %v", row, places)
			}
			cut = append(cut, pipes[at])
			held = heldTerm(t, held, at, 0)
		}
		if holds, _ := holdsOf(cut); holds != impl.CarriesOf(row) {
			t.Fatalf("%v carries %d, and the cut %v holds %d", row, impl.CarriesOf(row), places, holds)
		}
		if carries := impl.CarriesOf(held); carries != 0 {
			t.Fatalf("%v carries %d, with nothing held by %v", row, carries, places)
		}
		if equal > 0 {
			ties++
		}
		if impl.CarriesOf(row) == 0 {
			idle++
		}
		if len(places) == impl.MaxPipes {
			all++
		}
	})
	if ties < 1000 || idle < 1000 || all < 100 {
		t.Fatalf("%d terms with equal cuts were tried, %d that carry nothing, and %d whose cut has all pipes", ties, idle, all)
	}
}

func TestP59OfEqualCutsTheFirstOne(t *testing.T) {
	for _, c := range []struct {
		text string
		want []int
	}{
		{"0:0", []int{0}},
		{"4:9", []int{0}},
		{"2:0.2:0", []int{0}},
		{"2:0.3:0", []int{0}},
		{"3:0.2:0", []int{1}},
		{"0:9.0:0", []int{0}},
		{"4:9.0:0", []int{1}},
		{"2:0+3:0", []int{0, 1}},
		{"0:0+0:0", []int{0, 1}},
		{"1:0.1:0.1:0", []int{0}},
		{"1:0.(1:0.1:0)", []int{0}},
		{"2:0.1:0.1:0", []int{1}},
		{"2:0.(2:0.1:0)", []int{2}},
		{"2:0.1:0.1:0.2:0", []int{1}},
		{"(3:2+2:1).4:0", []int{2}},
		{"(2:0+2:0).4:0", []int{0, 1}},
		{"4:0.(2:0+2:0)", []int{0}},
		{"4:0.(2:0+1:0)", []int{1, 2}},
		{"(1:0+3:0).(2:0+2:0)", []int{0, 1}},
		{"(1:0+3:0).(2:0+1:0)", []int{2, 3}},
		{"1:0.1:0+1:0.1:0", []int{0, 2}},
		{"2:0.1:0+1:0.2:0", []int{1, 2}},
		{"2:0.1:0+2:0.1:0+3:0", []int{1, 3, 4}},
		{"3:0+2:0.1:0+2:0.1:0", []int{0, 2, 4}},
		{"(2:0.1:0+2:0.1:0).2:0", []int{1, 3}},
		{"2:0.(2:0.1:0+2:0.1:0)", []int{0}},
		{"0:0+0:0+0:0+0:0+0:0+0:0+0:0", []int{0, 1, 2, 3, 4, 5, 6}},
		{"(4:9+4:9+4:9+4:9+4:9+4:9).1:0", []int{6}},
	} {
		if places := impl.NarrowOf(readTerm(t, c.text)); !slices.Equal(places, c.want) {
			t.Errorf("a narrowest cut of %s is %v, not %v", c.text, places, c.want)
		}
	}
}

func TestP59OthersHaveNoCut(t *testing.T) {
	for why, row := range noTerms() {
		if places := impl.NarrowOf(row); len(places) != 0 {
			t.Errorf("%s: a narrowest cut of %v is %v", why, row, places)
		}
	}
}

// markOfPipe counts pipes until the one at that place.
func markOfPipe(row []impl.Mark, at int) int {
	for i, mark := range row {
		if mark.Kind == impl.MarkPipe {
			at--
		}
		if at < 0 {
			return i
		}
	}
	return -1
}

func TestP60WhatOnePipeHoldsMore(t *testing.T) {
	same, more := 0, 0
	forShortWords(func(w *word) {
		row, carries := w.marks(), w.carries()
		for at, pipe := range w.pipes() {
			for hold := range impl.MaxHold + 1 {
				held := heldTerm(t, row, at, hold)
				want := slices.Clone(row)
				want[markOfPipe(row, at)].Hold = hold
				if !slices.Equal(held, want) || !impl.TermOk(held) {
					t.Fatalf("%v with %d held by pipe %d is %v", row, hold, at, held)
				}
				if change := impl.CarriesOf(held) - carries; change*(hold-pipe.Hold) < 0 || max(change, -change) > max(hold-pipe.Hold, pipe.Hold-hold) {
					t.Fatalf("%v carries %d, and %d with %d held by pipe %d", row, carries, change+carries, hold, at)
				}
			}
			if held := heldTerm(t, row, at, pipe.Hold); !slices.Equal(held, row) {
				t.Fatalf("%v with as much held by pipe %d as before is %v", row, at, held)
			}
			if pipe.Hold == impl.MaxHold {
				continue
			}
			switch impl.CarriesOf(heldTerm(t, row, at, pipe.Hold+1)) - carries {
			case 0:
				same++
			case 1:
				more++
			default:
				t.Fatalf("with one more for pipe %d of %v it does not carry %d, or one more", at, row, carries)
			}
		}
	})
	if same < 1000 || more < 1000 {
		t.Fatalf("with one more for a pipe %d terms carried as much, and %d one more", same, more)
	}
}

func TestP60PipesAndHoldsThatAreNone(t *testing.T) {
	forWords(4, func(w *word) {
		row, pipes := w.marks(), w.count(impl.MarkPipe)
		for _, at := range []int{math.MinInt, -pipes, -2, -1, 0, pipes - 1, pipes, pipes + 1, len(row) - 1, len(row), impl.MaxPipes, math.MaxInt} {
			for _, hold := range []int{math.MinInt, -2, -1, 0, 1, impl.MaxHold, impl.MaxHold + 1, impl.MaxCost, math.MaxInt} {
				held, ok := impl.HeldTerm(row, at, hold)
				want := 0 <= at && at < pipes && 0 <= hold && hold <= impl.MaxHold
				if ok != want || !ok && len(held) != 0 || ok && held[markOfPipe(row, at)].Hold != hold {
					t.Fatalf("%v with %d held by pipe %d is %v, %v", row, hold, at, held, ok)
				}
			}
		}
	})
}

func TestP60OthersHoldNothing(t *testing.T) {
	for why, row := range noTerms() {
		for at := -1; at <= min(len(row), 2*impl.MaxPipes); at++ {
			for hold := range impl.MaxHold + 1 {
				if held, ok := impl.HeldTerm(row, at, hold); len(held) != 0 || ok {
					t.Fatalf("%s: %v with %d held by pipe %d is %v, %v", why, row, hold, at, held, ok)
				}
			}
		}
	}
}

func TestP61BracketsOnTheRightAreMovedToTheLeft(t *testing.T) {
	moved, stayed := 0, 0
	forShortWords(func(w *word) {
		row := w.marks()
		left := impl.LeftTerm(row)
		if want := w.left().marks(); !slices.Equal(left, want) || !impl.TermOk(left) {
			t.Fatalf("%v moved to the left is %v, not %v", row, left, want)
		}
		if !wordOf(left).leansLeft() || !slices.Equal(wordOf(left).pipes(), w.pipes()) {
			t.Fatalf("%v moved to the left is %v", row, left)
		}
		if len(left) != len(row) || !slices.Equal(impl.CostsOf(left), impl.CostsOf(row)) {
			t.Fatalf("%v costs %v, and moved to the left, %v costs %v", row, impl.CostsOf(row), left, impl.CostsOf(left))
		}
		if again := impl.LeftTerm(left); !slices.Equal(again, left) {
			t.Fatalf("%v moved to the left is %v, and again %v", row, left, again)
		}
		if slices.Equal(left, row) {
			stayed++
		} else {
			moved++
		}
	})
	if moved < 1000 || stayed < 1000 {
		t.Fatalf("%d terms were moved, and %d stayed", moved, stayed)
	}
}

func TestP61BracketsWithinBrackets(t *testing.T) {
	for _, c := range []struct{ text, want string }{
		{"0:0", "0:0"},
		{"4:9", "4:9"},
		{"1:1.2:2", "1:1.2:2"},
		{"1:1+2:2", "1:1+2:2"},
		{"1:1.(2:2.3:3)", "1:1.2:2.3:3"},
		{"1:1+(2:2+3:3)", "1:1+2:2+3:3"},
		{"1:1.2:2.3:3", "1:1.2:2.3:3"},
		{"1:1+2:2+3:3", "1:1+2:2+3:3"},
		{"1:1.(2:2.(3:3.4:4))", "1:1.2:2.3:3.4:4"},
		{"1:1+(2:2+(3:3+4:4))", "1:1+2:2+3:3+4:4"},
		{"1:1.(2:2.3:3.4:4)", "1:1.2:2.3:3.4:4"},
		{"1:1+(2:2+3:3+4:4)", "1:1+2:2+3:3+4:4"},
		{"1:1.2:2.(3:3.4:4)", "1:1.2:2.3:3.4:4"},
		{"1:1+2:2+(3:3+4:4)", "1:1+2:2+3:3+4:4"},
		{"0:1+(1:1+(2:2+(3:3+(4:4+(3:5+2:6)))))", "0:1+1:1+2:2+3:3+4:4+3:5+2:6"},
		{"0:1+1:1+(2:2+3:3+(4:4+3:5+2:6))", "0:1+1:1+2:2+3:3+4:4+3:5+2:6"},
		{"1:1.(2:2+3:3)", "1:1.(2:2+3:3)"},
		{"1:1.(2:2+(3:3+4:4))", "1:1.(2:2+3:3+4:4)"},
		{"1:1.((2:2+3:3).4:4)", "1:1.(2:2+3:3).4:4"},
		{"1:1.((2:2+(3:3+4:4)).0:0)", "1:1.(2:2+3:3+4:4).0:0"},
		{"1:1+(2:2.(3:3.4:4)+0:0)", "1:1+2:2.3:3.4:4+0:0"},
		{"1:1+(2:2+3:3.(4:4.0:0))", "1:1+2:2+3:3.4:4.0:0"},
		{"1:1.(2:2.(3:3+(4:4+0:0)))", "1:1.2:2.(3:3+4:4+0:0)"},
		{"(1:1+(2:2+3:3)).4:4", "(1:1+2:2+3:3).4:4"},
		{"1:1.(2:2.3:3)+(4:4.3:5+(2:6+1:7))", "1:1.2:2.3:3+4:4.3:5+2:6+1:7"},
		{"1:1+2:2.((3:3+(4:4+3:5)).(2:6.1:7))", "1:1+2:2.(3:3+4:4+3:5).2:6.1:7"},
	} {
		if text := impl.TermText(impl.LeftTerm(readTerm(t, c.text))); text != c.want {
			t.Errorf("%s moved to the left is %s, not %s", c.text, text, c.want)
		}
	}
}

func TestP61OthersAreNotMoved(t *testing.T) {
	for why, row := range noTerms() {
		if left := impl.LeftTerm(row); len(left) != 0 {
			t.Errorf("%s: %v moved to the left is %v", why, row, left)
		}
	}
}

func TestP62PipesMadeOneCarryAtTheSameCost(t *testing.T) {
	made, again, single, stayed := 0, 0, 0, 0
	forShortWords(func(w *word) {
		row := w.marks()
		merged := impl.MergedTerm(row)
		want, here, twice := w.merged()
		if !slices.Equal(merged, want.marks()) || !impl.TermOk(merged) {
			t.Fatalf("%v with pipes made one is %v, not %v", row, merged, want.marks())
		}
		if !slices.Equal(impl.CostsOf(merged), impl.CostsOf(row)) {
			t.Fatalf("%v costs %v, and with pipes made one, %v costs %v", row, impl.CostsOf(row), merged, impl.CostsOf(merged))
		}
		if pipes := impl.PipesIn(merged); pipes > impl.PipesIn(row) || pipes != w.count(impl.MarkPipe)-here {
			t.Fatalf("%v with pipes made one is %v", row, merged)
		}
		if further := impl.MergedTerm(merged); !slices.Equal(further, merged) {
			t.Fatalf("%v with pipes made one is %v, and again %v", row, merged, further)
		}
		made += here
		again += twice
		if here == 0 {
			stayed++
		}
		if len(merged) == 1 && len(row) > 1 {
			single++
		}
	})
	if made < 1000 || again < 1000 || single < 100 || stayed < 1000 {
		t.Fatalf("%d pipes were made, %d of them of such ones, %d terms were made one pipe, and %d stayed", made, again, single, stayed)
	}
}

func TestP62PipesAreMadeOneFromWithinToWithout(t *testing.T) {
	for _, c := range []struct{ text, want string }{
		{"0:0", "0:0"},
		{"4:9", "4:9"},
		{"3:4.2:5", "2:9"},
		{"2:5.3:4", "2:9"},
		{"2:0.2:9", "2:9"},
		{"3:5.2:5", "3:5.2:5"},
		{"3:9.2:1", "3:9.2:1"},
		{"3:9.2:9", "3:9.2:9"},
		{"4:0.0:0", "0:0"},
		{"0:4.4:5", "0:9"},
		{"0:5.0:5", "0:5.0:5"},
		{"3:2+1:2", "4:2"},
		{"1:2+3:2", "4:2"},
		{"2:9+2:9", "4:9"},
		{"4:0+0:0", "4:0"},
		{"0:7+0:7", "0:7"},
		{"3:2+2:2", "3:2+2:2"},
		{"4:2+1:2", "4:2+1:2"},
		{"4:2+4:2", "4:2+4:2"},
		{"1:2+1:3", "1:2+1:3"},
		{"1:3+1:2", "1:3+1:2"},
		{"0:2+0:3", "0:2+0:3"},
		{"0:2+1:3", "0:2+1:3"},
		{"1:1.2:2.3:3", "1:6"},
		{"1:1.(2:2.3:3)", "1:6"},
		{"3:3.3:3.3:3", "3:9"},
		{"3:3.3:3.3:4", "3:6.3:4"},
		{"3:3.(3:3.3:4)", "3:3.3:7"},
		{"3:5.3:5.3:4", "3:5.3:5.3:4"},
		{"3:5.(3:5.3:4)", "3:5.3:9"},
		{"1:1+1:1+2:1", "4:1"},
		{"1:1+(1:1+2:1)", "4:1"},
		{"2:1+2:1+1:1", "4:1+1:1"},
		{"2:1+(2:1+1:1)", "2:1+3:1"},
		{"4:1+1:1+0:1", "4:1+1:1+0:1"},
		{"4:1+(1:1+0:1)", "4:1+1:1"},
		{"1:1+1:2+1:1", "1:1+1:2+1:1"},
		{"1:1+1:1+1:2", "2:1+1:2"},
		{"1:1.2:1+2:2", "3:2"},
		{"2:2+1:1.2:1", "3:2"},
		{"1:1.2:1+2:3", "1:2+2:3"},
		{"(1:1+2:1).2:3", "2:4"},
		{"2:3.(1:1+2:1)", "2:4"},
		{"(1:1+2:2).2:3", "(1:1+2:2).2:3"},
		{"(1:1+2:1).(2:3+2:3)", "3:4"},
		{"(1:1+2:1).(3:3+2:3)", "3:1.(3:3+2:3)"},
		{"1:1.1:1+1:1.1:1", "2:2"},
		{"1:1.1:1+1:1.1:1+2:2", "4:2"},
		{"(1:1.1:1+1:1.1:1).4:7+2:9", "4:9"},
		{"(1:1.1:1+1:1.1:1).4:7+3:9", "2:9+3:9"},
		{"(1:1.1:1+1:1.1:1).4:8+2:9", "2:2.4:8+2:9"},
		{"1:0+1:0+1:0+1:0+1:0+1:0+1:0", "4:0+1:0+1:0+1:0"},
		{"1:0+(1:0+(1:0+(1:0+(1:0+(1:0+1:0)))))", "1:0+(1:0+(1:0+4:0))"},
		{"0:0+0:0+0:0+0:0+0:0+0:0+0:0", "0:0"},
	} {
		if text := impl.TermText(impl.MergedTerm(readTerm(t, c.text))); text != c.want {
			t.Errorf("%s with pipes made one is %s, not %s", c.text, text, c.want)
		}
	}
}

func TestP62EachTwoPipes(t *testing.T) {
	var pipes []impl.Mark
	for hold := range impl.MaxHold + 1 {
		for price := range impl.MaxCost + 1 {
			pipes = append(pipes, pipeMark(hold, price))
		}
	}
	for _, a := range pipes {
		for _, b := range pipes {
			then, beside := []impl.Mark{a, b, thenMark()}, []impl.Mark{a, b, besideMark()}
			wantThen, wantBeside := then, beside
			if a.Price+b.Price <= impl.MaxCost {
				wantThen = []impl.Mark{pipeMark(min(a.Hold, b.Hold), a.Price+b.Price)}
			}
			if a.Price == b.Price && a.Hold+b.Hold <= impl.MaxHold {
				wantBeside = []impl.Mark{pipeMark(a.Hold+b.Hold, a.Price)}
			}
			if merged := impl.MergedTerm(then); !slices.Equal(merged, wantThen) {
				t.Fatalf("%v with pipes made one is %v, not %v", then, merged, wantThen)
			}
			if merged := impl.MergedTerm(beside); !slices.Equal(merged, wantBeside) {
				t.Fatalf("%v with pipes made one is %v, not %v", beside, merged, wantBeside)
			}
		}
	}
}

func TestP62OthersAreNotMadeOne(t *testing.T) {
	for why, row := range noTerms() {
		if merged := impl.MergedTerm(row); len(merged) != 0 {
			t.Errorf("%s: %v with pipes made one is %v", why, row, merged)
		}
	}
}

func TestP63ANarrowestCutIsAShortestWayOfTheTurnedTerm(t *testing.T) {
	tried, moved := 0, 0
	forShortWords(func(w *word) {
		row := w.marks()
		dual, ok := impl.DualTerm(row)
		if !ok {
			return
		}
		pipes := w.pipes()
		var cut []impl.Mark
		for _, at := range impl.NarrowOf(row) {
			cut = append(cut, pipes[at])
		}
		holds, _ := holdsOf(cut)
		if length := impl.LengthOf(dual); length != holds {
			t.Fatalf("a narrowest cut of %v holds %d, and the turned term %v is %d long", row, holds, dual, length)
		}
		left := impl.LeftTerm(dual)
		if length := impl.LengthOf(left); length != holds {
			t.Fatalf("%v is %d long, and moved to the left, %v is %d long", dual, holds, left, length)
		}
		tried++
		if !slices.Equal(left, dual) {
			moved++
		}
	})
	if tried < 1000 || moved < 1000 {
		t.Fatalf("%d turned terms were tried, %d of which were moved", tried, moved)
	}
}

func TestTurnedAndShortTermsOnlyReadAndShareNothing(t *testing.T) {
	none := impl.Mark{Kind: -7}
	forWords(4, func(w *word) {
		row := roomy(w.marks())
		whole := slices.Clone(row[:cap(row)])
		impl.LengthOf(row)
		spoiledAgain(t, func() []int { return impl.NarrowOf(row) })
		spoiledWith(t, none, func() []impl.Mark { dual, _ := impl.DualTerm(row); return dual })
		spoiledWith(t, none, func() []impl.Mark { held, _ := impl.HeldTerm(row, 0, 1); return held })
		spoiledWith(t, none, func() []impl.Mark { held, _ := impl.HeldTerm(row, 0, row[0].Hold); return held })
		spoiledWith(t, none, func() []impl.Mark { return impl.LeftTerm(row) })
		spoiledWith(t, none, func() []impl.Mark { return impl.MergedTerm(row) })
		if !slices.Equal(row[:cap(row)], whole) {
			t.Fatalf("changed: %v to %v", whole, row[:cap(row)])
		}
	})
}
