package tests

import (
	"math"
	"slices"
	"strconv"
	"strings"
	"testing"

	"loop.example/balancedpipes/impl"
)

func pipeMark(hold, price int) impl.Mark {
	return impl.Mark{Kind: impl.MarkPipe, Hold: hold, Price: price}
}

func thenMark() impl.Mark {
	return impl.Mark{Kind: impl.MarkThen}
}

func besideMark() impl.Mark {
	return impl.Mark{Kind: impl.MarkBeside}
}

// word is a term as it grows from its last mark on: a pipe, or two parts.
type word struct {
	mark          impl.Mark
	first, second *word
}

// shapes are all words with so many pipes, that hold nothing.
func shapes(pipes int) []*word {
	if pipes == 1 {
		return []*word{{mark: pipeMark(0, 0)}}
	}
	var all []*word
	for ahead := 1; ahead < pipes; ahead++ {
		for _, first := range shapes(ahead) {
			for _, second := range shapes(pipes - ahead) {
				all = append(all, &word{thenMark(), first, second}, &word{besideMark(), first, second})
			}
		}
	}
	return all
}

// word is a word of the shape whose pipes are drawn: a small price is often the same as another one's.
func (d *draws) word(shape *word, price int) *word {
	if shape.first == nil {
		return &word{mark: pipeMark(d.below(impl.MaxHold+1), d.below(price+1))}
	}
	return &word{shape.mark, d.word(shape.first, price), d.word(shape.second, price)}
}

func (w *word) marks() []impl.Mark {
	if w.first == nil {
		return []impl.Mark{w.mark}
	}
	return slices.Concat(w.first.marks(), w.second.marks(), []impl.Mark{w.mark})
}

func (w *word) count(kind int) int {
	return countKind(w.marks(), kind)
}

func countKind(row []impl.Mark, kind int) int {
	count := 0
	for _, mark := range row {
		if mark.Kind == kind {
			count++
		}
	}
	return count
}

func (w *word) fits() bool {
	return w.count(impl.MarkPipe) <= impl.MaxPipes && w.count(impl.MarkThen) <= impl.MaxNodes-2
}

func (w *word) text() string {
	inBrackets := func(part *word, needed bool) string {
		if needed {
			return "(" + part.text() + ")"
		}
		return part.text()
	}
	switch w.mark.Kind {
	case impl.MarkBeside:
		return w.first.text() + "+" + inBrackets(w.second, w.second.mark.Kind == impl.MarkBeside)
	case impl.MarkThen:
		return inBrackets(w.first, w.first.mark.Kind == impl.MarkBeside) + "." + inBrackets(w.second, w.second.first != nil)
	}
	return strconv.Itoa(w.mark.Hold) + ":" + strconv.Itoa(w.mark.Price)
}

func (w *word) carries() int {
	switch w.mark.Kind {
	case impl.MarkBeside:
		return w.first.carries() + w.second.carries()
	case impl.MarkThen:
		return min(w.first.carries(), w.second.carries())
	}
	return w.mark.Hold
}

// costs asks for each amount, and also how often it is parted in several ways at the same least cost.
func (w *word) costs() (costs []int, ties int) {
	if w.first == nil {
		for amount := range w.mark.Hold + 1 {
			costs = append(costs, amount*w.mark.Price)
		}
		return costs, 0
	}
	first, _ := w.first.costs()
	second, _ := w.second.costs()
	if w.mark.Kind == impl.MarkThen {
		for amount := 0; amount < len(first) && amount < len(second); amount++ {
			costs = append(costs, first[amount]+second[amount])
		}
		return costs, 0
	}
	for amount := range len(first) + len(second) - 1 {
		least, ways := math.MaxInt, 0
		for here, cost := range first {
			if there := amount - here; there < 0 || there >= len(second) || cost+second[there] > least {
				continue
			} else if cost+second[there] < least {
				least, ways = cost+second[there], 0
			}
			ways++
		}
		costs = append(costs, least)
		if ways > 1 {
			ties++
		}
	}
	return costs, ties
}

// net goes from without to within, so that each node between two parts comes before those in them.
func (w *word) net() impl.Net {
	net := impl.Net{Nodes: 2}
	var lay func(part *word, from, to int)
	lay = func(part *word, from, to int) {
		switch part.mark.Kind {
		case impl.MarkPipe:
			net.Pipes = append(net.Pipes, impl.Pipe{From: from, To: to, Most: part.mark.Hold, Cost: part.mark.Price})
		case impl.MarkBeside:
			lay(part.first, from, to)
			lay(part.second, from, to)
		case impl.MarkThen:
			between := net.Nodes
			net.Nodes++
			lay(part.first, from, between)
			lay(part.second, between, to)
		}
	}
	lay(w, 0, 1)
	return net
}

// wordsOf are words of all shapes with so many pipes: with pipes that hold nothing and cost nothing, with all that hold and cost as much as may be, and with drawn ones.
func wordsOf(pipes int) []*word {
	var words []*word
	d := &draws{state: uint64(pipes)}
	for _, shape := range shapes(pipes) {
		words = append(words, d.word(shape, 2), d.word(shape, impl.MaxCost))
		if pipes < 5 {
			words = append(words, shape, filledWord(shape, impl.MaxHold, impl.MaxCost), d.word(shape, 1), d.word(shape, 2), d.word(shape, 3))
		}
	}
	return words
}

func filledWord(shape *word, hold, price int) *word {
	if shape.first == nil {
		return &word{mark: pipeMark(hold, price)}
	}
	return &word{shape.mark, filledWord(shape.first, hold, price), filledWord(shape.second, hold, price)}
}

// forWords tries the words of all shapes that are terms, of so many pipes at most.
func forWords(most int, try func(w *word)) {
	for pipes := 1; pipes <= most; pipes++ {
		for _, w := range wordsOf(pipes) {
			if w.fits() {
				try(w)
			}
		}
	}
}

// longestWord is one of as many pipes as may be, with as many marks MarkThen as may be.
func longestWord() *word {
	one := &word{mark: pipeMark(1, 1)}
	w := one
	for range impl.MaxNodes - 2 {
		w = &word{thenMark(), w, one}
	}
	for w.count(impl.MarkPipe) < impl.MaxPipes {
		w = &word{besideMark(), w, one}
	}
	return w
}

// noTerms are rows that are no terms, each for one reason alone.
func noTerms() map[string][]impl.Mark {
	a, b := pipeMark(3, 2), pipeMark(2, 1)
	then, beside := thenMark(), besideMark()
	bad := map[string][]impl.Mark{
		"no row":                         nil,
		"no marks":                       {},
		"no pipe behind each other":      {then},
		"no pipe beside each other":      {beside},
		"one pipe behind itself":         {a, then},
		"one pipe beside itself":         {a, beside},
		"the mark ahead":                 {then, a, b},
		"the mark ahead, and one behind": {beside, a, b, beside},
		"the mark between":               {a, then, b},
		"one pipe, and the mark twice":   {a, then, then},
		"two pipes, and two marks":       {a, b, then, beside},
		"too early a mark, mended later": {a, then, b, a, beside},
		"two parts are left":             {a, b},
		"two parts of two are left":      {a, b, then, b, a, beside},
		"three parts are left":           {a, b, a},
		"one mark too few":               {a, b, a, then},
		"one pipe too many":              longerBeside(longestWord()).marks(),
		"one mark MarkThen too many":     lineWord(impl.MaxNodes - 1).marks(),
		"many pipes":                     slices.Repeat([]impl.Mark{a}, 1000),
		"many marks":                     slices.Repeat([]impl.Mark{then}, 1000),
		"many pipes beside each other":   slices.Concat(slices.Repeat([]impl.Mark{a}, 1000), slices.Repeat([]impl.Mark{beside}, 999)),
	}
	for why, mark := range badMarks() {
		bad[why+", alone"] = []impl.Mark{mark}
		bad[why+", first"] = []impl.Mark{mark, b, beside}
		bad[why+", last"] = []impl.Mark{a, b, mark}
		bad[why+", between"] = []impl.Mark{a, mark, then}
		bad[why+", behind a term"] = []impl.Mark{a, b, then, mark}
		bad[why+", for the first mark"] = []impl.Mark{a, b, mark, a, beside}
	}
	return bad
}

func badMarks() map[string]impl.Mark {
	bad := map[string]impl.Mark{}
	for _, kind := range []int{-1, 3, 4, 5, math.MinInt, math.MaxInt, 256, 1 << 32} {
		bad["kind "+strconv.Itoa(kind)] = impl.Mark{Kind: kind}
	}
	for _, n := range []int{-1, impl.MaxHold + 1, math.MinInt, math.MaxInt} {
		bad["hold "+strconv.Itoa(n)] = pipeMark(n, 0)
	}
	for _, n := range []int{-1, impl.MaxCost + 1, math.MinInt, math.MaxInt} {
		bad["price "+strconv.Itoa(n)] = pipeMark(0, n)
	}
	for _, n := range []int{-1, 1, impl.MaxHold, impl.MaxCost, math.MinInt, math.MaxInt} {
		bad["hold "+strconv.Itoa(n)+" of MarkThen"] = impl.Mark{Kind: impl.MarkThen, Hold: n}
		bad["hold "+strconv.Itoa(n)+" of MarkBeside"] = impl.Mark{Kind: impl.MarkBeside, Hold: n}
		bad["price "+strconv.Itoa(n)+" of MarkThen"] = impl.Mark{Kind: impl.MarkThen, Price: n}
		bad["price "+strconv.Itoa(n)+" of MarkBeside"] = impl.Mark{Kind: impl.MarkBeside, Price: n}
	}
	return bad
}

func longerBeside(w *word) *word {
	return &word{besideMark(), w, &word{mark: pipeMark(0, 0)}}
}

// lineWord has so many marks MarkThen, and no others.
func lineWord(thens int) *word {
	w := &word{mark: pipeMark(2, 3)}
	for range thens {
		w = &word{thenMark(), w, &word{mark: pipeMark(1, 4)}}
	}
	return w
}

// partBegin goes back from the last mark of a part to its first one, -1 if there is none.
func partBegin(t []impl.Mark, end int) int {
	if end <= 0 {
		return -1
	}
	if t[end-1].Kind == impl.MarkPipe {
		return end - 1
	}
	return partBegin(t, partBegin(t, end-1))
}

// forMarkRows tries all rows of these marks, of so many at most.
func forMarkRows(marks []impl.Mark, most int, try func(t []impl.Mark)) {
	rows := [][]impl.Mark{{}}
	for range most {
		var longer [][]impl.Mark
		for _, row := range rows {
			for _, mark := range marks {
				longer = append(longer, append(slices.Clone(row), mark))
				try(longer[len(longer)-1])
			}
		}
		rows = longer
	}
}

func TestP49OnePipeIsATerm(t *testing.T) {
	for hold := -2; hold <= impl.MaxHold+2; hold++ {
		for price := -2; price <= impl.MaxCost+2; price++ {
			want := 0 <= hold && hold <= impl.MaxHold && 0 <= price && price <= impl.MaxCost
			if ok := impl.TermOk([]impl.Mark{pipeMark(hold, price)}); ok != want {
				t.Errorf("a pipe that holds %d and costs %d is a term: %v", hold, price, ok)
			}
		}
	}
}

func TestP49AFurtherPipeBesideATerm(t *testing.T) {
	wider, full := 0, 0
	forWords(impl.MaxPipes, func(w *word) {
		if !impl.TermOk(w.marks()) {
			t.Fatalf("%v is no term", w.marks())
		}
		more := longerBeside(w).marks()
		want := w.count(impl.MarkPipe) < impl.MaxPipes
		if ok := impl.TermOk(more); ok != want {
			t.Fatalf("%v is a term: %v", more, ok)
		}
		if want {
			wider++
		} else {
			full++
		}
	})
	if wider < 1000 || full < 1000 {
		t.Fatalf("%d terms with a further pipe were tried, and %d that are full", wider, full)
	}
}

func TestP49SomeShapesHaveTooManyMarks(t *testing.T) {
	terms, others := 0, 0
	for pipes := 1; pipes <= impl.MaxPipes; pipes++ {
		for _, shape := range shapes(pipes) {
			thens := shape.count(impl.MarkThen)
			if ok := impl.TermOk(shape.marks()); ok != (thens <= impl.MaxNodes-2) {
				t.Fatalf("%v with %d marks MarkThen is a term: %v", shape.marks(), thens, ok)
			}
			if thens <= impl.MaxNodes-2 {
				terms++
			} else {
				others++
			}
		}
	}
	if terms < 1000 || others < 1000 {
		t.Fatalf("%d terms were tried, and %d others", terms, others)
	}
}

func TestP49RowsThatArePutTogetherToOnePart(t *testing.T) {
	terms, others := 0, 0
	forMarkRows([]impl.Mark{pipeMark(2, 1), thenMark(), besideMark()}, 9, func(row []impl.Mark) {
		want := partBegin(row, len(row)) == 0 && countKind(row, impl.MarkThen) <= impl.MaxNodes-2
		if ok := impl.TermOk(row); ok != want {
			t.Fatalf("%v is a term: %v", row, ok)
		}
		if want {
			terms++
		} else {
			others++
		}
	})
	if terms < 200 || others < 200 {
		t.Fatalf("%d terms were tried, and %d others", terms, others)
	}
}

func TestP49OthersAreNoTerms(t *testing.T) {
	for why, row := range noTerms() {
		if impl.TermOk(row) {
			t.Errorf("%s: %v is a term", why, row)
		}
	}
}

func TestP50OneMarkLessThanTwiceThePipes(t *testing.T) {
	counts := map[int]int{}
	forWords(impl.MaxPipes, func(w *word) {
		row := w.marks()
		pipes := impl.PipesIn(row)
		if pipes != w.count(impl.MarkPipe) || len(row) != 2*pipes-1 {
			t.Fatalf("%v has %d pipes, not %d", row, pipes, w.count(impl.MarkPipe))
		}
		net, ok := impl.NetOfTerm(row)
		if !ok || len(net.Pipes) != pipes {
			t.Fatalf("%v has %d pipes, and its net is %v, %v", row, pipes, net, ok)
		}
		counts[pipes]++
	})
	for pipes := 1; pipes <= impl.MaxPipes; pipes++ {
		if counts[pipes] == 0 {
			t.Fatalf("terms were tried by their pipes: %v", counts)
		}
	}
}

func TestP50OthersHaveNoPipes(t *testing.T) {
	for why, row := range noTerms() {
		if pipes := impl.PipesIn(row); pipes != -1 {
			t.Errorf("%s: %v has %d pipes", why, row, pipes)
		}
	}
}

func TestP51TextsOfTermsAreRead(t *testing.T) {
	forWords(impl.MaxPipes, func(w *word) {
		row, want := w.marks(), w.text()
		text := impl.TermText(row)
		if text != want {
			t.Fatalf("the text of %v is %q, not %q", row, text, want)
		}
		if read, ok := impl.ReadTerm(text); !ok || !slices.Equal(read, row) {
			t.Fatalf("%q is read as %v, %v, not %v", text, read, ok, row)
		}
	})
}

func TestP51BracketsThatATextNeeds(t *testing.T) {
	a, b, c, d := pipeMark(0, 0), pipeMark(4, 9), pipeMark(3, 0), pipeMark(0, 5)
	then, beside := thenMark(), besideMark()
	for _, c := range []struct {
		row  []impl.Mark
		text string
	}{
		{[]impl.Mark{a}, "0:0"},
		{[]impl.Mark{b}, "4:9"},
		{[]impl.Mark{a, b, then}, "0:0.4:9"},
		{[]impl.Mark{a, b, beside}, "0:0+4:9"},
		{[]impl.Mark{b, a, beside}, "4:9+0:0"},
		{[]impl.Mark{a, b, then, c, then}, "0:0.4:9.3:0"},
		{[]impl.Mark{a, b, c, then, then}, "0:0.(4:9.3:0)"},
		{[]impl.Mark{a, b, beside, c, beside}, "0:0+4:9+3:0"},
		{[]impl.Mark{a, b, c, beside, beside}, "0:0+(4:9+3:0)"},
		{[]impl.Mark{a, b, then, c, beside}, "0:0.4:9+3:0"},
		{[]impl.Mark{a, b, c, then, beside}, "0:0+4:9.3:0"},
		{[]impl.Mark{a, b, beside, c, then}, "(0:0+4:9).3:0"},
		{[]impl.Mark{a, b, c, beside, then}, "0:0.(4:9+3:0)"},
		{[]impl.Mark{a, b, then, c, d, then, then}, "0:0.4:9.(3:0.0:5)"},
		{[]impl.Mark{a, b, beside, c, d, beside, then}, "(0:0+4:9).(3:0+0:5)"},
		{[]impl.Mark{a, b, beside, c, d, beside, beside}, "0:0+4:9+(3:0+0:5)"},
		{[]impl.Mark{a, b, beside, c, d, then, then}, "(0:0+4:9).(3:0.0:5)"},
		{[]impl.Mark{a, b, then, c, d, then, beside}, "0:0.4:9+3:0.0:5"},
		{[]impl.Mark{a, b, c, d, then, then, then}, "0:0.(4:9.(3:0.0:5))"},
		{[]impl.Mark{a, b, c, d, beside, beside, beside}, "0:0+(4:9+(3:0+0:5))"},
		{[]impl.Mark{a, b, c, d, beside, then, beside}, "0:0+4:9.(3:0+0:5)"},
		{[]impl.Mark{a, b, beside, c, then, d, then}, "(0:0+4:9).3:0.0:5"},
	} {
		if text := impl.TermText(c.row); text != c.text {
			t.Errorf("the text of %v is %q, not %q", c.row, text, c.text)
		}
		if read, ok := impl.ReadTerm(c.text); !ok || !slices.Equal(read, c.row) {
			t.Errorf("%q is read as %v, %v, not %v", c.text, read, ok, c.row)
		}
	}
}

func TestP51OthersHaveNoText(t *testing.T) {
	for why, row := range noTerms() {
		if text := impl.TermText(row); text != "" {
			t.Errorf("%s: the text of %v is %q", why, row, text)
		}
	}
}

// forNearTexts tries all texts that lack a byte of a text, or have one more, or another one.
func forNearTexts(text string, try func(near string)) {
	const signs = "0123456789:.+()- \n\x00a,"
	for at := range len(text) + 1 {
		for i := range len(signs) {
			try(text[:at] + signs[i:i+1] + text[at:])
			if at < len(text) {
				try(text[:at] + signs[i:i+1] + text[at+1:])
			}
		}
		try(text[:at])
		if at < len(text) {
			try(text[:at] + text[at+1:])
			try(text[at:])
		}
	}
}

func TestP52ReadTextsAreCanonical(t *testing.T) {
	read, refused := 0, 0
	for pipes := 1; pipes <= impl.MaxPipes; pipes++ {
		for i, w := range wordsOf(pipes) {
			if pipes > 4 && i%29 != 0 {
				continue
			}
			forNearTexts(w.text(), func(text string) {
				row, ok := impl.ReadTerm(text)
				if !ok {
					refused++
					if len(row) != 0 {
						t.Fatalf("%q is not read, but as %v", text, row)
					}
					return
				}
				read++
				if again := impl.TermText(row); again != text {
					t.Fatalf("%q is read as %v, whose text is %q", text, row, again)
				}
			})
		}
	}
	if read < 1000 || refused < 1000 {
		t.Fatalf("%d texts were read, and %d refused", read, refused)
	}
}

func TestP52InBracketsATextIsRefused(t *testing.T) {
	forWords(impl.MaxPipes, func(w *word) {
		text := w.text()
		for _, other := range []string{"(" + text + ")", "((" + text + "))", "(" + text, text + ")", "()" + text, text + "()", " " + text, text + " ", "+" + text, text + "+", "." + text, text + ".", text + "\x00"} {
			if row, ok := impl.ReadTerm(other); ok || len(row) != 0 {
				t.Fatalf("%q is read as %v, %v", other, row, ok)
			}
		}
		for end := range len(text) {
			row, ok := impl.ReadTerm(text[:end])
			if ok && impl.TermText(row) != text[:end] || !ok && len(row) != 0 {
				t.Fatalf("%q, cut off, is read as %v, %v", text[:end], row, ok)
			}
		}
	})
}

func TestP52OtherTextsAreRefused(t *testing.T) {
	for _, text := range []string{
		"", " ", "(", ")", "()", ":", ".", "+", "3", "3:", ":1", "3:1:2", "3.1", "3 :1", "3: 1", "3:1 ", " 3:1", "3:1\n", "3:1\x00", "3:1;", "a:1", "3:a", "\xff:1", "３:1",
		"03:1", "3:01", "00:0", "0:00", "+3:1", "3:+1", "-3:1", "3:-1", "-0:0", "0:-0", "5:1", "9:1", "10:1", "3:10", "3:99", "4294967299:1", "18446744073709551619:1", "3:18446744073709551617", "0x3:1", "3e0:1", "3_:1", "3.0:1",
		"(3:1)", "(3:1).2:1", "3:1.(2:1)", "(3:1)+2:1", "3:1+(2:1)", "(3:1.2:1)", "(3:1+2:1)", "(3:1.2:1).1:1", "(3:1+2:1)+1:1", "(3:1.2:1)+1:1", "3:1+(2:1.1:1)", "((3:1+2:1)).1:1", "3:1.((2:1+1:1))", "3:1+((2:1+1:1))",
		"3:1.", "3:1+", ".3:1", "+3:1", "3:1..2:1", "3:1++2:1", "3:1.+2:1", "3:1+.2:1", "3:1 2:1", "3:12:1", "3:1(2:1)", "(3:1+2:1)1:1", "(3:1+2:1)(1:1+2:1)", "3:1.(2:1+1:1", "3:1.2:1+1:1)", "(3:1+2:1.1:1", "3:1+2:1).1:1", "3:1.(2:1.1:1).(", "3:1.()", "().3:1", "3:1 + 2:1", "3:1. 2:1", "3:1-2:1", "3:1*2:1", "3:1.[2:1+1:1]", "3:1+2:1.", "(3:1+2:1).",
		"1:1+1:1+1:1+1:1+1:1+1:1+1:1+1:1", "1:1.1:1.1:1.1:1.1:1", "1:1.1:1.(1:1.1:1.1:1)", "1:1.1:1+1:1.1:1.1:1.1:1",
	} {
		if row, ok := impl.ReadTerm(text); ok || len(row) != 0 {
			t.Errorf("%q is read as %v, %v", text, row, ok)
		}
	}
}

func TestP52LongTextsAreRefused(t *testing.T) {
	const many = 1 << 24
	for _, text := range []string{
		strings.Repeat("(", 120),
		strings.Repeat("(", 121),
		strings.Repeat("(", many),
		strings.Repeat("(", many) + "1:1" + strings.Repeat(")", many),
		strings.Repeat("0", 117) + "1:1",
		strings.Repeat("0", 118) + "1:1",
		strings.Repeat("1", 1000) + ":1",
		strings.Repeat("1:1+", 29) + "1:1",
		strings.Repeat("1:1+", 30) + "1:1",
		strings.Repeat("1:1.", 1000) + "1:1",
		"1:1" + strings.Repeat(" ", 118),
		strings.Repeat("\x00", 120),
	} {
		if row, ok := impl.ReadTerm(text); ok || len(row) != 0 {
			t.Errorf("%.20q of %d bytes is read as %v, %v", text, len(text), row, ok)
		}
	}
}

func netOfTerm(t *testing.T, row []impl.Mark) impl.Net {
	t.Helper()
	net, ok := impl.NetOfTerm(row)
	if !ok {
		t.Fatalf("%v has no net", row)
	}
	return net
}

func TestP53ATermCarriesAsMuchAsItsNet(t *testing.T) {
	amounts, idle := map[int]int{}, 0
	forWords(impl.MaxPipes, func(w *word) {
		row := w.marks()
		carries := impl.CarriesOf(row)
		if want := w.carries(); carries != want {
			t.Fatalf("%v carries %d, not %d", row, carries, want)
		}
		net := netOfTerm(t, row)
		if value := impl.GreatestValue(net, 0, 1); value != carries {
			t.Fatalf("%v carries %d, and its net %d", row, carries, value)
		}
		if room, ok := impl.LeastRoom(net, 0, 1); !ok || room != carries {
			t.Fatalf("%v carries %d, and the narrowest cut of its net has the room %d, %v", row, carries, room, ok)
		}
		amounts[carries]++
		if w.first != nil && carries > 0 && (w.first.carries() == 0 || w.second.carries() == 0) {
			idle++
		}
	})
	for amount := range 2 * impl.MaxHold {
		if amounts[amount] < 100 {
			t.Fatalf("terms were tried by what they carry: %v", amounts)
		}
	}
	if idle < 100 {
		t.Fatalf("%d terms were tried with a part that carries nothing", idle)
	}
}

func TestP53TheLesserOneOrBothTogether(t *testing.T) {
	for _, c := range []struct {
		text string
		want int
	}{
		{"0:0", 0},
		{"4:9", 4},
		{"3:0.2:0", 2},
		{"2:0.3:0", 2},
		{"2:0.2:0", 2},
		{"3:0+2:0", 5},
		{"4:0.0:0", 0},
		{"0:0+4:0", 4},
		{"0:0+0:9", 0},
		{"(3:2+2:1).4:0", 4},
		{"4:0.4:0+(0:0+4:0).4:0", 8},
		{"4:0+4:0+4:0+4:0+4:0+4:0+4:0", 28},
		{"(4:0+4:0+4:0).(4:0+4:0+4:0+4:0)", 12},
		{"(1:0+1:0).(2:0.(4:0.1:0))", 1},
	} {
		row, ok := impl.ReadTerm(c.text)
		if carries := impl.CarriesOf(row); carries != c.want || !ok {
			t.Errorf("%s carries %d, not %d", c.text, carries, c.want)
		}
	}
}

func TestP53OthersCarryNothing(t *testing.T) {
	for why, row := range noTerms() {
		if carries := impl.CarriesOf(row); carries != -1 {
			t.Errorf("%s: %v carries %d", why, row, carries)
		}
	}
}

func TestP54EachAmountAtItsLeastCost(t *testing.T) {
	parted := 0
	forWords(impl.MaxPipes, func(w *word) {
		row := w.marks()
		costs := impl.CostsOf(row)
		want, ties := w.costs()
		if !slices.Equal(costs, want) {
			t.Fatalf("%v costs %v, not %v", row, costs, want)
		}
		if len(costs) != impl.CarriesOf(row)+1 {
			t.Fatalf("%v carries %d, and costs %v", row, impl.CarriesOf(row), costs)
		}
		for i := 2; i < len(costs); i++ {
			if costs[i]-costs[i-1] < costs[i-1]-costs[i-2] {
				t.Fatalf("%v costs %v", row, costs)
			}
		}
		parted += ties
	})
	if parted < 1000 {
		t.Fatalf("%d amounts were parted in several ways at the same least cost", parted)
	}
}

func TestP54ATermCarriesAtTheCostOfItsNet(t *testing.T) {
	told, beyond := 0, 0
	forWords(impl.MaxPipes-1, func(w *word) {
		row := w.marks()
		costs, net := impl.CostsOf(row), netOfTerm(t, row)
		for amount := range impl.MaxHold + 1 {
			closed := withPipe(t, net, impl.Pipe{From: 1, To: 0, Least: amount, Most: amount})
			flow, ok := impl.CirculationOf(closed)
			if ok != (amount < len(costs)) {
				t.Fatalf("%v costs %v, and %d more makes a circulation: %v", row, costs, amount, ok)
			}
			if !ok {
				beyond++
				continue
			}
			cheap, cheapOk := impl.CheapestFlow(closed, flow)
			cost, costOk := impl.CostOf(closed, cheap)
			if cost != costs[amount] || !cheapOk || !costOk {
				t.Fatalf("%v costs %v, and its net %d for %d", row, costs, cost, amount)
			}
			told++
		}
	})
	if told < 1000 || beyond < 1000 {
		t.Fatalf("the costs of %d amounts were told by the net, and %d are more than is carried", told, beyond)
	}
}

func TestP54CostsArePutTogether(t *testing.T) {
	for _, c := range []struct {
		text string
		want []int
	}{
		{"0:0", []int{0}},
		{"0:9", []int{0}},
		{"1:0", []int{0, 0}},
		{"4:9", []int{0, 9, 18, 27, 36}},
		{"3:2.2:5", []int{0, 7, 14}},
		{"2:5.3:2", []int{0, 7, 14}},
		{"3:2+2:1", []int{0, 1, 2, 4, 6, 8}},
		{"2:1+3:2", []int{0, 1, 2, 4, 6, 8}},
		{"2:3+2:3", []int{0, 3, 6, 9, 12}},
		{"1:9+1:0+1:4", []int{0, 0, 4, 13}},
		{"(3:2+2:1).4:0", []int{0, 1, 2, 4, 6}},
		{"(1:1+1:3).(1:2+1:7)", []int{0, 3, 13}},
		{"4:1.0:0+2:3", []int{0, 3, 6}},
		{"4:1+0:0", []int{0, 1, 2, 3, 4}},
		{"4:1.0:9", []int{0}},
		{"1:9.1:9.1:9.1:9+1:9+1:9", []int{0, 9, 18, 54}},
	} {
		row, ok := impl.ReadTerm(c.text)
		if costs := impl.CostsOf(row); !slices.Equal(costs, c.want) || !ok {
			t.Errorf("%s costs %v, not %v", c.text, costs, c.want)
		}
	}
}

func TestP54OthersCostNothing(t *testing.T) {
	for why, row := range noTerms() {
		if costs := impl.CostsOf(row); len(costs) != 0 {
			t.Errorf("%s: %v costs %v", why, row, costs)
		}
	}
}

func TestP55NetsOfTermsAreFree(t *testing.T) {
	nodes := map[int]int{}
	forWords(impl.MaxPipes, func(w *word) {
		row := w.marks()
		net := netOfTerm(t, row)
		if want := w.net(); !sameNet(net, want) {
			t.Fatalf("the net of %v is %v, not %v", row, net, want)
		}
		if !impl.FreeOk(net) || net.Nodes != w.count(impl.MarkThen)+2 {
			t.Fatalf("the net of %v is %v", row, net)
		}
		at := 0
		for _, mark := range row {
			if mark.Kind != impl.MarkPipe {
				continue
			}
			if p := net.Pipes[at]; p.Most != mark.Hold || p.Cost != mark.Price {
				t.Fatalf("pipe %d of the net of %v is %v", at, row, p)
			}
			at++
		}
		nodes[net.Nodes]++
	})
	for count := 2; count <= impl.MaxNodes; count++ {
		if nodes[count] < 100 {
			t.Fatalf("terms were tried by the nodes of their nets: %v", nodes)
		}
	}
}

func TestP55NodesAreNumberedFromWithoutToWithin(t *testing.T) {
	for _, c := range []struct {
		text string
		want impl.Net
	}{
		{"0:0", netOf(2, ends{0, 1})},
		{"0:0+0:0", netOf(2, ends{0, 1}, ends{0, 1})},
		{"0:0.0:0", netOf(3, ends{0, 2}, ends{2, 1})},
		{"0:0.0:0.0:0", netOf(4, ends{0, 3}, ends{3, 2}, ends{2, 1})},
		{"0:0.(0:0.0:0)", netOf(4, ends{0, 2}, ends{2, 3}, ends{3, 1})},
		{"0:0.0:0.0:0.0:0", netOf(5, ends{0, 4}, ends{4, 3}, ends{3, 2}, ends{2, 1})},
		{"0:0.0:0.(0:0.0:0)", netOf(5, ends{0, 3}, ends{3, 2}, ends{2, 4}, ends{4, 1})},
		{"0:0.(0:0.0:0.0:0)", netOf(5, ends{0, 2}, ends{2, 4}, ends{4, 3}, ends{3, 1})},
		{"0:0.0:0+0:0.0:0", netOf(4, ends{0, 2}, ends{2, 1}, ends{0, 3}, ends{3, 1})},
		{"0:0+0:0.0:0", netOf(3, ends{0, 1}, ends{0, 2}, ends{2, 1})},
		{"(0:0+0:0).0:0", netOf(3, ends{0, 2}, ends{0, 2}, ends{2, 1})},
		{"0:0.(0:0+0:0.0:0)", netOf(4, ends{0, 2}, ends{2, 1}, ends{2, 3}, ends{3, 1})},
		{"(0:0.0:0+0:0).(0:0.0:0)", netOf(5, ends{0, 3}, ends{3, 2}, ends{0, 2}, ends{2, 4}, ends{4, 1})},
		{"0:0.0:0+0:0.0:0.0:0", netOf(5, ends{0, 2}, ends{2, 1}, ends{0, 4}, ends{4, 3}, ends{3, 1})},
	} {
		row, ok := impl.ReadTerm(c.text)
		net, netOk := impl.NetOfTerm(row)
		if !sameNet(net, c.want) || !ok || !netOk {
			t.Errorf("the net of %s is %v, %v, not %v", c.text, net, netOk, c.want)
		}
	}
}

func TestP55OthersHaveNoNet(t *testing.T) {
	for why, row := range noTerms() {
		if net, ok := impl.NetOfTerm(row); net.Nodes != 0 || len(net.Pipes) != 0 || ok {
			t.Errorf("%s: the net of %v is %v, %v", why, row, net, ok)
		}
	}
}

// forTwoWords tries words of a few pipes with each other, and drawn ones of more.
func forTwoWords(try func(a, b *word)) {
	var words []*word
	forWords(3, func(w *word) { words = append(words, w) })
	for _, a := range words {
		for _, b := range words {
			try(a, b)
		}
	}
	words = nil
	forWords(impl.MaxPipes, func(w *word) { words = append(words, w) })
	d := &draws{state: 56}
	for range 3000 {
		try(words[d.below(300)], words[d.below(len(words))])
		try(words[d.below(len(words))], words[d.below(300)])
	}
}

func TestP56TwoTermsCarryTogetherOrAsTheLesserOne(t *testing.T) {
	besides, thens, others := 0, 0, 0
	forTwoWords(func(a, b *word) {
		first, second := a.marks(), b.marks()
		beside := slices.Concat(first, second, []impl.Mark{besideMark()})
		then := slices.Concat(first, second, []impl.Mark{thenMark()})
		pipes := a.count(impl.MarkPipe) + b.count(impl.MarkPipe)
		nodes := a.count(impl.MarkThen) + b.count(impl.MarkThen) + 2
		besideOk, thenOk := impl.TermOk(beside), impl.TermOk(then)
		if besideOk != (pipes <= impl.MaxPipes && nodes <= impl.MaxNodes) || thenOk != (pipes <= impl.MaxPipes && nodes < impl.MaxNodes) {
			t.Fatalf("%v is a term: %v, and %v: %v", beside, besideOk, then, thenOk)
		}
		here, there := impl.CarriesOf(first), impl.CarriesOf(second)
		wantBeside, wantThen := -1, -1
		if besideOk {
			wantBeside = here + there
			besides++
		} else {
			others++
		}
		if thenOk {
			wantThen = min(here, there)
			thens++
			checkAdded(t, impl.CostsOf(then), impl.CostsOf(first), impl.CostsOf(second))
		}
		if carries := impl.CarriesOf(beside); carries != wantBeside {
			t.Fatalf("%v carries %d, not %d", beside, carries, wantBeside)
		}
		if carries := impl.CarriesOf(then); carries != wantThen {
			t.Fatalf("%v carries %d, not %d", then, carries, wantThen)
		}
	})
	if besides < 1000 || thens < 1000 || others < 1000 {
		t.Fatalf("%d pairs beside each other were tried, %d behind each other, and %d that are no terms", besides, thens, others)
	}
}

func checkAdded(t *testing.T, both, first, second []int) {
	t.Helper()
	if len(both) != min(len(first), len(second)) {
		t.Fatalf("%v and %v are behind each other %v", first, second, both)
	}
	for amount, cost := range both {
		if cost != first[amount]+second[amount] {
			t.Fatalf("%v and %v are behind each other %v", first, second, both)
		}
	}
}

func TestWordsOnlyReadAndShareNothing(t *testing.T) {
	forWords(4, func(w *word) {
		row := roomy(w.marks())
		whole := slices.Clone(row[:cap(row)])
		text := impl.TermText(row)
		impl.TermOk(row)
		impl.PipesIn(row)
		impl.CarriesOf(row)
		spoiledAgain(t, func() []int { return impl.CostsOf(row) })
		spoiledWith(t, impl.Pipe{From: -7}, func() []impl.Pipe { return netOfTerm(t, row).Pipes })
		spoiledWith(t, impl.Mark{Kind: -7}, func() []impl.Mark { read, _ := impl.ReadTerm(text); return read })
		if !slices.Equal(row[:cap(row)], whole) {
			t.Fatalf("changed: %v to %v", whole, row[:cap(row)])
		}
	})
}
