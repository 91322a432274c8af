package tests

import (
	"math"
	"slices"
	"strings"
	"testing"

	"loop.example/urnsandballs/impl"
)

// shape is a term as it is built, of which marks, text, length and words are told apart from the program.
type shape struct {
	last          impl.Mark
	first, second *shape
}

var (
	anyMark  = impl.Mark{Kind: impl.MarkAny}
	thenMark = impl.Mark{Kind: impl.MarkThen}
	orMark   = impl.Mark{Kind: impl.MarkOr}
)

// colourMark returns the mark of a colour.
func colourMark(colour int) impl.Mark {
	return impl.Mark{Kind: impl.MarkColour, At: colour}
}

// singleMarks returns all marks of one draw for so many colours.
func singleMarks(colours int) []impl.Mark {
	marks := []impl.Mark{anyMark}
	for colour := range colours {
		marks = append(marks, colourMark(colour))
	}
	return marks
}

func (s *shape) isSingle() bool {
	return s.first == nil
}

func (s *shape) isOr() bool {
	return s.last.Kind == impl.MarkOr
}

func (s *shape) length() int {
	switch s.last.Kind {
	case impl.MarkThen:
		return s.first.length() + s.second.length()
	case impl.MarkOr:
		return s.first.length()
	}
	return 1
}

func (s *shape) marks() []impl.Mark {
	if s.isSingle() {
		return []impl.Mark{s.last}
	}
	return append(append(s.first.marks(), s.second.marks()...), s.last)
}

func (s *shape) text() string {
	if s.isSingle() {
		return map[impl.Mark]string{anyMark: ".", colourMark(0): "a", colourMark(1): "b", colourMark(2): "c"}[s.last]
	}
	first, second := s.first.text(), s.second.text()
	if s.isOr() && s.second.isOr() || !s.isOr() && !s.second.isSingle() {
		second = "(" + second + ")"
	}
	if s.isOr() {
		return first + "|" + second
	}
	if s.first.isOr() {
		first = "(" + first + ")"
	}
	return first + second
}

// back returns the shape from behind.
func (s *shape) back() *shape {
	if s.isSingle() {
		return s
	}
	if s.isOr() {
		return &shape{s.last, s.first.back(), s.second.back()}
	}
	return &shape{s.last, s.second.back(), s.first.back()}
}

// words returns the texts of all words of so many colours that fit, by putting them together and not by splitting them.
func (s *shape) words(colours int) map[string]bool {
	found := map[string]bool{}
	if s.isSingle() {
		for colour := range colours {
			if s.last == anyMark || s.last.At == colour {
				found[wordText([]int{colour})] = true
			}
		}
		return found
	}
	first, second := s.first.words(colours), s.second.words(colours)
	for a := range first {
		for b := range second {
			if s.isOr() {
				found[a], found[b] = true, true
			} else {
				found[a+b] = true
			}
		}
	}
	return found
}

// wordText returns a letter for each draw of a word.
func wordText(word []int) string {
	text := ""
	for _, colour := range word {
		text += string(rune('A' + colour))
	}
	return text
}

// marksText returns a text that no other row of marks with small numbers has.
func marksText(marks []impl.Mark) string {
	text := ""
	for _, mark := range marks {
		text += string([]rune{rune('A' + mark.Kind), rune('0' + mark.At)})
	}
	return text
}

// joinedShapes returns both shapes put together, as far as this makes a term.
func joinedShapes(first, second *shape) []*shape {
	var joined []*shape
	if first.length()+second.length() <= 6 {
		joined = append(joined, &shape{thenMark, first, second})
	}
	if first.length() == second.length() {
		joined = append(joined, &shape{orMark, first, second})
	}
	return joined
}

// shapesBy returns all shapes for so many colours, by their sizes up to the greatest one, where single draws have the size 1 and sizeOf tells that of others.
func shapesBy(colours, most int, sizeOf func(s *shape) int) [][]*shape {
	by := make([][]*shape, most+1)
	for _, mark := range singleMarks(colours) {
		by[1] = append(by[1], &shape{last: mark})
	}
	for size := 2; size <= most; size++ {
		for one := 1; one < size; one++ {
			for other := 1; one+other <= size; other++ {
				by[size] = append(by[size], joinedOfSize(by[one], by[other], size, sizeOf)...)
			}
		}
	}
	return by
}

// joinedOfSize returns all shapes of a size that are put together of these.
func joinedOfSize(first, second []*shape, size int, sizeOf func(s *shape) int) []*shape {
	var found []*shape
	for _, a := range first {
		for _, b := range second {
			for _, s := range joinedShapes(a, b) {
				if sizeOf(s) == size {
					found = append(found, s)
				}
			}
		}
	}
	return found
}

// shapesTo returns all shapes for so many colours with at most so many single draws.
func shapesTo(colours, singles int) []*shape {
	// Of so many single draws there is one fewer of the other marks.
	return slices.Concat(shapesBy(colours, 2*singles-1, func(s *shape) int { return len(s.marks()) })...)
}

// shapesByText returns all shapes for so many colours whose texts have at most so many bytes, by these.
func shapesByText(colours, most int) [][]*shape {
	return shapesBy(colours, most, func(s *shape) int { return len(s.text()) })
}

// picker picks numbers by a fixed rule, the same ones in each run.
type picker uint64

// below returns a number from 0 on, below the end.
func (p *picker) below(end int) int {
	*p = *p*6364136223846793005 + 1442695040888963407
	return int(uint64(*p>>33) % uint64(end))
}

// shape picks a shape of so many draws, with so many single ones, at least as many.
func (p *picker) shape(colours, length, singles int) *shape {
	if singles == 1 {
		return &shape{last: singleMarks(colours)[p.below(colours+1)]}
	}
	// Both sides of a bar need as many single draws as they are long.
	if length == 1 || singles >= 2*length && p.below(2) == 0 {
		left := length + p.below(singles-2*length+1)
		return &shape{orMark, p.shape(colours, length, left), p.shape(colours, length, singles-left)}
	}
	cut := 1 + p.below(length-1)
	left := cut + p.below(singles-length+1)
	return &shape{thenMark, p.shape(colours, cut, left), p.shape(colours, length-cut, singles-left)}
}

// pickedShapes returns a choice of shapes for so many colours of all lengths and numbers of marks, up to MaxMarks.
func pickedShapes(colours int) []*shape {
	pick := picker(colours)
	var shapes []*shape
	for length := 1; length <= 6; length++ {
		for singles := length; singles <= 8; singles++ {
			for range 6 {
				shapes = append(shapes, pick.shape(colours, length, singles))
			}
		}
	}
	return shapes
}

// withShapes visits a choice of shapes for each number of colours, all small ones among them.
func withShapes(visit func(colours int, s *shape)) {
	for colours := 1; colours <= 3; colours++ {
		for _, s := range append(shapesTo(colours, 3), pickedShapes(colours)...) {
			visit(colours, s)
		}
	}
}

// readOf returns the term that a text is.
func readOf(t *testing.T, colours int, text string) []impl.Mark {
	t.Helper()
	term, ok := impl.ReadTerm(colours, text)
	if !ok {
		t.Fatal(colours, text)
	}
	return term
}

// wrongKinds returns numbers that are no kinds of marks.
func wrongKinds() []int {
	return append(extremes(), -4, -3, -2, -1, 4, 5, 6, 7, 256, 1<<32, 1<<32+1)
}

// wrongAts returns numbers that a mark may not have for At if there are so many colours.
func wrongAts(colours int, mark impl.Mark) []int {
	wrongs := append(extremes(), -2, -1, colours, colours+1, 256, 1<<32, 1<<32+1)
	if mark.Kind != impl.MarkColour {
		wrongs = append(wrongs, 1, 2)
	}
	return wrongs
}

// termsMadeWrong returns terms for so many colours with a wrong number, an unknown mark more, or a mark fewer, at each place.
func termsMadeWrong(colours int) [][]impl.Mark {
	a := colourMark(colours - 1)
	var rows [][]impl.Mark
	for _, term := range [][]impl.Mark{{a}, {anyMark}, {a, anyMark, thenMark}, {a, anyMark, orMark}, {a, a, thenMark, anyMark, a, thenMark, orMark}, {a, a, a, orMark, thenMark, a, a, orMark, thenMark}} {
		for place, mark := range term {
			for _, kind := range wrongKinds() {
				wrong, more := slices.Clone(term), slices.Insert(slices.Clone(term), place+1, impl.Mark{Kind: kind})
				wrong[place].Kind = kind
				rows = append(rows, wrong, more)
			}
			for _, at := range wrongAts(colours, mark) {
				wrong := slices.Clone(term)
				wrong[place].At = at
				rows = append(rows, wrong)
			}
			rows = append(rows, slices.Delete(slices.Clone(term), place, place+1))
		}
	}
	return rows
}

// noTerms returns rows that are no terms for so many colours.
func noTerms(colours int) [][]impl.Mark {
	a := impl.Mark{}
	rows := [][]impl.Mark{
		nil, {}, {thenMark}, {orMark}, {thenMark, orMark},
		// Too few parts before a mark, also if there are enough in the end.
		{a, thenMark}, {a, orMark}, {a, thenMark, a}, {a, orMark, a}, {thenMark, a, a}, {orMark, a, a}, {thenMark, a}, {orMark, a}, {a, a, thenMark, thenMark}, {a, a, orMark, orMark}, {a, thenMark, a, a, orMark}, {a, a, thenMark, orMark, a},
		// More than one part left.
		{a, a}, {anyMark, anyMark, anyMark}, {a, a, thenMark, a}, {a, a, a, thenMark}, {a, a, orMark, anyMark}, {a, a, a, orMark}, {a, a, thenMark, a, a, thenMark},
		// Sides of other lengths.
		{a, a, thenMark, a, orMark}, {a, a, a, thenMark, orMark}, {a, a, thenMark, a, a, thenMark, a, thenMark, orMark}, {a, a, orMark, a, a, thenMark, orMark}, {a, a, a, thenMark, orMark, a, thenMark},
		drawsInARow(7), append(drawsInARow(5), append(drawsInARow(2), thenMark)...), append(drawsInARow(6), append(drawsInARow(6), thenMark)...),
		// One draw too many, and a side as long.
		append(drawsInARow(7), a, orMark), append([]impl.Mark{a}, append(drawsInARow(6), thenMark)...),
		sidesInARow(9), append(sidesInARow(8), a), slices.Repeat([]impl.Mark{a}, 15), slices.Repeat([]impl.Mark{a}, 16), slices.Repeat([]impl.Mark{orMark}, 15), make([]impl.Mark, 1000), sidesInARow(1000), drawsInARow(1000), make([]impl.Mark, 10000),
	}
	return append(rows, termsMadeWrong(colours)...)
}

// drawsInARow returns so many draws of the colour 0, one behind the other.
func drawsInARow(many int) []impl.Mark {
	row := []impl.Mark{{}}
	for range many - 1 {
		row = append(row, impl.Mark{}, thenMark)
	}
	return row
}

// sidesInARow returns so many sides of one draw of the colour 0, with bars between them.
func sidesInARow(many int) []impl.Mark {
	row := []impl.Mark{{}}
	for range many - 1 {
		row = append(row, impl.Mark{}, orMark)
	}
	return row
}

// withoutTerms visits numbers of colours with rows of marks that are no terms for so many.
func withoutTerms(visit func(colours int, term []impl.Mark)) {
	for colours := 1; colours <= 3; colours++ {
		for _, row := range noTerms(colours) {
			visit(colours, row)
		}
	}
	for _, colours := range wrongColours() {
		for _, row := range [][]impl.Mark{nil, {{}}, {anyMark}, {colourMark(2)}, {colourMark(3)}, {colourMark(-1)}, drawsInARow(6), drawsInARow(7), sidesInARow(8), {{Kind: -1}}, {{Kind: 4}}, {{Kind: math.MaxInt, At: math.MaxInt}}, {{Kind: math.MinInt, At: math.MinInt}}} {
			visit(colours, row)
		}
	}
}

// Promise 57.

func TestLanguageConstants(t *testing.T) {
	if impl.MarkColour != 0 || impl.MarkAny != 1 || impl.MarkThen != 2 || impl.MarkOr != 3 || impl.MaxMarks != 15 {
		t.Fatal(impl.MarkColour, impl.MarkAny, impl.MarkThen, impl.MarkOr, impl.MaxMarks)
	}
}

func TestOneDrawIsATerm(t *testing.T) {
	for colours := 1; colours <= 3; colours++ {
		for _, mark := range singleMarks(colours) {
			if !impl.TermOk(colours, []impl.Mark{mark}) {
				t.Error(colours, mark)
			}
		}
		for colour := colours; colour <= 4; colour++ {
			if impl.TermOk(colours, []impl.Mark{colourMark(colour)}) {
				t.Error(colours, colour)
			}
		}
	}
}

func TestRowsOfMarksAreTermsIfTheyCanBeBuilt(t *testing.T) {
	for colours := 1; colours <= 3; colours++ {
		built := map[string]bool{}
		for _, s := range shapesTo(colours, 3) {
			built[marksText(s.marks())] = true
		}
		for many := range 7 {
			for _, row := range rowsOf(many, append(singleMarks(colours), thenMark, orMark)) {
				if got := impl.TermOk(colours, row); got != built[marksText(row)] {
					t.Fatal(colours, row, got)
				}
			}
		}
	}
}

func TestAllThatIsBuiltIsATerm(t *testing.T) {
	withShapes(func(colours int, s *shape) {
		if !impl.TermOk(colours, s.marks()) {
			t.Fatal(colours, s.text())
		}
	})
	for _, s := range shapesTo(1, 5) {
		if !impl.TermOk(1, s.marks()) || !impl.TermOk(3, s.marks()) {
			t.Fatal(s.text())
		}
	}
}

func TestTermsWithAnyColourBehindAreTerms(t *testing.T) {
	visited := map[bool]int{}
	withShapes(func(colours int, s *shape) {
		longer := append(s.marks(), anyMark, thenMark)
		want := len(s.marks()) <= 13 && s.length() < 6
		visited[want]++
		if got := impl.TermOk(colours, longer); got != want {
			t.Fatal(colours, s.text(), got)
		}
		if got := impl.LengthOf(colours, longer); want && got != s.length()+1 {
			t.Fatal(colours, s.text(), got)
		}
	})
	if visited[true] < 300 || visited[false] < 100 {
		t.Fatal(visited)
	}
}

func TestTermsOfJustMaxMarksAndMore(t *testing.T) {
	for colours := 1; colours <= 3; colours++ {
		if just := sidesInARow(8); len(just) != impl.MaxMarks || !impl.TermOk(colours, just) {
			t.Error(colours)
		}
		// Rows of one mark more never end in one part, and those of two more would.
		for _, row := range [][]impl.Mark{append(sidesInARow(8), impl.Mark{}), append(sidesInARow(8), orMark), sidesInARow(9)} {
			if impl.TermOk(colours, row) {
				t.Error(colours, len(row))
			}
		}
	}
}

func TestTermsOfJustMaxDrawsAndOneMore(t *testing.T) {
	a := impl.Mark{}
	// All draws are put together from the first one on, from the last one on, or in the middle at last.
	fromLast := func(many int) []impl.Mark {
		return append(slices.Repeat([]impl.Mark{a}, many), slices.Repeat([]impl.Mark{thenMark}, many-1)...)
	}
	inTheMiddle := func(many int) []impl.Mark {
		return append(append(drawsInARow(3), fromLast(many-3)...), thenMark)
	}
	for _, rowOf := range []func(many int) []impl.Mark{drawsInARow, fromLast, inTheMiddle} {
		just, more := rowOf(impl.MaxDraws), rowOf(impl.MaxDraws+1)
		if !impl.TermOk(1, just) || impl.LengthOf(1, just) != impl.MaxDraws || impl.TermOk(1, more) || impl.LengthOf(1, more) != -1 {
			t.Error(just, more)
		}
	}
}

func TestSidesOfABarAreAsLong(t *testing.T) {
	for first := 1; first <= 6; first++ {
		for second := 1; 2*(first+second)-1 <= impl.MaxMarks && second <= 6; second++ {
			row := append(append(drawsInARow(first), drawsInARow(second)...), orMark)
			if got := impl.TermOk(2, row); got != (first == second) {
				t.Error(first, second, got)
			}
		}
	}
}

func TestOthersAreNoTerms(t *testing.T) {
	withoutTerms(func(colours int, term []impl.Mark) {
		if impl.TermOk(colours, term) {
			t.Error(colours, term)
		}
	})
}

// Promise 58.

func TestLengthOf(t *testing.T) {
	a := impl.Mark{}
	cases := []struct {
		term []impl.Mark
		want int
	}{
		{[]impl.Mark{a}, 1}, {[]impl.Mark{anyMark}, 1}, {[]impl.Mark{a, anyMark, orMark}, 1}, {[]impl.Mark{a, anyMark, thenMark}, 2}, {sidesInARow(8), 1},
		{drawsInARow(2), 2}, {drawsInARow(5), 5}, {drawsInARow(6), 6}, {[]impl.Mark{a, a, orMark, anyMark, thenMark, a, thenMark}, 3}, {[]impl.Mark{a, a, thenMark, a, a, thenMark, orMark}, 2}, {[]impl.Mark{a, a, thenMark, a, a, thenMark, thenMark}, 4},
	}
	for _, c := range cases {
		for colours := 1; colours <= 3; colours++ {
			if got := impl.LengthOf(colours, c.term); got != c.want {
				t.Error(colours, c, got)
			}
		}
	}
}

func TestLengthsOfAllThatIsBuilt(t *testing.T) {
	withShapes(func(colours int, s *shape) {
		got := impl.LengthOf(colours, s.marks())
		if got != s.length() || got < 1 || got > 6 {
			t.Fatal(colours, s.text(), got)
		}
		if back := impl.LengthOf(colours, impl.BackTerm(colours, s.marks())); back != got {
			t.Fatal(colours, s.text(), got, back)
		}
	})
}

func TestWordsThatFitHaveTheLength(t *testing.T) {
	withShapes(func(colours int, s *shape) {
		for word := range s.words(colours) {
			if got := impl.LengthOf(colours, s.marks()); got != len(word) {
				t.Fatal(colours, s.text(), word, got)
			}
		}
	})
}

func TestNoLengthOf(t *testing.T) {
	withoutTerms(func(colours int, term []impl.Mark) {
		if got := impl.LengthOf(colours, term); got != -1 {
			t.Error(colours, term, got)
		}
	})
}

// Promise 59.

func TestTermText(t *testing.T) {
	a, b, c := colourMark(0), colourMark(1), colourMark(2)
	cases := []struct {
		want string
		term []impl.Mark
	}{
		{"a", []impl.Mark{a}}, {"b", []impl.Mark{b}}, {"c", []impl.Mark{c}}, {".", []impl.Mark{anyMark}},
		{"ab", []impl.Mark{a, b, thenMark}}, {"a|b", []impl.Mark{a, b, orMark}},
		{"abc", []impl.Mark{a, b, thenMark, c, thenMark}}, {"a(bc)", []impl.Mark{a, b, c, thenMark, thenMark}}, {"ab(c.)", []impl.Mark{a, b, thenMark, c, anyMark, thenMark, thenMark}},
		{"a|b|c", []impl.Mark{a, b, orMark, c, orMark}}, {"a|(b|c)", []impl.Mark{a, b, c, orMark, orMark}}, {"a|b|(c|.)", []impl.Mark{a, b, orMark, c, anyMark, orMark, orMark}},
		{"(a|b)c", []impl.Mark{a, b, orMark, c, thenMark}}, {"a(b|c)", []impl.Mark{a, b, c, orMark, thenMark}}, {"(a|b)(c|.)", []impl.Mark{a, b, orMark, c, anyMark, orMark, thenMark}}, {"(a|b)(c.)", []impl.Mark{a, b, orMark, c, anyMark, thenMark, thenMark}},
		{"ab|c.", []impl.Mark{a, b, thenMark, c, anyMark, thenMark, orMark}}, {"ab|.c|ca", []impl.Mark{a, b, thenMark, anyMark, c, thenMark, orMark, c, a, thenMark, orMark}}, {"ab|(.c|ca)", []impl.Mark{a, b, thenMark, anyMark, c, thenMark, c, a, thenMark, orMark, orMark}},
		{"(a|b|c).|a(b|(c|.))", []impl.Mark{a, b, orMark, c, orMark, anyMark, thenMark, a, b, c, anyMark, orMark, orMark, thenMark, orMark}},
		{"(a|(b|c)).", []impl.Mark{a, b, c, orMark, orMark, anyMark, thenMark}}, {"(ab|..)(b(ca))", []impl.Mark{a, b, thenMark, anyMark, anyMark, thenMark, orMark, b, c, a, thenMark, thenMark, thenMark}},
		{"......", []impl.Mark{anyMark, anyMark, thenMark, anyMark, thenMark, anyMark, thenMark, anyMark, thenMark, anyMark, thenMark}},
	}
	for _, c := range cases {
		if got := impl.TermText(3, c.term); got != c.want {
			t.Error(c, got)
		}
		if got, ok := impl.ReadTerm(3, c.want); !ok || !slices.Equal(got, c.term) {
			t.Error(c, got, ok)
		}
	}
}

func asText(t *testing.T, colours int, s *shape) {
	t.Helper()
	text := impl.TermText(colours, s.marks())
	if text != s.text() {
		t.Fatal(colours, s.text(), text)
	}
	if term, ok := impl.ReadTerm(colours, text); !ok || !slices.Equal(term, s.marks()) {
		t.Fatal(colours, text, term, ok)
	}
}

func TestTextsOfTermsAreRead(t *testing.T) {
	withShapes(func(colours int, s *shape) { asText(t, colours, s) })
	for _, s := range shapesTo(1, 5) {
		asText(t, 1, s)
	}
	for _, s := range shapesTo(2, 4) {
		asText(t, 2, s)
	}
}

func TestNoTermText(t *testing.T) {
	withoutTerms(func(colours int, term []impl.Mark) {
		if got := impl.TermText(colours, term); got != "" {
			t.Error(colours, term, got)
		}
	})
}

// Promise 60.

// asRead checks that a text is read exactly if it is one of those that are known, and as its term.
func asRead(t *testing.T, colours int, text string, known map[string]*shape) {
	t.Helper()
	term, ok := impl.ReadTerm(colours, text)
	want, isKnown := known[text]
	if ok != isKnown || !ok && len(term) != 0 {
		t.Fatalf("%d %q %v %v", colours, text, term, ok)
	}
	if ok && (!slices.Equal(term, want.marks()) || impl.TermText(colours, term) != text) {
		t.Fatalf("%d %q %v", colours, text, term)
	}
}

// knownTexts returns all texts of terms for so many colours with at most so many bytes.
func knownTexts(colours, most int) map[string]*shape {
	known := map[string]*shape{}
	for _, s := range slices.Concat(shapesByText(colours, most)...) {
		known[s.text()] = s
	}
	return known
}

func TestTextsOfSignsAreReadIfTheyAreThoseOfTerms(t *testing.T) {
	for colours, c := range []struct {
		signs string
		most  int
	}{1: {"a.|()", 8}, 2: {"ab.|()", 7}, 3: {"abc.|()", 6}} {
		if colours == 0 {
			continue
		}
		known := knownTexts(colours, c.most)
		for many := range c.most + 1 {
			for _, text := range rowsOf(many, []byte(c.signs)) {
				asRead(t, colours, string(text), known)
			}
		}
	}
}

func TestTextsOfAnyTwoBytes(t *testing.T) {
	var all []byte
	for sign := range 256 {
		all = append(all, byte(sign))
	}
	for colours := 1; colours <= 3; colours++ {
		known := knownTexts(colours, 2)
		for many := range 3 {
			for _, text := range rowsOf(many, all) {
				asRead(t, colours, string(text), known)
			}
		}
	}
}

func TestTextsWithAnyByteInThem(t *testing.T) {
	for colours := 1; colours <= 3; colours++ {
		known := knownTexts(colours, 8)
		for _, text := range []string{"a", "aa", "a|.", "a(aa)", "a|(.|a)", "(a|.)a", "aa|a.", "a(a|a)"} {
			for place := range len(text) {
				for sign := range 256 {
					asRead(t, colours, text[:place]+string([]byte{byte(sign)})+text[place+1:], known)
					asRead(t, colours, text[:place]+string([]byte{byte(sign)})+text[place:], known)
				}
				asRead(t, colours, text[:place]+text[place+1:], known)
				asRead(t, colours, text[:place], known)
			}
			for sign := range 256 {
				asRead(t, colours, text+string([]byte{byte(sign)}), known)
			}
		}
	}
}

func TestReadTextsAreCanonical(t *testing.T) {
	withShapes(func(colours int, s *shape) {
		text := s.text()
		for _, other := range []string{"(" + text + ")", "((" + text + "))", "()" + text, text + "()", "(" + text, text + ")", text + "(", ")" + text, "|" + text, text + "|", text + "||" + text, text + "|()", " " + text, text + " ", text + "\n", text + "\x00", "\xef\xbb\xbf" + text, strings.ToUpper(text) + "A"} {
			if term, ok := impl.ReadTerm(colours, other); ok || len(term) != 0 {
				t.Fatalf("%d %q %v", colours, other, term)
			}
		}
	})
}

func TestNoTexts(t *testing.T) {
	texts := []string{
		"", " ", "(", ")", "|", "()", ")(", "||", "(|)", "|a", "a|", "a||a", "(a|)", "(|a)", "a(|a)", "a|)", "(a", "a)", "(a))", "((a)", "a(", "a((", "a(b", "a(b|c", "a|(b|c", "a)b", "a()b", "(a)(b)", "a.(b|c))",
		// Needless brackets.
		"(a)", "(.)", "((a))", "(a)b", "a(b)", "(a)|b", "a|(b)", "(ab)", "(ab)c", "(ab)|cb", "ab|(cb)", "(a|b)|c", "(a|b)", "((a|b))c", "a((b|c))", "a((bc))", "a(b(c))", "a|((b|c))", "((ab)c).",
		// Sides of other lengths, too many draws, too many marks.
		"a|bb", "aa|b", "a|b|cc", "(a|bc)b", "a(b|cc)", "ab|a(bc)", "aaaaaaa", ".......", "aaa(aaaa)", "aaa(aa(aa))", "a|b|c|a|b|c|a|b|c", "aaaaaaa|aaaaaaa", "(a|b|c|.)(a|b|c|.)(a|b)",
		"A", "B", "d", "e", "1", "0", "*", "a,b", "a b", "a\tb", "a/b", "a&b", "[a|b]c", "{a|b}c", "<a|b>c", "a¦b", "a·b", "\xe1", "a\x80", "\xff", "a\x00", "ａ", "\u2024", "a\u0301",
	}
	for _, text := range texts {
		for _, colours := range append(wrongColours(), 1, 2, 3) {
			if term, ok := impl.ReadTerm(colours, text); ok || len(term) != 0 {
				t.Errorf("%d %q %v", colours, text, term)
			}
		}
	}
}

func TestTextsForTheirColours(t *testing.T) {
	for _, text := range []string{"a", ".", "aa", "a|.", "a(.|a)"} {
		for _, colours := range wrongColours() {
			if term, ok := impl.ReadTerm(colours, text); ok || len(term) != 0 {
				t.Error(colours, text, term)
			}
		}
	}
	for text, needed := range map[string]int{"a": 1, ".": 1, "aa|..": 1, "b": 2, "a|b": 2, "ab": 2, "a(.|b)": 2, "c": 3, "a|c": 3, "bc": 3, "a|(b|c)": 3} {
		for colours := 1; colours <= 3; colours++ {
			if _, ok := impl.ReadTerm(colours, text); ok != (colours >= needed) {
				t.Error(colours, text, ok)
			}
		}
	}
}

func TestTextsOfJustMaxMarksAndMore(t *testing.T) {
	for _, c := range []struct {
		text string
		ok   bool
	}{
		{"a|b|a|b|a|b|a|b", true}, {"a|b|a|b|a|b|a|b|a", false}, {"a|(b|(a|(b|(a|(b|(a|b))))))", true}, {"a|(b|(a|(b|(a|(b|(a|(b|a)))))))", false},
		{"(a|.)(b|.)(a|.)(b|.)", true}, {"(a|.)(b|.)(a|.)(b|.)a", false}, {"(a|.)((b|.)((a|.)(b|.)))", true}, {"ab..|ba..", true}, {"ab...|ba...", false}, {"a|b|a|b|a|b|(a|b)", true},
		{"(a|b)aaaaa", true}, {"(a|b)(aaaaa)", true}, {"(a|b)aaaaaa", false}, {"(a|b|.)aaaaa", true}, {"(a|b|.|a)aaaaa", false},
	} {
		term, ok := impl.ReadTerm(2, c.text)
		if ok != c.ok || ok && impl.TermText(2, term) != c.text {
			t.Error(c, term, ok)
		}
	}
}

// No term has so long a text, as it has at most 15 marks.
func TestTextsOfJustSixtyBytesAndOneMore(t *testing.T) {
	for _, bytes := range []int{59, 60, 61, 62, 64, 1000, 1 << 20} {
		half := (bytes - 1) / 2
		texts := []string{
			strings.Repeat("a", bytes), strings.Repeat(".", bytes), strings.Repeat("(", bytes), strings.Repeat(")", bytes), strings.Repeat("|", bytes), strings.Repeat("\xff", bytes), strings.Repeat("()", bytes/2), strings.Repeat("|a", bytes/2),
			strings.Repeat("a(", half) + "a" + strings.Repeat(")", half), strings.Repeat("(", half) + "a" + strings.Repeat(")", half), strings.Repeat("a|", half) + "a", strings.Repeat("a|(", bytes/3),
			"ab" + strings.Repeat(" ", bytes-2), "a|b" + strings.Repeat("\x00", bytes-3), "(" + strings.Repeat("a", bytes-2) + ")",
		}
		for _, text := range texts {
			if term, ok := impl.ReadTerm(2, text); ok || len(term) != 0 {
				t.Errorf("%d %.70q %v", bytes, text, term)
			}
		}
	}
}

// Promise 61.

func TestFitsOk(t *testing.T) {
	cases := []struct {
		text     string
		fit, not []string
	}{
		{"a", []string{"A"}, []string{"B", "C", "", "AA"}}, {"c", []string{"C"}, []string{"A", "B", "CC"}}, {".", []string{"A", "B", "C"}, []string{"", "AA", "AB"}},
		{"ab", []string{"AB"}, []string{"BA", "AA", "BB", "A", "B", "ABA", "CAB"}}, {"..", []string{"AA", "AB", "CB"}, []string{"", "A", "AAA"}}, {"a.", []string{"AA", "AB", "AC"}, []string{"BA", "CA", "A", "ABC"}},
		// The first side alone, the second side alone, both, and none.
		{"a|b", []string{"A", "B"}, []string{"C", "AB", ""}}, {"a.|.b", []string{"AA", "AC", "BB", "CB", "AB"}, []string{"BA", "CC", "A", "B"}}, {"ab|ba", []string{"AB", "BA"}, []string{"AA", "BB", "CA", "ABBA"}},
		// A bar within the first side of a bar, and within the second one.
		{"a|b|c", []string{"A", "B", "C"}, []string{"AA"}}, {"a|(b|c)", []string{"A", "B", "C"}, []string{"", "BC"}}, {"ab|bc|ca", []string{"AB", "BC", "CA"}, []string{"BA", "AC", "CC"}}, {"ab|(bc|ca)", []string{"AB", "BC", "CA"}, []string{"AA", "CB"}},
		// A bar in the first part, in the second part, and in both.
		{"(a|b)c", []string{"AC", "BC"}, []string{"CC", "AB", "CA", "A", "BCC"}}, {"a(b|c)", []string{"AB", "AC"}, []string{"AA", "BB", "CB", "A", "BC"}}, {"(a|b)(b|c)", []string{"AB", "AC", "BB", "BC"}, []string{"AA", "CB", "CC", "BA"}},
		// A second part of more marks, and parts of other lengths.
		{"a(bc)", []string{"ABC"}, []string{"BCA", "CBA", "AB"}}, {"(ab|ba)c", []string{"ABC", "BAC"}, []string{"ACB", "CAB", "AAC"}}, {"a(bc|cb)", []string{"ABC", "ACB"}, []string{"BCA", "ABB", "ACC"}}, {"(ab|b.)(c(.a))", []string{"ABCBA", "BCCAA", "BBCCA"}, []string{"ACCAA", "ABCAB", "ABCA", "CBCAA"}},
		{"......", []string{"AAAAAA", "ABCABC", "CCCCCC"}, []string{"AAAAA", "AAAAAAA", ""}}, {"abcabc", []string{"ABCABC"}, []string{"ABCABB", "BBCABC", "ABCAB"}},
	}
	for _, c := range cases {
		term := readOf(t, 3, c.text)
		for _, word := range c.fit {
			if !impl.FitsOk(3, term, wordOfText(word)) {
				t.Error(c.text, word)
			}
		}
		for _, word := range c.not {
			if impl.FitsOk(3, term, wordOfText(word)) {
				t.Error(c.text, word)
			}
		}
	}
}

// wordOfText returns the word of a text (wordText).
func wordOfText(text string) []int {
	var word []int
	for _, letter := range text {
		word = append(word, int(letter-'A'))
	}
	return word
}

func TestWordsFitAsTheyArePutTogether(t *testing.T) {
	withShapes(func(colours int, s *shape) {
		words, term := s.words(colours), s.marks()
		for draws := range 7 {
			for _, word := range wordsOf(colours, draws) {
				if got := impl.FitsOk(colours, term, word); got != words[wordText(word)] {
					t.Fatal(colours, s.text(), word, got)
				}
			}
		}
	})
}

func TestWordsFromBehindFitTermsFromBehind(t *testing.T) {
	withShapes(func(colours int, s *shape) {
		term := s.marks()
		back := impl.BackTerm(colours, term)
		for _, word := range wordsOf(colours, s.length()) {
			if impl.FitsOk(colours, term, word) != impl.FitsOk(colours, back, turned(word)) {
				t.Fatal(colours, s.text(), word)
			}
		}
	})
}

func TestWordsOfAnotherLengthNeverFit(t *testing.T) {
	for length := 1; length <= 6; length++ {
		term := slices.Repeat([]impl.Mark{anyMark}, length)
		term = append(term, slices.Repeat([]impl.Mark{thenMark}, length-1)...)
		for draws := range 9 {
			if got := impl.FitsOk(2, term, make([]int, draws)); got != (draws == length) {
				t.Error(length, draws, got)
			}
		}
	}
}

func TestOthersDoNotFit(t *testing.T) {
	never := func(colours int, term []impl.Mark, word []int) {
		if impl.FitsOk(colours, term, word) {
			t.Error(colours, term, word)
		}
	}
	withoutTerms(func(colours int, term []impl.Mark) {
		for _, word := range [][]int{nil, {0}, {1}, {2}, {-1}, {0, 0}, {0, 1}, {0, 0, 0}, make([]int, 5), make([]int, 6), make([]int, 7), {math.MaxInt}, {math.MinInt}} {
			never(colours, term, word)
		}
	})
	for colours := 1; colours <= 3; colours++ {
		for _, text := range []string{"a", ".", "a|.", "..", "...", "....", ".....", "......", ".a|a.", "(a|.)a"} {
			term := readOf(t, colours, text)
			for _, word := range noWords(colours) {
				never(colours, term, word)
			}
		}
	}
}

func TestColoursThatFitAreColours(t *testing.T) {
	for colours := 1; colours <= 3; colours++ {
		for _, colour := range append(extremes(), -1, 0, 1, 2, 3, 4) {
			if got := impl.FitsOk(colours, []impl.Mark{anyMark}, []int{colour}); got != (colour >= 0 && colour < colours) {
				t.Error(colours, colour, got)
			}
		}
	}
}

// Promise 62.

func TestTermWays(t *testing.T) {
	turn, same, out := [][]int{{-1, 1}, {1, -1}}, plainRule(2, 1, 0), plainRule(2, -1, 0)
	cases := []struct {
		urn  []int
		rule [][]int
		text string
		want int
	}{
		{[]int{1, 2}, same, "a", 1}, {[]int{1, 2}, same, "b", 2}, {[]int{1, 2}, same, ".", 3}, {[]int{1, 2}, same, "a|b", 3}, {[]int{1, 2}, same, "ab", 2}, {[]int{1, 2}, same, "ab|ba", 4}, {[]int{1, 2}, same, "aa", 2}, {[]int{1, 2}, same, "..", 12},
		{[]int{2, 1}, turn, "ab", 4}, {[]int{2, 1}, turn, "ba", 3}, {[]int{2, 1}, turn, "aa", 2}, {[]int{2, 1}, turn, "bb", 0}, {[]int{2, 1}, turn, "ab|ba", 7}, {[]int{2, 1}, turn, "..", 9}, {[]int{2, 1}, turn, "a.", 6}, {[]int{2, 1}, turn, ".a", 5},
		// Words that fit both sides are told once.
		{[]int{2, 1}, turn, "a.|.a", 9}, {[]int{2, 1}, turn, ".b|b.", 7}, {[]int{2, 1}, turn, "a|a", 2}, {[]int{2, 1}, turn, "a|.|a", 3}, {[]int{2, 1}, turn, "..|(..|..)", 9}, {[]int{1, 2}, same, "(a|.)(.|b)", 12},
		// Colours without balls, and balls taken out.
		{[]int{0, 3}, out, "a", 0}, {[]int{0, 3}, out, "b", 3}, {[]int{0, 3}, out, ".", 3}, {[]int{0, 3}, out, "bbb", 6}, {[]int{0, 3}, out, "bbbb", 0}, {[]int{0, 3}, out, "....", 0}, {[]int{0, 3}, out, "b|b|b", 3}, {[]int{0, 3}, out, ".b|a.", 6},
		{[]int{0, 0, 0}, plainRule(3, 3, 3), ".", 0}, {[]int{0, 0, 0}, plainRule(3, 3, 3), "a|b|c", 0}, {[]int{0}, [][]int{{3}}, "......", 0}, {[]int{6}, [][]int{{-1}}, "aaaaaa", 720}, {[]int{5}, [][]int{{-1}}, "a.a.a.", 0}, {[]int{1}, [][]int{{-1}}, "a|.", 1},
		{[]int{1, 0}, [][]int{{-1, 3}, {0, 0}}, "ab", 3}, {[]int{1, 0}, [][]int{{-1, 3}, {0, 0}}, "ba", 0}, {[]int{1, 0, 0}, [][]int{{-1, 2, 1}, {0, 3, 0}, {1, 1, 0}}, "acbbab", 1 * 1 * 3 * 6 * 1 * 11},
		{[]int{10, 10, 10}, plainRule(3, 3, 3), "......", 30 * 39 * 48 * 57 * 66 * 75}, {[]int{10, 10, 10}, plainRule(3, 3, 3), "abccba", 10 * 13 * 16 * 19 * 22 * 25}, {[]int{10, 10, 10}, plainRule(3, 3, 0), "(a|b|c).....", 30 * 33 * 36 * 39 * 42 * 45},
	}
	for _, c := range cases {
		if got := impl.TermWays(c.urn, c.rule, readOf(t, len(c.urn), c.text)); got != c.want {
			t.Error(c, got)
		}
	}
}

// withTermRules visits terms with urns and rules of their colours; urns without balls and rules that take balls out are among them.
func withTermRules(visit func(urn []int, rule [][]int, s *shape)) {
	for colours := 1; colours <= 3; colours++ {
		urns := [][]int{make([]int, colours), []int{2, 5, 3}[:colours], []int{0, 10, 1}[:colours], []int{4, 0, 0}[:colours], slices.Repeat([]int{10}, colours)}
		for place, s := range append(shapesTo(colours, 2), pickedShapes(colours)...) {
			for _, rule := range someRules(colours) {
				visit(urns[place%len(urns)], rule, s)
			}
		}
	}
}

func TestTermsHaveTheWaysOfTheirWords(t *testing.T) {
	withTermRules(func(urn []int, rule [][]int, s *shape) {
		want := 0
		for word := range s.words(len(urn)) {
			want += impl.RuleWays(urn, rule, wordOfText(word))
		}
		got := impl.TermWays(urn, rule, s.marks())
		if got != want {
			t.Fatal(urn, rule, s.text(), got, want)
		}
		if all := impl.RuleAll(urn, rule, s.length()); got > all {
			t.Fatal(urn, rule, s.text(), got, all)
		}
	})
}

func TestByMoreOfTheSameDrawsFromBehindHaveAsManyWays(t *testing.T) {
	withShapes(func(colours int, s *shape) {
		term := s.marks()
		back := impl.BackTerm(colours, term)
		for _, urn := range [][]int{{2, 5, 3}, {0, 7, 1}, {10, 10, 10}} {
			for _, step := range steps() {
				rule := impl.SameRule(colours, step)
				if ways, behind := impl.TermWays(urn[:colours], rule, term), impl.TermWays(urn[:colours], rule, back); ways != behind || ways < 0 {
					t.Fatal(urn, step, s.text(), ways, behind)
				}
			}
		}
	})
}

func TestNoTermWays(t *testing.T) {
	none := func(urn []int, rule [][]int, term []impl.Mark) {
		if got := impl.TermWays(urn, rule, term); got != -1 {
			t.Error(urn, rule, term, got)
		}
	}
	withoutRules(func(urn []int, rule [][]int) {
		for _, term := range [][]impl.Mark{{{}}, {anyMark}, {anyMark, {}, orMark}, drawsInARow(2), nil, {colourMark(3)}} {
			none(urn, rule, term)
		}
	})
	withoutTerms(func(colours int, term []impl.Mark) {
		for _, many := range []int{0, 1, 10} {
			urn := slices.Repeat([]int{many}, max(0, min(colours, 8)))
			none(urn, plainRule(len(urn), 0, 0), term)
			none(urn, plainRule(len(urn), -1, 3), term)
		}
	})
	// Terms for more colours than the urn has.
	none([]int{5}, [][]int{{0}}, readOf(t, 2, "b"))
	none([]int{5, 5}, plainRule(2, 0, 0), readOf(t, 3, "a|c"))
	none([]int{5, 5}, nil, readOf(t, 2, "ab|ba"))
}

func TestTermWaysOfJustMaxStartAndOneMore(t *testing.T) {
	for colours := 1; colours <= 3; colours++ {
		for place := range colours {
			urn := make([]int, colours)
			urn[place] = impl.MaxStart
			if got := impl.TermWays(urn, plainRule(colours, 0, 0), []impl.Mark{colourMark(place)}); got != 10 {
				t.Error(urn, got)
			}
			urn[place]++
			if got := impl.TermWays(urn, plainRule(colours, 0, 0), []impl.Mark{colourMark(place)}); got != -1 {
				t.Error(urn, got)
			}
		}
	}
}

// Promise 63.

func TestBackTerm(t *testing.T) {
	for text, want := range map[string]string{
		"a": "a", ".": ".", "ab": "ba", "a|b": "a|b", "abc": "c(ba)", "a(bc)": "cba", "(a|b).a": "a(.(a|b))", "ab|bc": "ba|cb", "a|b|c": "a|b|c", "a|(b|c)": "a|(b|c)", "(ab|..)c": "c(ba|..)", "ab(c.)": ".c(ba)", "(a|b)(b|c)": "(b|c)(a|b)", "a(b|c)": "(b|c)a", "aabbcc": "c(c(b(b(aa))))",
	} {
		if got := impl.BackTerm(3, readOf(t, 3, text)); impl.TermText(3, got) != want {
			t.Error(text, got, want)
		}
	}
}

func TestFromBehindTwiceItIsAsBefore(t *testing.T) {
	withShapes(func(colours int, s *shape) {
		term := s.marks()
		back := impl.BackTerm(colours, term)
		if !impl.TermOk(colours, back) || !slices.Equal(back, s.back().marks()) {
			t.Fatal(colours, s.text(), back)
		}
		if again := impl.BackTerm(colours, back); !slices.Equal(again, term) {
			t.Fatal(colours, s.text(), back, again)
		}
	})
}

func TestNoBackTerm(t *testing.T) {
	withoutTerms(func(colours int, term []impl.Mark) {
		if got := impl.BackTerm(colours, term); len(got) != 0 {
			t.Error(colours, term, got)
		}
	})
}

// Promise 64.

// anyDraws returns the term of so many draws of any colour, one behind the other, but for the last one, which has a mark.
func anyDraws(many int, last impl.Mark) []impl.Mark {
	if many == 1 {
		return []impl.Mark{last}
	}
	term := []impl.Mark{anyMark}
	for range many - 2 {
		term = append(term, anyMark, thenMark)
	}
	return append(term, last, thenMark)
}

func TestAnyColoursHaveAllWays(t *testing.T) {
	for _, urn := range append(urnsWith(0, 1, 10), []int{2, 5, 3}, []int{7, 0, 4}) {
		for _, rule := range someRules(len(urn)) {
			for draws := 1; draws <= 6; draws++ {
				all, byLast := impl.RuleAll(urn, rule, draws), 0
				for colour := range urn {
					byLast += impl.TermWays(urn, rule, anyDraws(draws, colourMark(colour)))
				}
				if got := impl.TermWays(urn, rule, anyDraws(draws, anyMark)); got != all || byLast != all {
					t.Fatal(urn, rule, draws, got, byLast, all)
				}
			}
		}
	}
}

// The general rules: results share no memory with arguments, arguments are not written to, nothing is kept.

func TestTermsAreNewMemory(t *testing.T) {
	touch := impl.Mark{Kind: -77, At: -77}
	for _, text := range []string{"a", "ab", "a|b", "(a|b).a", "a(b|(.|a))", "ab|ba|..", "......", "a|b|a|b|a|b|a|b"} {
		newEachTimeOf(t, touch, func() []impl.Mark { return readOf(t, 2, text) })
		want := readOf(t, 2, text)
		term := roomy(want)
		newEachTimeOf(t, touch, func() []impl.Mark { return impl.BackTerm(2, term) })
		unwritten(t, want, term)
	}
}

func TestLanguageArgumentsAreNotWritten(t *testing.T) {
	rows := [][]impl.Mark{nil, {anyMark}, drawsInARow(6), drawsInARow(7), sidesInARow(8), {{}, {}, thenMark, {}, orMark}, {{}, colourMark(1), orMark, anyMark, thenMark, {}, thenMark}, {{}, {}, thenMark, {}, thenMark, {}, thenMark, orMark}}
	for _, row := range append(rows, termsMadeWrong(2)...) {
		for _, draws := range [][]int{nil, {0}, {0, 1, 0}, {1, 1, 1, 1, 1, 1}, {0, -1}} {
			term, word, urn, rule := roomy(row), roomy(draws), roomy([]int{2, 1}), roomyRule([][]int{{-1, 1}, {1, -1}})
			impl.TermOk(2, term)
			impl.LengthOf(2, term)
			impl.TermText(2, term)
			impl.FitsOk(2, term, word)
			impl.TermWays(urn, rule, term)
			impl.BackTerm(2, term)
			unwritten(t, row, term)
			unwritten(t, draws, word)
			unwritten(t, []int{2, 1}, urn)
			unwrittenRule(t, [][]int{{-1, 1}, {1, -1}}, rule)
		}
	}
}

func TestTermsAreNotKept(t *testing.T) {
	for range 3 {
		term, ok := impl.ReadTerm(2, "(a|b).a")
		if !ok || impl.TermText(2, term) != "(a|b).a" || impl.LengthOf(2, term) != 3 || !impl.FitsOk(2, term, []int{1, 1, 0}) || impl.FitsOk(2, term, []int{1, 1, 1}) {
			t.Fatal(term, ok)
		}
		if ways, back := impl.TermWays([]int{1, 2}, plainRule(2, 1, 0), term), impl.TermText(2, impl.BackTerm(2, term)); ways != 20 || back != "a(.(a|b))" {
			t.Fatal(ways, back)
		}
		impl.ReadTerm(3, "a|(b|c")
		impl.TermOk(3, []impl.Mark{{}, {}, thenMark, orMark})
		impl.TermText(3, sidesInARow(9))
		impl.BackTerm(3, drawsInARow(6))
		impl.TermWays([]int{10, 10}, plainRule(2, 3, 3), drawsInARow(7))
	}
}
