package tests

import (
	"math"
	"slices"
	"testing"
)

// turned returns a row from its last element to its first one.
func turned[T any](row []T) []T {
	back := slices.Clone(row)
	slices.Reverse(back)
	return back
}

// sumOf adds all numbers of a row.
func sumOf(row []int) int {
	sum := 0
	for _, n := range row {
		sum += n
	}
	return sum
}

// sumByNumber adds all ways, each times its number.
func sumByNumber(ways []int) int {
	sum := 0
	for number, way := range ways {
		sum += number * way
	}
	return sum
}

// factorial returns the product of all numbers from 1 up to one.
func factorial(number int) int {
	product := 1
	for n := 2; n <= number; n++ {
		product *= n
	}
	return product
}

// power returns a number times itself so many times, 1 for none.
func power(number, many int) int {
	product := 1
	for range many {
		product *= number
	}
	return product
}

// lowestTerms reports whether no number from 2 on divides both, by trying each.
func lowestTerms(over, under int) bool {
	for n := 2; n <= max(over, under); n++ {
		if over%n == 0 && under%n == 0 {
			return false
		}
	}
	return true
}

// rowsOf returns all rows of so many elements, each one of those given.
func rowsOf[T any](many int, elements []T) [][]T {
	rows := [][]T{{}}
	for range many {
		var longer [][]T
		for _, row := range rows {
			for _, element := range elements {
				longer = append(longer, append(slices.Clone(row), element))
			}
		}
		rows = longer
	}
	return rows
}

// urnsWith returns all urns of 1..3 colours with these numbers of balls of a colour.
func urnsWith(numbers ...int) [][]int {
	var urns [][]int
	for colours := 1; colours <= 3; colours++ {
		urns = append(urns, rowsOf(colours, numbers)...)
	}
	return urns
}

// manyUrns returns each urn of one or two colours, and a choice of those of three.
func manyUrns() [][]int {
	var all []int
	for n := 0; n <= 40; n++ {
		all = append(all, n)
	}
	urns := append(rowsOf(1, all), rowsOf(2, all)...)
	return append(urns, rowsOf(3, []int{0, 1, 2, 3, 6, 10, 19, 20, 21, 39, 40})...)
}

// noUrns returns rows that are no urns: too few or too many colours, or a number below 0 or above 40 at each place.
func noUrns() [][]int {
	rows := [][]int{nil, {}, {0, 0, 0, 0}, {1, 2, 3, 4}, {40, 40, 40, 40}, make([]int, 1000)}
	for _, wrong := range []int{-1, 41, -40, 80, math.MinInt, math.MinInt + 1, math.MaxInt, math.MaxInt - 1} {
		for colours := 1; colours <= 3; colours++ {
			for place := range colours {
				row := make([]int, colours)
				row[place] = wrong
				other := slices.Repeat([]int{5}, colours)
				other[place] = wrong
				rows = append(rows, row, other)
			}
		}
	}
	// Each two of these sum up to a number that an urn could have, or wrap around.
	return append(rows, []int{-5, 10}, []int{41, -1}, []int{math.MaxInt, math.MaxInt, 2}, []int{math.MinInt, math.MinInt})
}

// extremes returns numbers that are no colour of any urn and no number of balls that may be put in.
func extremes() []int {
	return []int{math.MinInt, math.MinInt + 1, math.MinInt + 40, math.MinInt32, -1000, 1000, math.MaxInt32, math.MaxInt - 40, math.MaxInt - 1, math.MaxInt}
}

// numbersTo returns the numbers from 0 up to one less than the given one.
func numbersTo(end int) []int {
	var row []int
	for n := range end {
		row = append(row, n)
	}
	return row
}

// wordsOf returns all words of so many colours and draws.
func wordsOf(colours, draws int) [][]int {
	return rowsOf(draws, numbersTo(colours))
}

// allWords returns all words of so many colours with at most 6 draws.
func allWords(colours int) [][]int {
	var words [][]int
	for draws := 0; draws <= 6; draws++ {
		words = append(words, wordsOf(colours, draws)...)
	}
	return words
}

// noWords returns rows that are no words of so many colours: too long, or with a colour below 0 or past the last one at each place.
func noWords(colours int) [][]int {
	rows := [][]int{make([]int, 7), make([]int, 8), make([]int, 1000), {-1, 1}, {colours, 0, -colours}}
	for _, wrong := range append(extremes(), -colours, -1, colours, colours+1) {
		for draws := 1; draws <= 6; draws++ {
			for place := range draws {
				row := make([]int, draws)
				row[place] = wrong
				rows = append(rows, row)
			}
		}
	}
	return rows
}

// countRows returns all rows of counts of so many colours, together at most 6.
func countRows(colours int) [][]int {
	return slices.DeleteFunc(rowsOf(colours, numbersTo(7)), func(row []int) bool { return sumOf(row) > 6 })
}

// noCountRows returns rows of so many numbers that are no counts: with a number below 0, or together more than 6.
func noCountRows(colours int) [][]int {
	rows := slices.DeleteFunc(rowsOf(colours, []int{0, 1, 2, 3, 4, 5, 6, 7}), func(row []int) bool { return sumOf(row) <= 6 })
	wrongs := append(extremes(), -7, -6, -1, 7, 8)
	for place := range colours {
		for _, wrong := range wrongs {
			for _, other := range []int{0, 1, 3, 6} {
				row := slices.Repeat([]int{other}, colours)
				row[place] = wrong
				rows = append(rows, row)
			}
		}
	}
	// The sums of some of these wrap around to numbers that are in range.
	big := []int{math.MinInt, math.MinInt + 1, -1, 0, 2, math.MaxInt / 2, math.MaxInt/2 + 1, math.MaxInt - 1, math.MaxInt}
	return append(rows, slices.DeleteFunc(rowsOf(colours, big), func(row []int) bool {
		return !slices.ContainsFunc(row, func(n int) bool { return n < 0 || n > 2 })
	})...)
}

// wrongColours returns numbers of colours that there may not be.
func wrongColours() []int {
	return append(extremes(), -3, -1, 0, 4, 5, 6, 7)
}

// wrongAndRight returns numbers from very small to very large ones, with all that balls, boxes, groups, draws and runs may have among them.
func wrongAndRight() []int {
	numbers := append(extremes(), -40, -8, -7, -6, -2, -1, 12, 14, 40, math.MinInt/2, math.MinInt+7, math.MaxInt/2, math.MaxInt/2+1, math.MaxInt-7)
	return append(numbers, numbersTo(10)...)
}

// withoutPairsOf visits all pairs of numbers that are not among those given.
func withoutPairsOf(with func(visit func(a, b int)), visit func(a, b int)) {
	may := map[[2]int]bool{}
	with(func(a, b int) { may[[2]int{a, b}] = true })
	for _, row := range rowsOf(2, wrongAndRight()) {
		if !may[[2]int(row)] {
			visit(row[0], row[1])
		}
	}
}

// withoutWords visits urns with words of which one at least is none.
func withoutWords(visit func(urn, word []int)) {
	for _, urn := range urnsWith(0, 1, 40) {
		for _, row := range noWords(len(urn)) {
			visit(urn, row)
		}
	}
	for _, row := range noUrns() {
		for _, word := range [][]int{nil, {}, {0}, {0, 0}, {1}, {2, 1}, {3}, {-1}, make([]int, 6), make([]int, 7)} {
			visit(row, word)
		}
	}
	// What is wrong is checked first, also behind a colour that has run out.
	for _, word := range [][]int{{0, 0, 2}, {0, -1}, {0, math.MinInt}, {0, math.MaxInt}, make([]int, 7)} {
		visit([]int{0, 1}, word)
	}
}

// withoutDraws visits urns with numbers of draws of which one at least is none.
func withoutDraws(visit func(urn []int, many int)) {
	for _, urn := range urnsWith(0, 1, 7, 40) {
		for _, many := range append(extremes(), -6, -1, 7, 8) {
			visit(urn, many)
		}
	}
	for _, row := range noUrns() {
		for _, many := range append(extremes(), -1, 0, 1, 2, 6, 7) {
			visit(row, many)
		}
	}
}

// withoutCounts visits urns with counts of which one at least is none, or which are not of as many colours.
func withoutCounts(visit func(urn, counts []int)) {
	for _, urn := range urnsWith(0, 1, 40) {
		for _, row := range noCountRows(len(urn)) {
			visit(urn, row)
		}
		for length := 0; length <= 5; length++ {
			if length != len(urn) {
				visit(urn, make([]int, length))
				visit(urn, slices.Repeat([]int{1}, length))
			}
		}
		visit(urn, nil)
	}
	for _, row := range noUrns() {
		for length := 0; length <= 5; length++ {
			visit(row, make([]int, length))
			visit(row, slices.Repeat([]int{1}, length))
			visit(row, slices.Repeat([]int{math.MaxInt}, length))
		}
		visit(row, nil)
		visit(row, row)
	}
}

// plainRule returns the rule of so many colours with one number for the colour of each row itself, and one for all others.
func plainRule(colours, own, others int) [][]int {
	rule := make([][]int, colours)
	for colour := range rule {
		rule[colour] = slices.Repeat([]int{others}, colours)
		rule[colour][colour] = own
	}
	return rule
}

// rulesOf returns all rules of so many colours with some of these numbers for the colour of each row itself, and of those for all others.
func rulesOf(colours int, own, others []int) [][][]int {
	rules := [][][]int{{}}
	for colour := range colours {
		var longer [][][]int
		for _, rule := range rules {
			for _, number := range own {
				for _, row := range rowsOf(colours-1, others) {
					longer = append(longer, append(slices.Clone(rule), slices.Insert(slices.Clone(row), colour, number)))
				}
			}
		}
		rules = longer
	}
	return rules
}

// someRules returns a choice of rules of so many colours, even ones and others, among them those with the same number everywhere.
func someRules(colours int) [][][]int {
	rules := [][][]int{plainRule(colours, -1, 0), plainRule(colours, -1, 3), plainRule(colours, 0, 0), plainRule(colours, 0, 1), plainRule(colours, 1, 0), plainRule(colours, 2, 2), plainRule(colours, 3, 0), plainRule(colours, 3, 3)}
	switch colours {
	case 2:
		rules = append(rules, [][]int{{-1, 1}, {1, -1}}, [][]int{{-1, 3}, {2, 0}}, [][]int{{1, 0}, {0, 2}}, [][]int{{-1, 0}, {0, 0}}, [][]int{{0, 3}, {1, 2}}, [][]int{{-1, 2}, {0, 3}})
	case 3:
		rules = append(rules, [][]int{{-1, 1, 0}, {0, -1, 1}, {1, 0, -1}}, [][]int{{-1, 2, 1}, {0, 2, 0}, {1, 1, 0}}, [][]int{{2, 0, 1}, {3, 0, 0}, {1, 1, 1}}, [][]int{{-1, 0, 2}, {0, 3, 0}, {1, 0, 0}}, [][]int{{0, 1, 2}, {0, 0, 0}, {3, 2, -1}})
	}
	return rules
}

// noStarts returns rows that are no urns, and urns that hold more than 10 balls of a colour, at each place.
func noStarts() [][]int {
	rows := noUrns()
	for _, many := range []int{11, 12, 39, 40} {
		for colours := 1; colours <= 3; colours++ {
			rows = append(rows, slices.Repeat([]int{many}, colours))
			for place := range colours {
				row := slices.Repeat([]int{10}, colours)
				row[place] = many
				other := make([]int, colours)
				other[place] = many
				rows = append(rows, row, other)
			}
		}
	}
	return rows
}

// noRules returns what is no rule of so many colours.
func noRules(colours int) [][][]int {
	return slices.Concat(rulesOfWrongLength(colours), rulesWithOneWrong(colours), rulesThatWrap(colours))
}

// rulesOfWrongLength returns rules with too few or too many rows, or with a row that is nil, too short or too long.
func rulesOfWrongLength(colours int) [][][]int {
	rules := [][][]int{nil, {}, make([][]int, colours), slices.Repeat([][]int{make([]int, colours)}, 1000)}
	for length := range 6 {
		if length == colours {
			continue
		}
		rules = append(rules, plainRule(length, 0, 0), plainRule(length, -1, 1), slices.Repeat([][]int{make([]int, colours)}, length))
		for place := range colours {
			rule := plainRule(colours, 1, 0)
			rule[place] = make([]int, length)
			rules = append(rules, rule)
		}
	}
	for place := range colours {
		without, long := plainRule(colours, 0, 1), plainRule(colours, 0, 1)
		without[place], long[place] = nil, make([]int, 1000)
		rules = append(rules, without, long)
	}
	return rules
}

// rulesWithOneWrong returns rules with a number that may not be there at each place, -1 beside the colour of the row among them.
func rulesWithOneWrong(colours int) [][][]int {
	var rules [][][]int
	for place := range colours * colours {
		row, column := place/colours, place%colours
		wrongs := append(extremes(), -3, -2, 4, 5, 40)
		if row != column {
			wrongs = append(wrongs, -1)
		}
		for _, wrong := range wrongs {
			for _, rule := range [][][]int{plainRule(colours, 0, 0), plainRule(colours, -1, 0), plainRule(colours, 3, 3)} {
				rule[row][column] = wrong
				rules = append(rules, rule)
			}
		}
	}
	return rules
}

// rulesThatWrap returns rules whose numbers have sums or products that wrap around, to ones that are in range among them.
func rulesThatWrap(colours int) [][][]int {
	var rules [][][]int
	for _, row := range rowsOf(colours, []int{math.MinInt, -1, 2, math.MaxInt/2 + 1, math.MaxInt}) {
		if slices.ContainsFunc(row, func(n int) bool { return n < -1 || n > 3 }) {
			last := plainRule(colours, 0, 0)
			last[colours-1] = row
			rules = append(rules, slices.Repeat([][]int{row}, colours), last)
		}
	}
	return rules
}

// withoutRules visits urns with rules of which one at least may not be used, or which are not of as many colours.
func withoutRules(visit func(urn []int, rule [][]int)) {
	for _, urn := range urnsWith(0, 1, 10) {
		for _, rule := range noRules(len(urn)) {
			visit(urn, rule)
		}
	}
	for _, row := range noStarts() {
		for colours := range 6 {
			visit(row, plainRule(colours, -1, 0))
			visit(row, plainRule(colours, 3, 3))
		}
		visit(row, nil)
		visit(row, slices.Repeat([][]int{row}, len(row)))
	}
}

// allTogether checks that the ways of all words of a length, and those of all counts of so many draws, are together all ways.
func allTogether(t *testing.T, wordWays, countWays func(urn, row []int) int, allWays func(urn []int, many int) int) {
	t.Helper()
	for _, urn := range append(urnsWith(0, 1, 3, 6), []int{40, 40, 40}, []int{2, 5, 1}, []int{17, 0, 40}) {
		for draws := 0; draws <= 6; draws++ {
			byWords, byCounts := 0, 0
			for _, word := range wordsOf(len(urn), draws) {
				byWords += wordWays(urn, word)
			}
			for _, counts := range countRows(len(urn)) {
				if sumOf(counts) == draws {
					byCounts += countWays(urn, counts)
				}
			}
			if all := allWays(urn, draws); all != byWords || all != byCounts {
				t.Fatal(urn, draws, all, byWords, byCounts)
			}
		}
	}
}

// spareTouched writes all over a row, its spare capacity too, so that memory it shares with another shows.
func spareTouched(row []int) {
	touchedWith(row, -77)
}

// touchedWith writes an element all over a row, its spare capacity too.
func touchedWith[T any](row []T, element T) {
	all := row[:cap(row)]
	for i := range all {
		all[i] = element
	}
}

// newEachTime checks that each result is new memory: writing all over one leaves another one, and the next one, as it is.
func newEachTime(t *testing.T, result func() []int) {
	t.Helper()
	newEachTimeOf(t, -77, result)
}

// newEachTimeOf checks that each result is new memory, by an element that is in none of them.
func newEachTimeOf[T comparable](t *testing.T, element T, result func() []T) {
	t.Helper()
	touched, other := result(), result()
	want := slices.Clone(other)
	touchedWith(touched, element)
	if next := result(); !slices.Equal(other, want) || !slices.Equal(next, want) {
		t.Fatal(want, other, next)
	}
}

// roomy returns a row with spare capacity of zero values.
func roomy[T any](row []T) []T {
	return append(make([]T, 0, len(row)+8), row...)
}

// unwritten checks that a row, given with spare capacity of zero values, is as it was.
func unwritten[T comparable](t *testing.T, want, row []T) {
	t.Helper()
	var zero T
	if !slices.Equal(row, want) || slices.ContainsFunc(row[len(row):cap(row)], func(element T) bool { return element != zero }) {
		t.Fatal(want, row[:cap(row)])
	}
}
