package tests

import (
	"math"
	"slices"
	"testing"

	"loop.example/urnsandballs/impl"
)

func TestWordConstants(t *testing.T) {
	if impl.MaxDraws != 6 {
		t.Fatal(impl.MaxDraws)
	}
}

// Promise 7.

func TestNoDrawsAreAWord(t *testing.T) {
	for colours := 1; colours <= 3; colours++ {
		if !impl.WordOk(colours, nil) || !impl.WordOk(colours, []int{}) {
			t.Error(colours)
		}
	}
}

func TestWords(t *testing.T) {
	for colours := 1; colours <= 3; colours++ {
		for _, word := range allWords(colours) {
			if !impl.WordOk(colours, word) {
				t.Fatal(colours, word)
			}
			if slices.Contains(word, colours-1) && colours > 1 && impl.WordOk(colours-1, word) {
				t.Fatal("a colour past the last one", colours-1, word)
			}
		}
		for _, row := range noWords(colours) {
			if impl.WordOk(colours, row) {
				t.Error(colours, row)
			}
		}
	}
}

func TestWordsOfJustMaxDrawsAndOneMore(t *testing.T) {
	for colours := 1; colours <= 3; colours++ {
		for colour := range colours {
			word := slices.Repeat([]int{colour}, impl.MaxDraws)
			if !impl.WordOk(colours, word) || impl.WordOk(colours, append(word, colour)) {
				t.Error(colours, colour)
			}
		}
	}
}

func TestNoWordsOfNoSuchColours(t *testing.T) {
	for _, colours := range wrongColours() {
		for _, word := range [][]int{nil, {}, {0}, {0, 0, 0}, {-1}, {3}, {colours}, {colours - 1}, make([]int, 6), make([]int, 7)} {
			if impl.WordOk(colours, word) {
				t.Error(colours, word)
			}
		}
	}
}

func TestTurnedWordsAreWords(t *testing.T) {
	for colours := -1; colours <= 4; colours++ {
		var rows [][]int
		for draws := 0; draws <= 4; draws++ {
			rows = append(rows, rowsOf(draws, []int{-1, 0, 1, 2, 3})...)
		}
		for _, row := range append(rows, noWords(2)...) {
			if impl.WordOk(colours, row) != impl.WordOk(colours, turned(row)) {
				t.Fatal(colours, row)
			}
		}
	}
}

// Promise 8.

func TestCounts(t *testing.T) {
	cases := []struct {
		colours    int
		word, want []int
	}{
		{1, nil, []int{0}}, {2, nil, []int{0, 0}}, {3, []int{}, []int{0, 0, 0}},
		{1, []int{0, 0, 0}, []int{3}}, {2, []int{1, 1, 0}, []int{1, 2}}, {2, []int{0}, []int{1, 0}},
		{3, []int{2}, []int{0, 0, 1}}, {3, []int{1, 2, 1, 0, 1, 2}, []int{1, 3, 2}}, {1, make([]int, 6), []int{6}},
	}
	for _, c := range cases {
		if got := impl.CountsOf(c.colours, c.word); !slices.Equal(got, c.want) {
			t.Error(c, got)
		}
	}
}

func TestCountsAreAllDraws(t *testing.T) {
	for colours := 1; colours <= 3; colours++ {
		for _, word := range allWords(colours) {
			counts := impl.CountsOf(colours, word)
			if !impl.CountRowOk(colours, counts) || sumOf(counts) != len(word) {
				t.Fatal(colours, word, counts)
			}
			for colour, count := range counts {
				if count != timesIn(word, colour) {
					t.Fatal(colours, word, counts)
				}
			}
			if impl.WordsWith(colours, counts) < 1 {
				t.Fatal(colours, word, counts)
			}
		}
	}
}

// timesIn returns how often a colour is in a word.
func timesIn(word []int, colour int) int {
	times := 0
	for _, drawn := range word {
		if drawn == colour {
			times++
		}
	}
	return times
}

func TestNoCountsOfNoWords(t *testing.T) {
	for colours := 1; colours <= 3; colours++ {
		for _, row := range noWords(colours) {
			if got := impl.CountsOf(colours, row); got != nil {
				t.Error(colours, row, got)
			}
		}
	}
	for _, colours := range wrongColours() {
		for _, word := range [][]int{nil, {}, {0}, {0, 0}, {3}, {-1}, {colours}, make([]int, 7)} {
			if got := impl.CountsOf(colours, word); got != nil {
				t.Error(colours, word, got)
			}
		}
	}
}

// Promise 9.

func TestWordWays(t *testing.T) {
	cases := []struct {
		urn, word []int
		want      int
	}{
		{[]int{0}, nil, 1}, {[]int{0, 0, 0}, nil, 1}, {[]int{40, 40, 40}, []int{}, 1},
		{[]int{0}, []int{0}, 0}, {[]int{0}, make([]int, 6), 0}, {[]int{1}, []int{0}, 1}, {[]int{1}, []int{0, 0}, 0},
		{[]int{1}, []int{0, 0, 0}, 0}, {[]int{3, 2}, []int{0, 1, 0}, 12}, {[]int{3, 2}, []int{1, 1, 1}, 0},
		{[]int{3, 2}, []int{1, 1, 1, 1, 0}, 0}, {[]int{3, 0, 2}, []int{2, 0, 2}, 6}, {[]int{3, 0, 2}, []int{0, 1, 0}, 0},
		{[]int{6}, make([]int, 6), 720}, {[]int{5}, make([]int, 6), 0},
		{[]int{40}, make([]int, 6), 40 * 39 * 38 * 37 * 36 * 35},
		{[]int{40, 40, 40}, []int{0, 1, 2, 0, 1, 2}, 40 * 39 * 40 * 39 * 40 * 39},
	}
	for _, c := range cases {
		if got := impl.WordWays(c.urn, c.word); got != c.want {
			t.Error(c, got)
		}
	}
}

// wordsDrawn counts each word that comes out if all balls can be told apart, by drawing each ball that is left.
func wordsDrawn(urn []int, many int) map[[6]int]int {
	var balls []int
	for colour, of := range urn {
		balls = append(balls, slices.Repeat([]int{colour}, of)...)
	}
	ways := map[[6]int]int{}
	drawn := make([]bool, len(balls))
	word := [6]int{}
	var draw func(at int)
	draw = func(at int) {
		if at == many {
			ways[word]++
			return
		}
		for ball, colour := range balls {
			if !drawn[ball] {
				drawn[ball], word[at] = true, colour
				draw(at + 1)
				drawn[ball], word[at] = false, 0
			}
		}
	}
	draw(0)
	return ways
}

func TestWordsHaveTheWaysOfBallsThatCanBeToldApart(t *testing.T) {
	for _, urn := range urnsWith(0, 1, 2, 3) {
		for draws := 0; draws <= 6; draws++ {
			if draws > 4 && sumOf(urn) > 6 {
				continue
			}
			ways := wordsDrawn(urn, draws)
			for _, word := range wordsOf(len(urn), draws) {
				if got, want := impl.WordWays(urn, word), ways[[6]int(append(word, 0, 0, 0, 0, 0, 0)[:6])]; got != want {
					t.Fatal(urn, word, got, want)
				}
			}
		}
	}
}

func TestWordsWithTheSameCountsHaveTheSameWays(t *testing.T) {
	for _, urn := range append(urnsWith(0, 1, 2, 4, 7, 40), []int{39, 5, 3}, []int{6, 6, 5}, []int{13, 40, 21}) {
		for _, word := range allWords(len(urn)) {
			ways := impl.WordWays(urn, word)
			if ways < 0 || impl.WordWays(urn, turned(word)) != ways {
				t.Fatal(urn, word, ways)
			}
			for at := 1; at < len(word); at++ {
				other := slices.Clone(word)
				other[at-1], other[at] = other[at], other[at-1]
				if impl.WordWays(urn, other) != ways {
					t.Fatal(urn, word, other)
				}
			}
		}
	}
}

func TestWordsShareTheWaysOfTheirCounts(t *testing.T) {
	for _, urn := range append(urnsWith(0, 1, 5), []int{40, 40, 40}, []int{3, 2, 6}, []int{40, 1, 17}) {
		for draws := 0; draws <= 6; draws++ {
			for at, word := range wordsOf(len(urn), draws) {
				if draws > 4 && at%7 != 0 {
					continue
				}
				counts := impl.CountsOf(len(urn), word)
				all, words := impl.CountWays(urn, counts), impl.WordsWith(len(urn), counts)
				if words < 1 || all%words != 0 || impl.WordWays(urn, word) != all/words {
					t.Fatal(urn, word, all, words)
				}
			}
		}
	}
}

func TestNoWordWays(t *testing.T) {
	withoutWords(func(urn, word []int) {
		if got := impl.WordWays(urn, word); got != -1 {
			t.Error(urn, word, got)
		}
	})
}

// Promise 10.

func TestAllWays(t *testing.T) {
	cases := []struct {
		urn        []int
		many, want int
	}{
		{[]int{0}, 0, 1}, {[]int{0, 0, 0}, 0, 1}, {[]int{0}, 1, 0}, {[]int{0, 0}, 6, 0},
		{[]int{1}, 0, 1}, {[]int{1}, 1, 1}, {[]int{1}, 2, 0}, {[]int{1}, 3, 0}, {[]int{0, 1}, 6, 0},
		{[]int{3, 2}, 3, 60}, {[]int{3, 2}, 5, 120}, {[]int{3, 2}, 6, 0}, {[]int{1, 2, 3}, 6, 720},
		{[]int{40}, 6, 40 * 39 * 38 * 37 * 36 * 35},
		{[]int{40, 40, 40}, 6, 120 * 119 * 118 * 117 * 116 * 115}, {[]int{40, 40, 40}, 1, 120},
	}
	for _, c := range cases {
		if got := impl.AllWays(c.urn, c.many); got != c.want {
			t.Error(c, got)
		}
	}
}

func TestAllWordsHaveTogetherAllWays(t *testing.T) {
	allTogether(t, impl.WordWays, impl.CountWays, impl.AllWays)
}

func TestAllWaysAreLessByOneBallEachDraw(t *testing.T) {
	for _, urn := range manyUrns() {
		for draws := 1; draws <= 6; draws++ {
			before, now := impl.AllWays(urn, draws-1), impl.AllWays(urn, draws)
			if now != before*max(sumOf(urn)-draws+1, 0) {
				t.Fatal(urn, draws, before, now)
			}
		}
	}
}

func TestNoAllWays(t *testing.T) {
	withoutDraws(func(urn []int, many int) {
		if got := impl.AllWays(urn, many); got != -1 {
			t.Error(urn, many, got)
		}
	})
}

// Promise 11.

func TestNoCountsAreARow(t *testing.T) {
	for colours := 1; colours <= impl.MaxColours; colours++ {
		if !impl.CountRowOk(colours, make([]int, colours)) {
			t.Error(colours)
		}
	}
}

func TestCountRows(t *testing.T) {
	for colours := 1; colours <= 3; colours++ {
		for _, counts := range countRows(colours) {
			if !impl.CountRowOk(colours, counts) {
				t.Fatal(colours, counts)
			}
		}
		for _, row := range noCountRows(colours) {
			if impl.CountRowOk(colours, row) {
				t.Error(colours, row)
			}
		}
	}
}

func TestCountRowsOfJustMaxDrawsAndOneMore(t *testing.T) {
	for _, counts := range [][]int{{6}, {6, 0}, {0, 6}, {3, 3}, {2, 2, 2}, {0, 0, 6}, {1, 0, 5}} {
		if !impl.CountRowOk(len(counts), counts) {
			t.Error(counts)
		}
		for colour := range counts {
			more := slices.Clone(counts)
			more[colour]++
			if impl.CountRowOk(len(counts), more) {
				t.Error(more)
			}
		}
	}
}

func TestCountRowsHaveOneCountForEachColour(t *testing.T) {
	for _, colours := range append(wrongColours(), 1, 2, 3) {
		for length := 0; length <= 5; length++ {
			if colours >= 1 && colours <= 3 && length == colours {
				continue
			}
			for _, count := range []int{-1, 0, 1, 7} {
				if row := slices.Repeat([]int{count}, length); impl.CountRowOk(colours, row) {
					t.Error(colours, row)
				}
			}
		}
		if impl.CountRowOk(colours, nil) || impl.CountRowOk(colours, make([]int, 1000)) {
			t.Error(colours)
		}
	}
}

func TestTurnedCountRowsAreCountRows(t *testing.T) {
	for colours := -1; colours <= 5; colours++ {
		for length := 0; length <= 4; length++ {
			for _, row := range rowsOf(length, []int{-1, 0, 1, 3, 4, 6, 7, math.MaxInt, math.MinInt}) {
				if impl.CountRowOk(colours, row) != impl.CountRowOk(colours, turned(row)) {
					t.Fatal(colours, row)
				}
			}
		}
	}
}

// Promise 12.

func TestWordsWith(t *testing.T) {
	cases := []struct {
		counts []int
		want   int
	}{
		{[]int{0}, 1}, {[]int{0, 0}, 1}, {[]int{0, 0, 0}, 1}, {[]int{6}, 1},
		{[]int{2, 1}, 3}, {[]int{3, 3}, 20}, {[]int{0, 6}, 1}, {[]int{1, 1, 1}, 6},
		{[]int{2, 2, 2}, 90}, {[]int{3, 2, 1}, 60}, {[]int{0, 5, 1}, 6}, {[]int{4, 0, 2}, 15},
	}
	for _, c := range cases {
		if got := impl.WordsWith(len(c.counts), c.counts); got != c.want {
			t.Error(c, got)
		}
	}
}

func TestWordsAreCountedByTheirLastDraws(t *testing.T) {
	for colours := 1; colours <= 3; colours++ {
		for _, counts := range countRows(colours) {
			sum := 0
			for colour := range counts {
				if counts[colour] > 0 {
					fewer := slices.Clone(counts)
					fewer[colour]--
					sum += impl.WordsWith(colours, fewer)
				}
			}
			if sumOf(counts) == 0 {
				sum = 1
			}
			words := impl.WordsWith(colours, counts)
			if words != sum || words != impl.WordsWith(colours, turned(counts)) {
				t.Fatal(colours, counts, words, sum)
			}
		}
	}
}

func TestWordsAreCountedOneByOne(t *testing.T) {
	for colours := 1; colours <= 3; colours++ {
		for draws := 0; draws <= 6; draws++ {
			times := map[[3]int]int{}
			for _, word := range wordsOf(colours, draws) {
				counts := [3]int{}
				for _, colour := range word {
					counts[colour]++
				}
				times[counts]++
			}
			for counts, want := range times {
				if got := impl.WordsWith(colours, counts[:colours]); got != want {
					t.Fatal(colours, counts, got, want)
				}
			}
		}
	}
}

func TestNoWordsWith(t *testing.T) {
	for colours := 1; colours <= 3; colours++ {
		for _, row := range noCountRows(colours) {
			if got := impl.WordsWith(colours, row); got != -1 {
				t.Error(colours, row, got)
			}
		}
	}
	for _, colours := range append(wrongColours(), 1, 2, 3) {
		for length := 0; length <= 5; length++ {
			if length == colours && colours >= 1 && colours <= 3 {
				continue
			}
			if got := impl.WordsWith(colours, make([]int, length)); got != -1 {
				t.Error(colours, length, got)
			}
		}
		if got := impl.WordsWith(colours, nil); got != -1 {
			t.Error(colours, got)
		}
	}
}

// Promise 13.

func TestCountWays(t *testing.T) {
	cases := []struct {
		urn, counts []int
		want        int
	}{
		{[]int{0}, []int{0}, 1}, {[]int{0, 0, 0}, []int{0, 0, 0}, 1}, {[]int{40, 0}, []int{0, 0}, 1},
		{[]int{0}, []int{1}, 0}, {[]int{3, 2}, []int{2, 1}, 36}, {[]int{3, 2}, []int{4, 0}, 0}, {[]int{3, 2}, []int{0, 2}, 2},
		{[]int{3, 2}, []int{3, 2}, 120}, {[]int{3, 2}, []int{3, 3}, 0}, {[]int{0, 0}, []int{3, 3}, 0},
		{[]int{6}, []int{6}, 720}, {[]int{2, 2, 2}, []int{2, 2, 2}, 720}, {[]int{2, 0, 2}, []int{1, 0, 1}, 8},
		{[]int{40, 40, 40}, []int{2, 2, 2}, 90 * 1560 * 1560 * 1560},
	}
	for _, c := range cases {
		if got := impl.CountWays(c.urn, c.counts); got != c.want {
			t.Error(c, got)
		}
	}
}

func TestCountsBeyondTheBallsHaveNoWays(t *testing.T) {
	for _, urn := range append(urnsWith(0, 1, 2, 5), []int{6, 6, 6}, []int{40, 40, 40}, []int{3, 6, 4}) {
		for _, counts := range countRows(len(urn)) {
			beyond := false
			for colour, count := range counts {
				beyond = beyond || count > urn[colour]
			}
			ways, words := impl.CountWays(urn, counts), impl.WordsWith(len(urn), counts)
			if ways < 0 || (ways == 0) != beyond || ways%words != 0 {
				t.Fatal(urn, counts, ways, words)
			}
			if apart := fallingBalls(urn, counts); ways != words*apart {
				t.Fatal(urn, counts, ways, words, apart)
			}
		}
	}
}

// fallingBalls returns the product of the balls of each colour, as many as are counted, each less by one.
func fallingBalls(urn, counts []int) int {
	product := 1
	for colour, count := range counts {
		for taken := range count {
			product *= max(urn[colour]-taken, 0)
		}
	}
	return product
}

func TestNoCountWays(t *testing.T) {
	withoutCounts(func(urn, counts []int) {
		if got := impl.CountWays(urn, counts); got != -1 {
			t.Error(urn, counts, got)
		}
	})
}

// Promise 14.

func TestEachPlaceOfAWordIsAsTheFirstOne(t *testing.T) {
	for _, urn := range append(urnsWith(0, 1, 2, 3, 20, 40), []int{7, 1, 12}) {
		words := wordsOf(len(urn), 3)
		for colour := range urn {
			ways := [3]int{}
			for _, word := range words {
				for place := range ways {
					if word[place] == colour {
						ways[place] += impl.WordWays(urn, word)
					}
				}
			}
			if ways[0] != ways[2] || ways[0] != ways[1] {
				t.Fatal(urn, colour, ways)
			}
			if want := urn[colour] * max(sumOf(urn)-1, 0) * max(sumOf(urn)-2, 0); ways[0] != want {
				t.Fatal(urn, colour, ways, want)
			}
		}
	}
}

// Promise 15.

func TestSameApart(t *testing.T) {
	cases := []struct {
		urn  []int
		want int
	}{
		{[]int{0}, 0}, {[]int{0, 0, 0}, 0}, {[]int{1}, 0}, {[]int{1, 1, 1}, 0}, {[]int{2}, 2}, {[]int{0, 0, 2}, 2},
		{[]int{3, 2}, 8}, {[]int{2, 3}, 8}, {[]int{1, 2, 3}, 8}, {[]int{40}, 1560}, {[]int{40, 40, 40}, 4680},
	}
	for _, c := range cases {
		if got := impl.SameApart(c.urn); got != c.want {
			t.Error(c, got)
		}
	}
}

func TestSameAndDifferentAreAllTwo(t *testing.T) {
	for _, urn := range manyUrns() {
		same, different, withBalls := 0, 0, 0
		for first := range urn {
			for second := range urn {
				if ways := impl.WordWays(urn, []int{first, second}); first == second {
					same += ways
				} else {
					different += ways
				}
			}
			if urn[first] > 0 {
				withBalls++
			}
		}
		got, all := impl.SameApart(urn), impl.AllWays(urn, 2)
		if got != same || got+different != all || got > all {
			t.Fatal(urn, got, same, different, all)
		}
		if (got == all) != (withBalls < 2) {
			t.Fatal(urn, got, all)
		}
	}
}

func TestNothingSameApart(t *testing.T) {
	for _, row := range noUrns() {
		if got := impl.SameApart(row); got != -1 {
			t.Error(row, got)
		}
	}
}

// The general rules: results share no memory with arguments, arguments are not written to, nothing is kept.

func TestCountsAreNewMemory(t *testing.T) {
	word := append(make([]int, 0, 12), 1, 0, 1)
	for range 2 {
		counts := impl.CountsOf(2, word)
		others := impl.CountsOf(2, word)
		if !slices.Equal(counts, []int{1, 2}) {
			t.Fatal(counts)
		}
		spareTouched(counts)
		if !slices.Equal(others, []int{1, 2}) {
			t.Fatal("both results share memory", others)
		}
		spareTouched(others)
	}
	unwritten(t, []int{1, 0, 1}, word)
}

func TestWordArgumentsAreNotWritten(t *testing.T) {
	rows := append(urnsWith(0, 2, 40), noUrns()...)
	for _, row := range rows {
		for _, other := range [][]int{nil, {0}, {0, 0, 0}, {2, 1, 2}, {1, 0}, {2, 2, 2}, {7}, {-1, 2}} {
			urn := roomy(row)
			word := roomy(other)
			for colours := 0; colours <= 4; colours++ {
				impl.WordOk(colours, word)
				impl.CountsOf(colours, word)
				impl.CountRowOk(colours, word)
				impl.WordsWith(colours, word)
			}
			impl.WordWays(urn, word)
			impl.CountWays(urn, word)
			impl.AllWays(urn, 3)
			impl.SameApart(urn)
			unwritten(t, row, urn)
			unwritten(t, other, word)
		}
	}
}
