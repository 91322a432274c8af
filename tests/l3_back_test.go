package tests

import (
	"slices"
	"testing"

	"loop.example/urnsandballs/impl"
)

// Promise 16.

func TestBackWays(t *testing.T) {
	cases := []struct {
		urn, word []int
		want      int
	}{
		{[]int{0}, nil, 1}, {[]int{0, 0, 0}, nil, 1}, {[]int{3}, nil, 1}, {[]int{40, 40, 40}, []int{}, 1},
		{[]int{0}, []int{0}, 0}, {[]int{0}, make([]int, 6), 0}, {[]int{0, 5}, []int{1, 0, 1}, 0}, {[]int{0, 5}, []int{1, 1}, 25},
		{[]int{1}, make([]int, 6), 1}, {[]int{2}, make([]int, 6), 64}, {[]int{0, 0, 7}, []int{2}, 7},
		{[]int{3, 2}, []int{0, 1, 0}, 18}, {[]int{3, 2}, []int{1, 1, 1}, 8}, {[]int{3, 0, 2}, []int{2, 0, 2}, 12},
		{[]int{2, 3, 5}, []int{2, 1, 0, 2, 1, 0}, 900}, {[]int{1, 2, 3}, []int{2, 2, 1, 0}, 18},
		{[]int{40}, make([]int, 6), 4096000000}, {[]int{40, 40, 40}, []int{0, 1, 2, 0, 1, 2}, 4096000000},
	}
	for _, c := range cases {
		if got := impl.BackWays(c.urn, c.word); got != c.want {
			t.Error(c, got)
		}
	}
}

// wordsShown counts each word that is shown if all balls can be told apart, by drawing each ball each time.
func wordsShown(urn []int, many int) map[[6]int]int {
	ways := map[[6]int]int{}
	word := [6]int{}
	var draw func(at int)
	draw = func(at int) {
		if at == many {
			ways[word]++
			return
		}
		for colour, balls := range urn {
			for range balls {
				word[at] = colour
				draw(at + 1)
				word[at] = 0
			}
		}
	}
	draw(0)
	return ways
}

func TestShownWordsHaveTheWaysOfBallsThatCanBeToldApart(t *testing.T) {
	for _, urn := range urnsWith(0, 1, 2, 3) {
		for draws := 0; draws <= 6; draws++ {
			if draws > 4 && sumOf(urn) > 4 {
				continue
			}
			ways := wordsShown(urn, draws)
			for _, word := range wordsOf(len(urn), draws) {
				if got, want := impl.BackWays(urn, word), ways[[6]int(append(word, 0, 0, 0, 0, 0, 0)[:6])]; got != want {
					t.Fatal(urn, word, got, want)
				}
			}
		}
	}
}

func TestPutBackNoDrawChangesTheNextOne(t *testing.T) {
	for _, urn := range append(urnsWith(0, 1, 2, 7, 40), []int{39, 5, 3}, []int{6, 6, 5}, []int{13, 40, 21}) {
		for _, word := range allWords(len(urn)) {
			ways := impl.BackWays(urn, word)
			if ways < 0 || impl.BackWays(urn, turned(word)) != ways {
				t.Fatal(urn, word, ways)
			}
			for cut := range len(word) + 1 {
				if first, second := impl.BackWays(urn, word[:cut]), impl.BackWays(urn, word[cut:]); ways != first*second {
					t.Fatal(urn, word, cut, ways, first, second)
				}
			}
			if apart := impl.WordWays(urn, word); ways < apart {
				t.Fatal(urn, word, ways, apart)
			}
		}
	}
}

func TestNoBackWays(t *testing.T) {
	withoutWords(func(urn, word []int) {
		if got := impl.BackWays(urn, word); got != -1 {
			t.Error(urn, word, got)
		}
	})
}

// Promise 17.

func TestBackAll(t *testing.T) {
	cases := []struct {
		urn        []int
		many, want int
	}{
		{[]int{0}, 0, 1}, {[]int{0, 0, 0}, 0, 1}, {[]int{0}, 1, 0}, {[]int{0, 0}, 6, 0}, {[]int{40, 40, 40}, 0, 1},
		{[]int{1}, 1, 1}, {[]int{1}, 6, 1}, {[]int{0, 1, 0}, 5, 1}, {[]int{7}, 1, 7}, {[]int{0, 2}, 6, 64},
		{[]int{3, 2}, 3, 125}, {[]int{3, 2}, 6, 15625}, {[]int{1, 2, 3}, 4, 1296},
		{[]int{40}, 6, 4096000000}, {[]int{40, 40, 40}, 1, 120}, {[]int{40, 40, 40}, 6, 2985984000000},
	}
	for _, c := range cases {
		if got := impl.BackAll(c.urn, c.many); got != c.want {
			t.Error(c, got)
		}
	}
}

func TestAllShownWordsHaveTogetherAllWays(t *testing.T) {
	allTogether(t, impl.BackWays, impl.BackCounts, impl.BackAll)
}

func TestEachDrawPutBackIsOfAllBalls(t *testing.T) {
	for _, urn := range manyUrns() {
		want := 1
		for draws := 0; draws <= 6; draws++ {
			all := impl.BackAll(urn, draws)
			if all != want || all < impl.AllWays(urn, draws) {
				t.Fatal(urn, draws, all, want)
			}
			want *= sumOf(urn)
		}
	}
}

func TestNoBackAll(t *testing.T) {
	withoutDraws(func(urn []int, many int) {
		if got := impl.BackAll(urn, many); got != -1 {
			t.Error(urn, many, got)
		}
	})
}

// Promise 18.

func TestBackCounts(t *testing.T) {
	cases := []struct {
		urn, counts []int
		want        int
	}{
		{[]int{0}, []int{0}, 1}, {[]int{0, 0, 0}, []int{0, 0, 0}, 1}, {[]int{40, 0}, []int{0, 0}, 1},
		{[]int{0}, []int{1}, 0}, {[]int{0, 5}, []int{1, 2}, 0}, {[]int{0, 5}, []int{0, 2}, 25}, {[]int{0, 0}, []int{3, 3}, 0},
		{[]int{3, 2}, []int{2, 1}, 54}, {[]int{3, 2}, []int{4, 0}, 81}, {[]int{3, 2}, []int{3, 3}, 20 * 27 * 8},
		{[]int{6}, []int{6}, 46656}, {[]int{1}, []int{6}, 1}, {[]int{2, 2, 2}, []int{2, 2, 2}, 5760}, {[]int{2, 0, 2}, []int{1, 0, 1}, 8},
		{[]int{1, 1, 1}, []int{3, 2, 1}, 60}, {[]int{40, 40, 40}, []int{6, 0, 0}, 4096000000}, {[]int{40, 40, 40}, []int{2, 2, 2}, 90 * 4096000000},
	}
	for _, c := range cases {
		if got := impl.BackCounts(c.urn, c.counts); got != c.want {
			t.Error(c, got)
		}
	}
}

func TestCountsHaveTheWaysOfTheirWords(t *testing.T) {
	for _, urn := range append(urnsWith(0, 1, 2, 5), []int{6, 6, 6}, []int{40, 40, 40}, []int{3, 6, 4}, []int{40, 1, 17}) {
		for _, counts := range countRows(len(urn)) {
			ways, words := impl.BackCounts(urn, counts), impl.WordsWith(len(urn), counts)
			word := wordInOrder(counts)
			if ways < 0 || ways%words != 0 || ways/words != impl.BackWays(urn, word) || ways/words != impl.BackWays(urn, turned(word)) {
				t.Fatal(urn, counts, ways, words)
			}
		}
	}
}

// wordInOrder returns the word with these counts that has all draws of a colour behind those of the colours before.
func wordInOrder(counts []int) []int {
	var word []int
	for colour, count := range counts {
		word = append(word, slices.Repeat([]int{colour}, count)...)
	}
	return word
}

func TestCountsHaveTheWaysOfAllTheirWordsTogether(t *testing.T) {
	for _, urn := range append(urnsWith(0, 1, 4), []int{3, 2, 6}, []int{40, 40, 40}) {
		sums := map[[3]int]int{}
		for _, word := range allWords(len(urn)) {
			counts := [3]int{}
			for _, colour := range word {
				counts[colour]++
			}
			sums[counts] += impl.BackWays(urn, word)
		}
		for counts, want := range sums {
			if got := impl.BackCounts(urn, counts[:len(urn)]); got != want {
				t.Fatal(urn, counts, got, want)
			}
		}
	}
}

func TestNoBackCounts(t *testing.T) {
	withoutCounts(func(urn, counts []int) {
		if got := impl.BackCounts(urn, counts); got != -1 {
			t.Error(urn, counts, got)
		}
	})
}

// Promise 19.

func TestSameTwice(t *testing.T) {
	cases := []struct {
		urn  []int
		want int
	}{
		{[]int{0}, 0}, {[]int{0, 0, 0}, 0}, {[]int{1}, 1}, {[]int{1, 1, 1}, 3}, {[]int{2}, 4}, {[]int{0, 0, 2}, 4},
		{[]int{3, 2}, 13}, {[]int{2, 3}, 13}, {[]int{1, 2, 3}, 14}, {[]int{40}, 1600}, {[]int{40, 0}, 1600}, {[]int{40, 40, 40}, 4800},
	}
	for _, c := range cases {
		if got := impl.SameTwice(c.urn); got != c.want {
			t.Error(c, got)
		}
	}
}

func TestEqualColoursShowTheSameLeast(t *testing.T) {
	for _, urn := range manyUrns() {
		same, all := impl.SameTwice(urn), sumOf(urn)
		equal := slices.Min(urn) == slices.Max(urn)
		if len(urn)*same < all*all || (len(urn)*same == all*all) != equal {
			t.Fatal(urn, same, all, equal)
		}
	}
}

func TestTwoDrawsOfOneColour(t *testing.T) {
	for _, urn := range manyUrns() {
		back, apart := 0, 0
		for colour := range urn {
			counts := make([]int, len(urn))
			counts[colour] = 2
			back += impl.BackWays(urn, []int{colour, colour})
			apart += impl.CountWays(urn, counts)
		}
		if same := impl.SameTwice(urn); same != back || same-sumOf(urn) != apart || apart != impl.SameApart(urn) {
			t.Fatal(urn, same, back, apart)
		}
	}
}

func TestNothingSameTwice(t *testing.T) {
	for _, row := range noUrns() {
		if got := impl.SameTwice(row); got != -1 {
			t.Error(row, got)
		}
	}
}

// The general rules: arguments are not written to, nothing is kept.

func TestBackArgumentsAreNotWritten(t *testing.T) {
	for _, row := range append(urnsWith(0, 2, 40), noUrns()...) {
		for _, other := range [][]int{nil, {0}, {0, 0, 0}, {2, 1, 2}, {1, 0}, {2, 2, 2}, {7}, {-1, 2}} {
			urn := roomy(row)
			word := roomy(other)
			impl.BackWays(urn, word)
			impl.BackCounts(urn, word)
			impl.BackAll(urn, 3)
			impl.SameTwice(urn)
			unwritten(t, row, urn)
			unwritten(t, other, word)
		}
	}
}

func TestBackResultsAreNotKept(t *testing.T) {
	urn, word, counts := []int{3, 2}, []int{0, 1, 0}, []int{2, 1}
	for range 3 {
		got := []int{impl.BackWays(urn, word), impl.BackAll(urn, 3), impl.BackCounts(urn, counts), impl.SameTwice(urn)}
		if !slices.Equal(got, []int{18, 125, 54, 13}) {
			t.Fatal(got)
		}
		other := []int{40, 0}
		impl.BackWays(other, []int{1})
		impl.BackAll(other, 6)
		impl.BackCounts(other, []int{0, 6})
		impl.SameTwice(other)
	}
}
