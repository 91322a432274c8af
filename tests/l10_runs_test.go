package tests

import (
	"math"
	"slices"
	"testing"

	"loop.example/urnsandballs/impl"
)

// wordOfRuns returns the word of runs of these lengths, each of its own colour.
func wordOfRuns(lengths, colours []int) []int {
	var word []int
	for run, length := range lengths {
		word = append(word, slices.Repeat([]int{colours[run]}, length)...)
	}
	return word
}

// withRuns visits all words of so many colours as they are built of runs.
func withRuns(colours int, visit func(word, lengths []int)) {
	for runs := 0; runs <= 6; runs++ {
		byLengths := slices.DeleteFunc(rowsOf(runs, []int{1, 2, 3, 4, 5, 6}), func(row []int) bool { return sumOf(row) > 6 })
		for _, colourOf := range wordsOf(colours, runs) {
			if !takesTurns(colourOf) {
				continue
			}
			for _, lengths := range byLengths {
				visit(wordOfRuns(lengths, colourOf), lengths)
			}
		}
	}
}

// takesTurns reports whether no colour of a word is there twice in a row.
func takesTurns(word []int) bool {
	return differences(word) == max(len(word)-1, 0)
}

// differences counts the neighbours of a word that differ.
func differences(word []int) int {
	many := 0
	for place := 1; place < len(word); place++ {
		if word[place-1] != word[place] {
			many++
		}
	}
	return many
}

// withAllWords visits all words of each number of colours.
func withAllWords(visit func(colours int, word []int)) {
	for colours := 1; colours <= 3; colours++ {
		for _, word := range allWords(colours) {
			visit(colours, word)
		}
	}
}

// withBothCounts visits all numbers of draws of a first colour and of a second one, together at most 6.
func withBothCounts(visit func(first, second int)) {
	for first := 0; first <= 6; first++ {
		for second := 0; first+second <= 6; second++ {
			visit(first, second)
		}
	}
}

// withoutBothCounts visits numbers of draws of which one at least may not be, or both together.
func withoutBothCounts(visit func(first, second int)) {
	withoutPairsOf(withBothCounts, visit)
}

// allWordsOfBoth returns all words with just so many draws of a first colour and of a second one.
func allWordsOfBoth(first, second int) [][]int {
	return slices.DeleteFunc(wordsOf(2, first+second), func(word []int) bool { return timesIn(word, 0) != first })
}

// runRow returns RunWords of all numbers of runs, up to two more than there are draws.
func runRow(first, second int) []int {
	var row []int
	for runs := range first + second + 3 {
		row = append(row, impl.RunWords(first, second, runs))
	}
	return row
}

// wordsWithFewer returns WordsWith of one fewer of each count, 0 if one of them is not there.
func wordsWithFewer(first, second int) int {
	if first == 0 || second == 0 {
		return 0
	}
	return impl.WordsWith(2, []int{first - 1, second - 1})
}

// wordCase is a word of so many colours, and what is to be told of it.
type wordCase struct {
	colours int
	word    []int
	want    int
}

// toldOfWords checks what is told of words.
func toldOfWords(t *testing.T, told func(colours int, word []int) int, cases []wordCase) {
	t.Helper()
	for _, c := range cases {
		if got := told(c.colours, c.word); got != c.want {
			t.Error(c, got)
		}
	}
}

// toldOfNoWord checks that -1 is told of rows that are no words, and of words of colours that there may not be.
func toldOfNoWord(t *testing.T, told func(colours int, word []int) int) {
	t.Helper()
	for colours := 1; colours <= 3; colours++ {
		for _, row := range noWords(colours) {
			if got := told(colours, row); got != -1 {
				t.Error(colours, row, got)
			}
		}
		for colour := range colours {
			word := slices.Repeat([]int{colour}, impl.MaxDraws)
			if got := told(colours, append(word, colour)); got != -1 {
				t.Error(colours, colour, got)
			}
		}
	}
	for _, colours := range wrongColours() {
		for _, word := range [][]int{nil, {}, {0}, {0, 0, 0}, {0, 1, 0}, {-1}, {3}, {colours}, {colours - 1}, make([]int, 6), make([]int, 7)} {
			if got := told(colours, word); got != -1 {
				t.Error(colours, word, got)
			}
		}
	}
	toldOfWords(t, told, []wordCase{
		{1, []int{1}, -1}, {2, []int{2}, -1}, {3, []int{3}, -1}, {2, []int{-1}, -1}, {1, make([]int, 7), -1}, {2, []int{0, 1, 0, 1, 0, 1, 0}, -1},
		{0, nil, -1}, {4, nil, -1}, {0, []int{0}, -1}, {4, []int{0, 1}, -1}, {-1, []int{0}, -1}, {math.MaxInt, []int{0}, -1}, {math.MinInt, nil, -1},
	})
	// What is wrong is checked first, also behind draws that have made runs.
	for _, word := range [][]int{{0, 1, 0, 2}, {0, 1, -1}, {-1, -1}, {-1}, {1, 1, 1, math.MaxInt}, {math.MinInt, 0}, {2, 2}, {0, 1, 0, 1, 0, 1, 0}} {
		if got := told(2, word); got != -1 {
			t.Error(word, got)
		}
	}
}

// Promise 65.

func TestRuns(t *testing.T) {
	toldOfWords(t, impl.RunsOf, []wordCase{
		{1, nil, 0}, {2, nil, 0}, {3, []int{}, 0},
		{1, []int{0}, 1}, {2, []int{0}, 1}, {2, []int{1}, 1}, {3, []int{2}, 1},
		{1, []int{0, 0}, 1}, {1, make([]int, 6), 1}, {3, []int{2, 2, 2, 2, 2, 2}, 1}, {2, []int{1, 1, 1}, 1},
		{2, []int{0, 1}, 2}, {2, []int{1, 0}, 2}, {2, []int{0, 0, 1, 0}, 3}, {2, []int{0, 1, 1, 1, 0, 0}, 3}, {2, []int{0, 0, 0, 1, 1, 1}, 2},
		{2, []int{0, 1, 0, 1, 0, 1}, 6}, {3, []int{0, 1, 2, 0, 1, 2}, 6}, {3, []int{2, 0, 2, 0, 2, 0}, 6}, {3, []int{0, 2, 2, 1, 1, 0}, 4}, {3, []int{1, 2, 1}, 3},
	})
}

func TestRunsOfWordsBuiltOfRuns(t *testing.T) {
	for colours := 1; colours <= impl.MaxColours; colours++ {
		words := 0
		withRuns(colours, func(word, lengths []int) {
			words++
			if got := impl.RunsOf(colours, word); got != len(lengths) {
				t.Error(colours, word, got)
			}
		})
		if all := len(allWords(colours)); words != all {
			t.Error(colours, words, all)
		}
	}
}

func TestRunsAreTheFirstDrawAndTheOthersThatDiffer(t *testing.T) {
	withAllWords(func(colours int, word []int) {
		got := impl.RunsOf(colours, word)
		if got != min(len(word), 1)+differences(word) {
			t.Error(colours, word, got)
		}
		if colours < 3 && impl.RunsOf(colours+1, word) != got {
			t.Error("with one colour more", colours, word, got)
		}
	})
}

func TestWordsFromBehindHaveTheSameRuns(t *testing.T) {
	withAllWords(func(colours int, word []int) {
		if got, back := impl.RunsOf(colours, word), impl.RunsOf(colours, turned(word)); got != back {
			t.Error(colours, word, got, back)
		}
	})
}

func TestRunsOfTwoPartsAreAsManyOrOneMore(t *testing.T) {
	withAllWords(func(colours int, word []int) {
		for place := range len(word) + 1 {
			all, both := impl.RunsOf(colours, word), impl.RunsOf(colours, word[:place])+impl.RunsOf(colours, word[place:])
			// A cut within a run makes two of it, and any other one leaves the runs as they are.
			want := all
			if place > 0 && place < len(word) && word[place-1] == word[place] {
				want++
			}
			if both != want {
				t.Error(colours, word, place, all, both)
			}
		}
	})
}

func TestNoRunsOfNoWords(t *testing.T) {
	toldOfNoWord(t, impl.RunsOf)
}

// Promise 66.

func TestLongestRun(t *testing.T) {
	toldOfWords(t, impl.LongestRun, []wordCase{
		{1, nil, 0}, {2, nil, 0}, {3, []int{}, 0},
		{1, []int{0}, 1}, {2, []int{1}, 1}, {3, []int{2}, 1},
		{1, []int{0, 0}, 2}, {1, make([]int, 6), 6}, {3, []int{2, 2, 2, 2, 2, 2}, 6}, {2, []int{1, 1, 1}, 3},
		{2, []int{0, 0, 1, 0}, 2}, {2, []int{0, 1, 1, 1, 0, 0}, 3}, {2, []int{1, 0, 0, 0, 0, 0}, 5}, {2, []int{0, 0, 0, 0, 0, 1}, 5}, {2, []int{0, 0, 0, 1, 1, 1}, 3},
		{2, []int{0, 1, 0, 1, 0, 0}, 2}, {2, []int{0, 0, 1, 0, 0, 0}, 3}, {3, []int{0, 0, 1, 0, 0, 2}, 2},
		{2, []int{0, 1, 0, 1, 0, 1}, 1}, {3, []int{0, 1, 2, 0, 1, 2}, 1}, {3, []int{2, 1}, 1},
	})
}

func TestLongestRunOfWordsBuiltOfRuns(t *testing.T) {
	for colours := 1; colours <= impl.MaxColours; colours++ {
		withRuns(colours, func(word, lengths []int) {
			if got := impl.LongestRun(colours, word); got != slices.Max(append(lengths, 0)) {
				t.Error(colours, word, got)
			}
		})
	}
}

func TestRunsTimesTheLongestOneAreEnough(t *testing.T) {
	withAllWords(func(colours int, word []int) {
		longest, runs := impl.LongestRun(colours, word), impl.RunsOf(colours, word)
		if longest*runs < len(word) || len(word) > 0 && longest+runs-1 > len(word) {
			t.Error(colours, word, longest, runs)
		}
	})
}

func TestTheLongestRunOfOneColourAloneIsAllDraws(t *testing.T) {
	withAllWords(func(colours int, word []int) {
		alone := len(slices.Compact(slices.Clone(word))) < 2
		if got := impl.LongestRun(colours, word); (got == len(word)) != alone {
			t.Error(colours, word, got)
		}
	})
}

func TestTheLongestRunIsOneDrawIfAllNeighboursDiffer(t *testing.T) {
	withAllWords(func(colours int, word []int) {
		if got := impl.LongestRun(colours, word); (got == 1) != (len(word) > 0 && takesTurns(word)) || (got == 0) != (len(word) == 0) {
			t.Error(colours, word, got)
		}
	})
}

func TestTheLongestRunFromBehindIsTheSame(t *testing.T) {
	withAllWords(func(colours int, word []int) {
		if got, back := impl.LongestRun(colours, word), impl.LongestRun(colours, turned(word)); got != back {
			t.Error(colours, word, got, back)
		}
	})
}

func TestNoLongestRunOfNoWords(t *testing.T) {
	toldOfNoWord(t, impl.LongestRun)
}

// Promise 67.

func TestRunWords(t *testing.T) {
	cases := []struct {
		first, second int
		want          []int
	}{
		{0, 0, []int{1, 0, 0}}, {1, 0, []int{0, 1, 0, 0}}, {2, 0, []int{0, 1, 0, 0, 0}}, {5, 0, []int{0, 1, 0, 0, 0, 0, 0, 0}}, {6, 0, []int{0, 1, 0, 0, 0, 0, 0, 0, 0}},
		{1, 1, []int{0, 0, 2, 0, 0}}, {2, 1, []int{0, 0, 2, 1, 0, 0}}, {3, 1, []int{0, 0, 2, 2, 0, 0, 0}}, {2, 2, []int{0, 0, 2, 2, 2, 0, 0}},
		{4, 1, []int{0, 0, 2, 3, 0, 0, 0, 0}}, {3, 2, []int{0, 0, 2, 3, 4, 1, 0, 0}},
		{5, 1, []int{0, 0, 2, 4, 0, 0, 0, 0, 0}}, {4, 2, []int{0, 0, 2, 4, 6, 3, 0, 0, 0}}, {3, 3, []int{0, 0, 2, 4, 8, 4, 2, 0, 0}},
	}
	for _, c := range cases {
		if row, exchanged := runRow(c.first, c.second), runRow(c.second, c.first); !slices.Equal(row, c.want) || !slices.Equal(exchanged, c.want) {
			t.Error(c, row, exchanged)
		}
	}
}

func TestAllWordsAreByTheirRuns(t *testing.T) {
	withBothCounts(func(first, second int) {
		if row, all := runRow(first, second), impl.WordsWith(2, []int{first, second}); sumOf(row) != all {
			t.Error(first, second, row, all)
		}
	})
}

func TestRunWordsOneByOne(t *testing.T) {
	withBothCounts(func(first, second int) {
		want := make([]int, first+second+3)
		for _, word := range wordsOf(2, first+second) {
			if slices.Equal(impl.CountsOf(2, word), []int{first, second}) {
				want[impl.RunsOf(2, word)]++
			}
		}
		if row := runRow(first, second); !slices.Equal(row, want) {
			t.Error(first, second, row, want)
		}
	})
}

func TestRunWordsBuiltOfRuns(t *testing.T) {
	want := map[[3]int]int{}
	withRuns(2, func(word, lengths []int) { want[[3]int{timesIn(word, 0), timesIn(word, 1), len(lengths)}]++ })
	withBothCounts(func(first, second int) {
		for runs, words := range runRow(first, second) {
			if words != want[[3]int{first, second, runs}] {
				t.Error(first, second, runs, words)
			}
		}
	})
}

func TestRunWordsOfBothNumbersExchanged(t *testing.T) {
	withBothCounts(func(first, second int) {
		if row, exchanged := runRow(first, second), runRow(second, first); !slices.Equal(row, exchanged) {
			t.Error(first, second, row, exchanged)
		}
	})
}

func TestRunsThatBothNumbersCanMake(t *testing.T) {
	withBothCounts(func(first, second int) {
		fewest, most := min(first, 1)+min(second, 1), first+second
		// The runs of a colour are at most one more than those of the other one.
		if first != second {
			most = 2*min(first, second) + 1
		}
		for runs, words := range runRow(first, second) {
			if (words > 0) != (runs >= fewest && runs <= most) || words < 0 {
				t.Error(first, second, runs, words)
			}
		}
	})
}

func TestNoWordsHaveVeryManyRuns(t *testing.T) {
	withBothCounts(func(first, second int) {
		for _, runs := range append(wrongAndRight(), math.MaxInt/2+2, math.MaxInt-2) {
			if runs <= first+second {
				continue
			}
			if got := impl.RunWords(first, second, runs); got != 0 {
				t.Error(first, second, runs, got)
			}
		}
	})
}

func TestNoRunWords(t *testing.T) {
	for _, runs := range wrongAndRight() {
		withoutBothCounts(func(first, second int) {
			if got := impl.RunWords(first, second, runs); got != -1 {
				t.Error(first, second, runs, got)
			}
		})
		if runs >= 0 {
			continue
		}
		withBothCounts(func(first, second int) {
			if got := impl.RunWords(first, second, runs); got != -1 {
				t.Error(first, second, runs, got)
			}
		})
	}
	for _, c := range [][3]int{{4, 3, 1}, {3, 4, 7}, {7, 0, 1}, {0, 7, 1}, {-1, 7, 1}, {7, -1, 6}, {-1, 0, 0}, {0, -1, 0}, {0, 0, -1}, {3, 3, -1}, {math.MaxInt, 1, 2}, {math.MaxInt, math.MaxInt, 2}, {math.MinInt, math.MinInt, 0}, {math.MaxInt, math.MinInt, 0}, {1, 1, math.MinInt}} {
		if got := impl.RunWords(c[0], c[1], c[2]); got != -1 {
			t.Error(c, got)
		}
	}
}

// Promise 68.

func TestRunSum(t *testing.T) {
	cases := []struct{ first, second, want int }{
		{0, 0, 0}, {1, 0, 1}, {2, 0, 1}, {3, 0, 1}, {4, 0, 1}, {5, 0, 1}, {6, 0, 1},
		{1, 1, 4}, {2, 1, 7}, {3, 1, 10}, {2, 2, 18}, {4, 1, 13}, {3, 2, 34}, {5, 1, 16}, {4, 2, 55}, {3, 3, 80},
		{7, 0, -1}, {4, 3, -1}, {6, 1, -1}, {-1, 0, -1}, {-1, 1, -1}, {7, -1, -1}, {-1, -1, -1},
		{math.MaxInt, 0, -1}, {math.MaxInt, 1, -1}, {math.MaxInt, math.MaxInt, -1}, {math.MinInt, 0, -1}, {math.MinInt, math.MinInt, -1}, {math.MaxInt, math.MinInt, -1},
	}
	for _, c := range cases {
		if got, exchanged := impl.RunSum(c.first, c.second), impl.RunSum(c.second, c.first); got != c.want || exchanged != c.want {
			t.Error(c, got, exchanged)
		}
	}
}

func TestRunSumOneByOne(t *testing.T) {
	withBothCounts(func(first, second int) {
		want := 0
		for _, word := range allWordsOfBoth(first, second) {
			want += min(len(word), 1) + differences(word)
		}
		if got, byRuns := impl.RunSum(first, second), sumByNumber(runRow(first, second)); got != want || byRuns != want {
			t.Error(first, second, got, byRuns, want)
		}
	})
}

func TestRunsAreCountedByNeighboursThatDiffer(t *testing.T) {
	withBothCounts(func(first, second int) {
		draws := first + second
		want := 0
		if draws > 0 {
			want = impl.WordsWith(2, []int{first, second}) + (draws-1)*2*wordsWithFewer(first, second)
		}
		if got := impl.RunSum(first, second); got != want {
			t.Error(first, second, got, want)
		}
	})
}

func TestEachTwoNeighboursDifferInAsManyWords(t *testing.T) {
	withBothCounts(func(first, second int) {
		for place := 1; place < first+second; place++ {
			differ := 0
			for _, word := range allWordsOfBoth(first, second) {
				if word[place-1] != word[place] {
					differ++
				}
			}
			if want := 2 * wordsWithFewer(first, second); differ != want {
				t.Error(first, second, place, differ, want)
			}
		}
	})
}

func TestNoRunSum(t *testing.T) {
	withoutBothCounts(func(first, second int) {
		if got := impl.RunSum(first, second); got != -1 {
			t.Error(first, second, got)
		}
	})
}

// The general rules: arguments are not written to, nothing is kept.

func TestRunArgumentsAreNotWritten(t *testing.T) {
	for _, row := range [][]int{nil, {0}, {0, 0, 1, 0}, {2, 1, 2}, make([]int, 6), make([]int, 7), {0, 1, 0, 1, 0, 1}, {3}, {-1, 2}, {math.MaxInt, math.MinInt}} {
		word := roomy(row)
		for colours := 0; colours <= 4; colours++ {
			impl.RunsOf(colours, word)
			impl.LongestRun(colours, word)
			unwritten(t, row, word)
		}
	}
}

func TestRunsAreNotKept(t *testing.T) {
	for range 3 {
		word := []int{0, 0, 1, 0}
		asked := []int{impl.RunsOf(2, word), impl.LongestRun(2, word), impl.RunsOf(2, nil), impl.LongestRun(2, nil), impl.RunWords(2, 2, 3), impl.RunWords(0, 0, 0), impl.RunSum(2, 2), impl.RunSum(0, 0)}
		if want := []int{3, 2, 0, 0, 2, 1, 18, 0}; !slices.Equal(asked, want) {
			t.Fatal(asked)
		}
		impl.RunsOf(3, []int{0, 1, 2, 0, 1, 2})
		impl.LongestRun(1, make([]int, 6))
		impl.LongestRun(1, make([]int, 7))
		impl.RunWords(3, 3, 6)
		impl.RunWords(math.MaxInt, math.MaxInt, math.MinInt)
		impl.RunSum(3, 3)
		impl.RunSum(math.MinInt, math.MaxInt)
	}
}
