package tests

import (
	"math"
	"math/bits"
	"slices"
	"testing"

	"loop.example/urnsandballs/impl"
)

// someMixRows returns a choice of rows of weights of so many draws: of one weight everywhere, or of one count alone, and of samples.
func someMixRows(draws int) [][]int {
	rows := [][]int{numbersTo(draws + 1), turned(numbersTo(draws + 1)), sampleOf(12, 5, draws), sampleOf(15, 1, draws), sampleOf(20, 12, draws)}
	for _, weight := range []int{0, 1, 7, 5555, 5556, 10000, 11111, 11112, 12500, 12501, 33333, 50000, 50001, 99999, 100000} {
		rows = append(rows, slices.Repeat([]int{weight}, draws+1))
		for count := range draws + 1 {
			rows = append(rows, single(draws, count, weight))
		}
	}
	return slices.DeleteFunc(rows, func(row []int) bool { return lightRow(row) == nil })
}

// mixRows returns rows of weights of so many draws: those chosen, and all of a few weights.
func mixRows(draws int) [][]int {
	return append(someMixRows(draws), rowsOf(draws+1, []int{0, 1, 5})...)
}

// withMixRows visits rows of weights of all numbers of draws.
func withMixRows(visit func(row []int)) {
	for draws := 0; draws <= 8; draws++ {
		for _, row := range mixRows(draws) {
			visit(row)
		}
	}
}

// withMixes visits pairs of rows as long, with numbers of times.
func withMixes(visit func(a []int, timesA int, b []int, timesB int)) {
	for draws := 0; draws <= 8; draws++ {
		some := someMixRows(draws)
		for i, a := range some {
			// All pairs would take long: each row meets a third of all, itself among them.
			for j := i % 3; j < len(some); j += 3 {
				for _, times := range rowsOf(2, []int{0, 1, 2, 9}) {
					visit(a, times[0], some[j], times[1])
				}
			}
		}
	}
}

// wrongWeights returns numbers that are no weights; twice, four times or eight times some of them is a weight again, as products wrap around.
func wrongWeights() []int {
	return []int{-100000, -8, -1, 100001, 100002, 100008, 200000, 1000000, math.MinInt, math.MinInt + 1, math.MinInt + 100000, math.MinInt32, math.MinInt / 2, math.MinInt / 4, math.MaxInt32, math.MaxInt/4 + 1, math.MaxInt/2 + 1, math.MaxInt - 100000, math.MaxInt - 1, math.MaxInt}
}

// noMixRows returns rows that are none of weights: nil, too long, and with what is no weight at each place.
func noMixRows() [][]int {
	rows := [][]int{nil, {}}
	for _, length := range []int{10, 11, 12, 18, 100, 1000} {
		rows = append(rows, make([]int, length), slices.Repeat([]int{1}, length), slices.Repeat([]int{100000}, length))
	}
	for draws := 0; draws <= 8; draws++ {
		for _, wrong := range wrongWeights() {
			rows = append(rows, slices.Repeat([]int{wrong}, draws+1))
			for count := range draws + 1 {
				other := slices.Repeat([]int{100000}, draws+1)
				other[count] = wrong
				rows = append(rows, single(draws, count, wrong), other)
			}
		}
	}
	// The sums of some of these are weights, or wrap around to such.
	for length := 2; length <= 4; length++ {
		rows = append(rows, slices.DeleteFunc(rowsOf(length, []int{-1, 2, math.MaxInt}), func(row []int) bool {
			return !slices.ContainsFunc(row, func(weight int) bool { return weight != 2 })
		})...)
	}
	return rows
}

// wrongTimes returns numbers of times that a row may not be taken.
func wrongTimes() []int {
	return append(extremes(), -10, -9, -2, -1, 10, 11, 18, 90, math.MinInt/2, math.MaxInt/2+1)
}

// withoutMixes visits pairs of rows with numbers of times that may not be mixed.
func withoutMixes(visit func(a []int, timesA int, b []int, timesB int)) {
	mayTimes := rowsOf(2, []int{0, 1, 9})
	for _, wrong := range noMixRows() {
		for _, right := range [][]int{make([]int, len(wrong)), slices.Repeat([]int{1}, len(wrong)), {0}} {
			for _, times := range mayTimes {
				visit(wrong, times[0], right, times[1])
				visit(right, times[0], wrong, times[1])
				visit(wrong, times[0], wrong, times[1])
			}
		}
	}
	for _, lengths := range rowsOf(2, numbersTo(11)) {
		if lengths[0] == lengths[1] {
			continue
		}
		for _, weight := range []int{0, 1, 100000} {
			for _, times := range mayTimes {
				visit(slices.Repeat([]int{weight}, lengths[0]), times[0], slices.Repeat([]int{weight}, lengths[1]), times[1])
			}
		}
	}
	for length := 1; length <= 9; length++ {
		for _, weight := range []int{0, 1, 10, 100000} {
			row := slices.Repeat([]int{weight}, length)
			for _, wrong := range wrongTimes() {
				for _, other := range []int{0, 1, 9, 10, wrong, -wrong} {
					visit(row, wrong, row, other)
					visit(row, other, row, wrong)
				}
			}
		}
	}
}

// lightRow returns a row of numbers from 0 on if none of them is above the greatest weight, and nil for others.
func lightRow(row []int) []int {
	if slices.Max(row) > 100000 {
		return nil
	}
	return row
}

// isTold reports whether a row is told with true, or, for nil, none with false.
func isTold(got []int, ok bool, want []int) bool {
	return slices.Equal(got, want) && ok == (want != nil)
}

// eachLeftOut leaves each draw of one word of each count out in turn, and adds the weight of the count to that of what is left.
func eachLeftOut(row []int) []int {
	draws := len(row) - 1
	shorter := make([]int, draws)
	for count, weight := range row {
		word := slices.Concat(slices.Repeat([]int{1}, count), make([]int, draws-count))
		for place := range word {
			shorter[sumOf(slices.Delete(slices.Clone(word), place, place+1))] += weight
		}
	}
	return shorter
}

// rowOfWords adds what is told of all words of two colours by the number of their draws of the first one, which are set bits.
func rowOfWords(draws int, told func(first int) int) []int {
	row := make([]int, draws+1)
	for word := range uint(1) << draws {
		first := bits.OnesCount(word)
		row[first] += told(first)
	}
	return row
}

// sampleOf returns the ways of all counts of marked ones, by all choices as the standard library tells them.
func sampleOf(things, marked, picked int) []int {
	var row []int
	for both := range picked + 1 {
		row = append(row, choicesOf(marked, both)*choicesOf(things-marked, picked-both))
	}
	return row
}

// withSampleRows visits all samples of which a row of weights is told, with it.
func withSampleRows(visit func(things, marked, picked int, row []int)) {
	withSamples(func(things, marked, picked int) {
		if row, ok := impl.SampleRow(things, marked, picked); ok {
			visit(things, marked, picked, row)
		}
	})
}

// multiplied returns all numbers of a row so many times.
func multiplied(row []int, times int) []int {
	var more []int
	for _, number := range row {
		more = append(more, number*times)
	}
	return more
}

// mixedOneByOne adds each row to one of nothing but zeros so many times.
func mixedOneByOne(a []int, timesA int, b []int, timesB int) []int {
	mixed := make([]int, len(a))
	for _, row := range slices.Concat(slices.Repeat([][]int{a}, timesA), slices.Repeat([][]int{b}, timesB)) {
		for count, weight := range row {
			mixed[count] += weight
		}
	}
	return mixed
}

// sumsOf returns both sums of a row of weights.
func sumsOf(t *testing.T, row []int) (int, int) {
	t.Helper()
	sum, withCounts, ok := impl.RowSums(row)
	if !ok {
		t.Fatal(row)
	}
	return sum, withCounts
}

// Promise 75.

func TestMixRows(t *testing.T) {
	cases := []struct {
		row  []int
		want bool
	}{
		{[]int{1, 0, 3}, true}, {[]int{0}, true}, {[]int{1}, true}, {[]int{100000}, true}, {[]int{100001}, false}, {[]int{-1}, false}, {nil, false}, {[]int{}, false},
		{[]int{0, 0}, true}, {[]int{100000, 0}, true}, {[]int{0, 100000}, true}, {[]int{100001, 0}, false}, {[]int{0, 100001}, false}, {[]int{-1, 1}, false}, {[]int{1, -1}, false}, {[]int{5, 100001, 5}, false}, {[]int{5, -1, 5}, false},
		{make([]int, 9), true}, {make([]int, 10), false}, {slices.Repeat([]int{100000}, 9), true}, {slices.Repeat([]int{100000}, 10), false}, {[]int{1, 2, 3, 4, 5, 6, 7, 8, 9}, true}, {[]int{1, 2, 3, 4, 5, 6, 7, 8, 9, 0}, false}, {[]int{1, 2, 3, 4, 5, 6, 7, 8, -9}, false}, {[]int{1, 2, 3, 4, 5, 6, 7, 8, 100009}, false},
		{[]int{math.MaxInt}, false}, {[]int{math.MinInt}, false}, {[]int{math.MaxInt, 1, math.MinInt}, false}, {[]int{0, math.MaxInt}, false}, {[]int{0, math.MinInt}, false},
	}
	for _, c := range cases {
		if got := impl.MixOk(c.row); got != c.want {
			t.Error(c, got)
		}
	}
}

func TestOneWeightIsARow(t *testing.T) {
	for _, weight := range []int{0, 1, 2, 50000, 99999, 100000} {
		if !impl.MixOk([]int{weight}) {
			t.Error(weight)
		}
	}
	for _, wrong := range wrongWeights() {
		if impl.MixOk([]int{wrong}) {
			t.Error(wrong)
		}
	}
}

func TestRowsFromTheLastCountToTheFirstOneAreRows(t *testing.T) {
	withMixRows(func(row []int) {
		if !impl.MixOk(row) || !impl.MixOk(turned(row)) {
			t.Error(row)
		}
	})
}

func TestNoMixRows(t *testing.T) {
	for _, row := range noMixRows() {
		if impl.MixOk(row) || impl.MixOk(turned(row)) {
			t.Error(row)
		}
	}
}

// Promise 76.

func TestShorterRows(t *testing.T) {
	cases := []struct{ row, want []int }{
		{[]int{1, 0, 3}, []int{2, 6}}, {[]int{1, 2}, []int{3}}, {[]int{0, 0}, []int{0}}, {[]int{1, 0}, []int{1}}, {[]int{0, 1}, []int{1}}, {[]int{3, 9, 3}, []int{15, 15}}, {[]int{1, 3, 3, 1}, []int{6, 12, 6}}, {[]int{1, 1, 1, 1}, []int{4, 4, 4}}, {[]int{2, 0, 0, 5}, []int{6, 0, 15}},
		{make([]int, 9), make([]int, 8)}, {[]int{1, 0, 0, 0, 0, 0, 0, 0, 0}, []int{8, 0, 0, 0, 0, 0, 0, 0}}, {[]int{0, 0, 0, 0, 0, 0, 0, 0, 1}, []int{0, 0, 0, 0, 0, 0, 0, 8}}, {[]int{0, 0, 0, 0, 1, 0, 0, 0, 0}, []int{0, 0, 0, 4, 4, 0, 0, 0}}, {[]int{1, 2, 3, 4, 5, 6, 7, 8, 9}, []int{10, 20, 30, 40, 50, 60, 70, 80}},
		{[]int{100000, 0}, []int{100000}}, {[]int{0, 100000}, []int{100000}}, {[]int{50000, 50000}, []int{100000}}, {[]int{50000, 50001}, nil}, {[]int{100000, 1}, nil}, {[]int{1, 100000}, nil}, {[]int{100000, 100000}, nil},
		{[]int{50000, 0, 0}, []int{100000, 0}}, {[]int{50001, 0, 0}, nil}, {[]int{0, 0, 50000}, []int{0, 100000}}, {[]int{0, 0, 50001}, nil}, {[]int{0, 100000, 0}, []int{100000, 100000}}, {[]int{1, 100000, 0}, nil}, {[]int{0, 100000, 1}, nil},
		{slices.Repeat([]int{11111}, 9), slices.Repeat([]int{99999}, 8)}, {slices.Repeat([]int{11112}, 9), nil}, {slices.Repeat([]int{100000}, 9), nil}, {[]int{12500, 0, 0, 0, 0, 0, 0, 0, 12500}, []int{100000, 0, 0, 0, 0, 0, 0, 100000}}, {[]int{12501, 0, 0, 0, 0, 0, 0, 0, 12500}, nil}, {[]int{12500, 0, 0, 0, 0, 0, 0, 0, 12501}, nil}, {[]int{0, 0, 0, 0, 25000, 0, 0, 0, 0}, []int{0, 0, 0, 100000, 100000, 0, 0, 0}}, {[]int{0, 0, 0, 0, 25001, 0, 0, 0, 0}, nil},
	}
	for _, c := range cases {
		if got, ok := impl.ShorterRow(c.row); !isTold(got, ok, c.want) {
			t.Error(c, got, ok)
		}
	}
}

func TestEachDrawMayBeTheOneLeftOut(t *testing.T) {
	withMixRows(func(row []int) {
		if len(row) == 1 {
			return
		}
		if got, ok := impl.ShorterRow(row); !isTold(got, ok, lightRow(eachLeftOut(row))) {
			t.Error(row, got, ok)
		}
	})
}

func TestShorterRowsAreThoseOfWordsWithoutTheLastDraw(t *testing.T) {
	for draws := 1; draws <= 8; draws++ {
		for _, each := range rowsOf(draws+1, []int{0, 1, 3}) {
			row := rowOfWords(draws, func(first int) int { return each[first] })
			// A shorter word may go on with either colour.
			want := rowOfWords(draws-1, func(first int) int { return draws * (each[first] + each[first+1]) })
			if got, ok := impl.ShorterRow(row); !isTold(got, ok, want) {
				t.Error(draws, each, got, ok, want)
			}
		}
	}
}

func TestJustTheGreatestWeightInAShorterRow(t *testing.T) {
	for draws := 1; draws <= 8; draws++ {
		for count := range draws + 1 {
			most := 100000 / max(count, draws-count)
			row := single(draws, count, most)
			if got, ok := impl.ShorterRow(row); !isTold(got, ok, eachLeftOut(row)) {
				t.Error(row, got, ok)
			}
			if got, ok := impl.ShorterRow(single(draws, count, most+1)); !isTold(got, ok, nil) {
				t.Error(draws, count, most+1, got, ok)
			}
		}
	}
}

func TestWithADrawLeftOutSharesStay(t *testing.T) {
	withMixRows(func(row []int) {
		shorter, ok := impl.ShorterRow(row)
		if !ok {
			return
		}
		draws := len(row) - 1
		sum, withCounts := sumsOf(t, row)
		if less, lessWithCounts := sumsOf(t, shorter); less != sum*draws || lessWithCounts != withCounts*(draws-1) {
			t.Error(row, shorter, sum, withCounts, less, lessWithCounts)
		}
	})
}

func TestOneCountHasNoDrawToLeaveOut(t *testing.T) {
	for _, weight := range append(wrongWeights(), 0, 1, 2, 50000, 100000) {
		if got, ok := impl.ShorterRow([]int{weight}); !isTold(got, ok, nil) {
			t.Error(weight, got, ok)
		}
	}
}

func TestNoShorterRows(t *testing.T) {
	for _, row := range noMixRows() {
		if got, ok := impl.ShorterRow(row); !isTold(got, ok, nil) {
			t.Error(row, got, ok)
		}
	}
}

// Promise 77.

func TestSampleRows(t *testing.T) {
	cases := []struct {
		things, marked, picked int
		want                   []int
	}{
		{0, 0, 0, []int{1}}, {1, 0, 0, []int{1}}, {1, 1, 0, []int{1}}, {1, 0, 1, []int{1, 0}}, {1, 1, 1, []int{0, 1}}, {30, 0, 0, []int{1}}, {30, 30, 0, []int{1}}, {30, 17, 0, []int{1}},
		{6, 3, 2, []int{3, 9, 3}}, {6, 3, 4, []int{0, 3, 9, 3, 0}}, {6, 3, 6, []int{0, 0, 0, 1, 0, 0, 0}}, {6, 0, 2, []int{15, 0, 0}}, {6, 6, 2, []int{0, 0, 15}}, {10, 4, 5, []int{6, 60, 120, 60, 6, 0}},
		{8, 0, 8, []int{1, 0, 0, 0, 0, 0, 0, 0, 0}}, {8, 8, 8, []int{0, 0, 0, 0, 0, 0, 0, 0, 1}}, {8, 3, 8, []int{0, 0, 0, 1, 0, 0, 0, 0, 0}}, {9, 4, 8, []int{0, 0, 0, 4, 5, 0, 0, 0, 0}}, {9, 4, 9, nil}, {9, 0, 9, nil}, {9, 9, 9, nil}, {10, 5, 9, nil}, {30, 15, 9, nil}, {30, 30, 30, nil}, {30, 0, 30, nil}, {16, 8, 8, []int{1, 64, 784, 3136, 4900, 3136, 784, 64, 1}},
		{30, 0, 4, []int{27405, 0, 0, 0, 0}}, {30, 30, 4, []int{0, 0, 0, 0, 27405}}, {30, 0, 5, nil}, {30, 30, 5, nil}, {30, 1, 1, []int{29, 1}}, {28, 0, 5, []int{98280, 0, 0, 0, 0, 0}}, {29, 0, 5, nil}, {28, 28, 5, []int{0, 0, 0, 0, 0, 98280}}, {29, 29, 5, nil}, {30, 15, 8, nil}, {30, 15, 5, []int{3003, 20475, 47775, 47775, 20475, 3003}},
		{-1, 0, 0, nil}, {31, 0, 0, nil}, {31, 1, 1, nil}, {0, 1, 0, nil}, {0, 0, 1, nil}, {5, 6, 2, nil}, {5, 2, 6, nil}, {5, -1, 2, nil}, {5, 2, -1, nil}, {5, -1, -1, nil}, {-1, -1, -1, nil},
		{math.MaxInt, 0, 0, nil}, {math.MinInt, 0, 0, nil}, {6, math.MaxInt, 2, nil}, {6, math.MinInt, 2, nil}, {6, 3, math.MaxInt, nil}, {6, 3, math.MinInt, nil}, {math.MaxInt, math.MaxInt, math.MaxInt, nil}, {math.MinInt, math.MinInt, math.MinInt, nil}, {math.MaxInt, math.MaxInt, 2, nil},
	}
	for _, c := range cases {
		if got, ok := impl.SampleRow(c.things, c.marked, c.picked); !isTold(got, ok, c.want) {
			t.Error(c, got, ok)
		}
	}
}

func TestAllSampleRows(t *testing.T) {
	withSamples(func(things, marked, picked int) {
		var want []int
		if picked <= 8 {
			want = lightRow(sampleOf(things, marked, picked))
		}
		if got, ok := impl.SampleRow(things, marked, picked); !isTold(got, ok, want) {
			t.Error(things, marked, picked, got, ok, want)
		}
	})
}

func TestSampleRowsOneByOne(t *testing.T) {
	withSamples(func(things, marked, picked int) {
		if things > 9 || picked > 8 {
			return
		}
		if got, ok := impl.SampleRow(things, marked, picked); !isTold(got, ok, markedRow(things, marked, picked)) {
			t.Error(things, marked, picked, got, ok)
		}
	})
}

func TestSampleRowsAreTogetherAllChoices(t *testing.T) {
	withSampleRows(func(things, marked, picked int, row []int) {
		if all := impl.PickWays(things, picked); sumOf(row) != all {
			t.Error(things, marked, picked, row, all)
		}
	})
}

func TestShortenedSamplesAreShorterSamples(t *testing.T) {
	withSampleRows(func(things, marked, picked int, row []int) {
		if picked == 0 {
			return
		}
		fewer, ok := impl.SampleRow(things, marked, picked-1)
		if !ok {
			return
		}
		shorter, ok := impl.ShorterRow(row)
		if want := lightRow(multiplied(fewer, things-picked+1)); !isTold(shorter, ok, want) {
			t.Error(things, marked, picked, shorter, ok, want)
		}
	})
}

func TestNoSampleRows(t *testing.T) {
	withoutSamples(func(things, marked, picked int) {
		if got, ok := impl.SampleRow(things, marked, picked); !isTold(got, ok, nil) {
			t.Error(things, marked, picked, got, ok)
		}
	})
	for things := 0; things <= 30; things++ {
		for _, wrong := range append(extremes(), -31, -things-1, -1, things+1, 31) {
			for _, row := range [][2]int{{wrong, 0}, {0, wrong}, {wrong, things}, {things, wrong}, {wrong, wrong}} {
				if got, ok := impl.SampleRow(things, row[0], row[1]); !isTold(got, ok, nil) {
					t.Error(things, row, got, ok)
				}
			}
		}
	}
}

// Promise 78.

func TestMixedRows(t *testing.T) {
	full := slices.Repeat([]int{100000}, 9)
	cases := []struct {
		a      []int
		timesA int
		b      []int
		timesB int
		want   []int
	}{
		{[]int{1, 2}, 2, []int{3, 0}, 1, []int{5, 4}}, {[]int{1, 2}, 0, []int{3, 0}, 1, []int{3, 0}}, {[]int{1, 2}, 1, []int{3, 0}, 0, []int{1, 2}}, {[]int{1, 2}, 0, []int{3, 0}, 0, []int{0, 0}}, {[]int{1, 2}, 9, []int{3, 0}, 9, []int{36, 18}}, {[]int{1, 2, 3}, 1, []int{3, 2, 1}, 1, []int{4, 4, 4}},
		{[]int{0}, 9, []int{0}, 9, []int{0}}, {[]int{7}, 3, []int{5}, 4, []int{41}}, {[]int{1}, 0, []int{1}, 0, []int{0}}, {make([]int, 9), 9, make([]int, 9), 9, make([]int, 9)}, {[]int{1, 2, 3, 4, 5, 6, 7, 8, 9}, 9, []int{9, 8, 7, 6, 5, 4, 3, 2, 1}, 1, []int{18, 26, 34, 42, 50, 58, 66, 74, 82}},
		{full, 1, full, 0, full}, {full, 0, full, 1, full}, {full, 0, full, 0, make([]int, 9)}, {full, 1, full, 1, nil}, {full, 2, full, 0, nil}, {full, 0, full, 2, nil}, {full, 9, full, 9, nil}, {full, 1, make([]int, 9), 9, full}, {full, 2, make([]int, 9), 9, nil},
		{[]int{10000}, 9, []int{10000}, 1, []int{100000}}, {[]int{10000}, 9, []int{10001}, 1, nil}, {[]int{10000}, 1, []int{10000}, 9, []int{100000}}, {[]int{10001}, 1, []int{10000}, 9, nil}, {[]int{0, 50000}, 1, []int{1, 50000}, 1, []int{1, 100000}}, {[]int{0, 50000}, 1, []int{1, 50001}, 1, nil}, {[]int{50001, 0}, 1, []int{50000, 3}, 1, nil}, {[]int{99999, 0}, 1, []int{1, 0}, 1, []int{100000, 0}}, {[]int{99999, 0}, 1, []int{1, 0}, 2, nil}, {[]int{11111}, 9, []int{1}, 1, []int{100000}}, {[]int{11112}, 9, []int{0}, 9, nil},
		{[]int{1, 2}, -1, []int{3, 0}, 1, nil}, {[]int{1, 2}, 1, []int{3, 0}, -1, nil}, {[]int{1, 2}, 10, []int{3, 0}, 1, nil}, {[]int{1, 2}, 1, []int{3, 0}, 10, nil}, {[]int{0, 0}, 10, []int{0, 0}, 0, nil}, {[]int{0, 0}, 0, []int{0, 0}, -1, nil}, {[]int{5, 5}, 2, []int{5, 5}, -1, nil}, {[]int{5, 5}, -1, []int{5, 5}, 2, nil},
		{[]int{1, 2}, 1, []int{3}, 1, nil}, {[]int{1}, 1, []int{3, 0}, 1, nil}, {[]int{1, 2}, 0, []int{3}, 0, nil}, {nil, 0, nil, 0, nil}, {[]int{}, 1, []int{}, 1, nil}, {nil, 1, []int{1}, 1, nil}, {[]int{1}, 1, nil, 1, nil}, {make([]int, 10), 0, make([]int, 10), 0, nil}, {make([]int, 10), 1, make([]int, 9), 1, nil}, {make([]int, 9), 1, make([]int, 10), 1, nil},
		{[]int{-1, 2}, 1, []int{3, 0}, 1, nil}, {[]int{3, 0}, 1, []int{-1, 2}, 1, nil}, {[]int{-1, 2}, 0, []int{3, 0}, 1, nil}, {[]int{3, 0}, 1, []int{-1, 2}, 0, nil}, {[]int{100001}, 0, []int{3}, 1, nil}, {[]int{3}, 1, []int{100001}, 0, nil},
		{[]int{math.MaxInt}, 9, []int{math.MaxInt}, 9, nil}, {[]int{math.MinInt}, 2, []int{0}, 1, nil}, {[]int{0}, 1, []int{math.MinInt}, 2, nil}, {[]int{math.MaxInt}, 1, []int{math.MinInt}, 1, nil}, {[]int{1}, math.MaxInt, []int{1}, math.MinInt, nil}, {[]int{0}, math.MinInt, []int{0}, math.MinInt, nil}, {[]int{0}, math.MaxInt, []int{0}, math.MaxInt, nil}, {[]int{2}, math.MaxInt/2 + 1, []int{2}, math.MaxInt/2 + 1, nil},
	}
	for _, c := range cases {
		if got, ok := impl.MixedRow(c.a, c.timesA, c.b, c.timesB); !isTold(got, ok, c.want) {
			t.Error(c, got, ok)
		}
	}
}

func TestMixedRowsOneByOne(t *testing.T) {
	withMixes(func(a []int, timesA int, b []int, timesB int) {
		want := lightRow(mixedOneByOne(a, timesA, b, timesB))
		if got, ok := impl.MixedRow(a, timesA, b, timesB); !isTold(got, ok, want) {
			t.Error(a, timesA, b, timesB, got, ok)
		}
		if got, ok := impl.MixedRow(b, timesB, a, timesA); !isTold(got, ok, want) {
			t.Error("exchanged", a, timesA, b, timesB, got, ok)
		}
	})
}

func TestRowsAreMixedAllNumbersOfTimes(t *testing.T) {
	for _, row := range rowsOf(4, []int{0, 1, 7, 10000, 100000}) {
		a, b := row[:2], row[2:]
		for _, times := range rowsOf(2, numbersTo(10)) {
			want := lightRow(mixedOneByOne(a, times[0], b, times[1]))
			if got, ok := impl.MixedRow(a, times[0], b, times[1]); !isTold(got, ok, want) {
				t.Error(a, b, times, got, ok)
			}
		}
	}
}

func TestJustTheGreatestWeightInAMixedRow(t *testing.T) {
	for draws := 0; draws <= 8; draws++ {
		for count := range draws + 1 {
			a, b := single(draws, count, 11000), single(draws, count, 1000)
			if got, ok := impl.MixedRow(a, 9, b, 1); !isTold(got, ok, single(draws, count, 100000)) {
				t.Error(a, b, got, ok)
			}
			b[count]++
			if got, ok := impl.MixedRow(a, 9, b, 1); !isTold(got, ok, nil) {
				t.Error(a, b, got, ok)
			}
		}
	}
}

func TestMixedAndShortenedIsShortenedAndMixed(t *testing.T) {
	withMixes(func(a []int, timesA int, b []int, timesB int) {
		shortA, okA := impl.ShorterRow(a)
		shortB, okB := impl.ShorterRow(b)
		if !okA || !okB {
			return
		}
		want, okWant := impl.MixedRow(shortA, timesA, shortB, timesB)
		// No weight is greater than that of the shorter row it comes into, so a row that is too heavy before is so behind.
		mixed, ok := impl.MixedRow(a, timesA, b, timesB)
		if okWant && !ok {
			t.Error(a, timesA, b, timesB, want)
		}
		if !ok {
			return
		}
		if got, ok := impl.ShorterRow(mixed); ok != okWant || !slices.Equal(got, want) {
			t.Error(a, timesA, b, timesB, got, ok, want, okWant)
		}
	})
}

func TestNoMixedRows(t *testing.T) {
	withoutMixes(func(a []int, timesA int, b []int, timesB int) {
		if got, ok := impl.MixedRow(a, timesA, b, timesB); !isTold(got, ok, nil) {
			t.Error(a, timesA, b, timesB, got, ok)
		}
	})
}

// Promise 79.

func TestRowSums(t *testing.T) {
	cases := []struct {
		row             []int
		sum, withCounts int
	}{
		{[]int{1, 0, 3}, 4, 6}, {[]int{0}, 0, 0}, {[]int{1}, 1, 0}, {[]int{100000}, 100000, 0}, {[]int{0, 1}, 1, 1}, {[]int{1, 0}, 1, 0}, {[]int{0, 100000}, 100000, 100000}, {[]int{3, 9, 3}, 15, 15}, {[]int{1, 2, 3}, 6, 8},
		{make([]int, 9), 0, 0}, {[]int{0, 0, 0, 0, 0, 0, 0, 0, 1}, 1, 8}, {[]int{1, 0, 0, 0, 0, 0, 0, 0, 0}, 1, 0}, {[]int{1, 2, 3, 4, 5, 6, 7, 8, 9}, 45, 240}, {slices.Repeat([]int{100000}, 9), 900000, 3600000},
	}
	for _, c := range cases {
		if sum, withCounts := sumsOf(t, c.row); sum != c.sum || withCounts != c.withCounts {
			t.Error(c, sum, withCounts)
		}
	}
}

func TestRowSumsOfManyRows(t *testing.T) {
	withMixRows(func(row []int) {
		if sum, withCounts := sumsOf(t, row); sum != sumOf(row) || withCounts != sumByNumber(row) {
			t.Error(row, sum, withCounts)
		}
	})
}

func TestCountsFromBothColoursAreAllDraws(t *testing.T) {
	withMixRows(func(row []int) {
		sum, withCounts := sumsOf(t, row)
		if other, otherWithCounts := sumsOf(t, turned(row)); other != sum || withCounts+otherWithCounts != sum*(len(row)-1) {
			t.Error(row, sum, withCounts, other, otherWithCounts)
		}
	})
}

func TestNoRowSums(t *testing.T) {
	for _, row := range noMixRows() {
		if sum, withCounts, ok := impl.RowSums(row); ok || sum != 0 || withCounts != 0 {
			t.Error(row, sum, withCounts, ok)
		}
	}
}

// Promise 80.

func TestSamplesHaveTheirShareOfMarkedOnes(t *testing.T) {
	withSampleRows(func(things, marked, picked int, row []int) {
		sum, withCounts := sumsOf(t, row)
		if withCounts*things != sum*marked*picked {
			t.Error(things, marked, picked, row, sum, withCounts)
		}
	})
}

func TestSharesOfSamplesOneByOne(t *testing.T) {
	cases := []struct{ things, marked, picked, sum, withCounts int }{
		{0, 0, 0, 1, 0}, {1, 1, 1, 1, 1}, {1, 0, 1, 1, 0}, {6, 3, 2, 15, 15}, {6, 2, 3, 20, 20}, {6, 6, 2, 15, 30}, {6, 0, 2, 15, 0}, {6, 3, 0, 1, 0}, {8, 3, 8, 1, 3}, {10, 4, 5, 252, 504}, {30, 15, 4, 27405, 54810}, {16, 8, 8, 12870, 51480},
	}
	for _, c := range cases {
		row, ok := impl.SampleRow(c.things, c.marked, c.picked)
		if sum, withCounts := sumsOf(t, row); !ok || sum != c.sum || withCounts != c.withCounts {
			t.Error(c, row, ok, sum, withCounts)
		}
	}
}

// The general rules: results share no memory, arguments are not written to, nothing is kept.

func TestSampleRowsAreNewMemory(t *testing.T) {
	withSampleRows(func(things, marked, picked int, want []int) {
		newEachTime(t, func() []int {
			row, _ := impl.SampleRow(things, marked, picked)
			if !slices.Equal(row, want) {
				t.Fatal(things, marked, picked, row)
			}
			return row
		})
	})
}

func TestShorterRowsAreNewMemoryAndRowsAreNotWritten(t *testing.T) {
	withMixRows(func(want []int) {
		row := roomy(want)
		impl.MixOk(row)
		impl.RowSums(row)
		newEachTime(t, func() []int {
			shorter, _ := impl.ShorterRow(row)
			unwritten(t, want, row)
			return shorter
		})
		unwritten(t, want, row)
		shorter, _ := impl.ShorterRow(row)
		kept := slices.Clone(shorter)
		spareTouched(row)
		if !slices.Equal(shorter, kept) {
			t.Fatal(want, shorter)
		}
	})
}

func TestMixedRowsAreNewMemoryAndRowsAreNotWritten(t *testing.T) {
	withMixes(func(wantA []int, timesA int, wantB []int, timesB int) {
		a, b := roomy(wantA), roomy(wantB)
		newEachTime(t, func() []int {
			mixed, _ := impl.MixedRow(a, timesA, b, timesB)
			unwritten(t, wantA, a)
			return mixed
		})
		unwritten(t, wantA, a)
		unwritten(t, wantB, b)
		mixed, _ := impl.MixedRow(a, timesA, b, timesB)
		kept := slices.Clone(mixed)
		spareTouched(a)
		spareTouched(b)
		if !slices.Equal(mixed, kept) {
			t.Fatal(wantA, wantB, mixed)
		}
	})
}

func TestARowMayBeMixedWithItself(t *testing.T) {
	withMixRows(func(want []int) {
		row := roomy(want)
		mixed, ok := impl.MixedRow(row, 1, row, 0)
		if !isTold(mixed, ok, want) {
			t.Fatal(want, mixed, ok)
		}
		spareTouched(mixed)
		unwritten(t, want, row)
		if mixed, ok := impl.MixedRow(row, 1, row, 1); !isTold(mixed, ok, lightRow(multiplied(want, 2))) {
			t.Fatal(want, mixed, ok)
		}
		unwritten(t, want, row)
	})
}

func TestRowsOfNoWeightsAreNotWritten(t *testing.T) {
	for _, want := range noMixRows() {
		row := roomy(want)
		impl.MixOk(row)
		impl.ShorterRow(row)
		impl.RowSums(row)
		for _, times := range rowsOf(2, []int{0, 1, 9}) {
			impl.MixedRow(row, times[0], row, times[1])
		}
		unwritten(t, want, row)
	}
}

func TestMixturesAreNotKept(t *testing.T) {
	for range 3 {
		if row, ok := impl.ShorterRow([]int{1, 0, 3}); !isTold(row, ok, []int{2, 6}) {
			t.Fatal(row, ok)
		}
		if row, ok := impl.SampleRow(6, 3, 2); !isTold(row, ok, []int{3, 9, 3}) {
			t.Fatal(row, ok)
		}
		if row, ok := impl.MixedRow([]int{1, 2}, 2, []int{3, 0}, 1); !isTold(row, ok, []int{5, 4}) {
			t.Fatal(row, ok)
		}
		if sum, withCounts, ok := impl.RowSums([]int{1, 0, 3}); !ok || sum != 4 || withCounts != 6 {
			t.Fatal(sum, withCounts, ok)
		}
		if !impl.MixOk([]int{1, 0, 3}) || impl.MixOk(nil) {
			t.Fatal("rows")
		}
		impl.MixOk(make([]int, 10))
		impl.ShorterRow([]int{100000, 100000})
		impl.SampleRow(30, 15, 8)
		impl.SampleRow(math.MaxInt, math.MinInt, 0)
		impl.MixedRow([]int{100000}, 9, []int{100000}, 9)
		impl.MixedRow([]int{1}, math.MaxInt, []int{1}, math.MinInt)
		impl.RowSums([]int{math.MaxInt, math.MinInt})
	}
}
