package tests

import (
	"math"
	"slices"
	"testing"

	"loop.example/urnsandballs/impl"
)

// steps returns all steps that may be.
func steps() []int {
	return []int{-1, 0, 1, 2, 3}
}

// wrongSteps returns steps that may not be.
func wrongSteps() []int {
	return append(extremes(), -40, -4, -3, -2, 4, 5, 6, 7, 40, math.MinInt/2, math.MaxInt/2, math.MaxInt/2+1)
}

// withSteps visits urns with all steps that may be.
func withSteps(urns [][]int, visit func(urn []int, step int)) {
	for _, urn := range urns {
		for _, step := range steps() {
			visit(urn, step)
		}
	}
}

// Promise 29.

func TestSameRule(t *testing.T) {
	cases := []struct {
		colours, step int
		want          [][]int
	}{
		{1, -1, [][]int{{-1}}}, {1, 0, [][]int{{0}}}, {1, 3, [][]int{{3}}},
		{2, 2, [][]int{{2, 0}, {0, 2}}}, {2, -1, [][]int{{-1, 0}, {0, -1}}}, {2, 0, [][]int{{0, 0}, {0, 0}}},
		{3, 1, [][]int{{1, 0, 0}, {0, 1, 0}, {0, 0, 1}}}, {3, 3, [][]int{{3, 0, 0}, {0, 3, 0}, {0, 0, 3}}}, {3, -1, [][]int{{-1, 0, 0}, {0, -1, 0}, {0, 0, -1}}},
		{0, 1, nil}, {4, 1, nil}, {2, -2, nil}, {2, 4, nil},
	}
	for _, c := range cases {
		if got := impl.SameRule(c.colours, c.step); !slices.EqualFunc(got, c.want, slices.Equal[[]int]) {
			t.Error(c, got)
		}
	}
}

func TestMoreOfTheSameIsEven(t *testing.T) {
	for colours := 1; colours <= impl.MaxColours; colours++ {
		for step := -1; step <= impl.MaxAdd; step++ {
			rule := impl.SameRule(colours, step)
			if !impl.RuleOk(colours, rule) || !slices.EqualFunc(rule, plainRule(colours, step, 0), slices.Equal[[]int]) {
				t.Fatal(colours, step, rule)
			}
			if many, even := impl.EvenRule(colours, rule); !even || many != step {
				t.Fatal(colours, step, rule, many, even)
			}
		}
	}
}

func TestNoSameRule(t *testing.T) {
	none := func(colours, step int) {
		if got := impl.SameRule(colours, step); len(got) != 0 {
			t.Error(colours, step, got)
		}
	}
	for _, colours := range wrongColours() {
		for _, step := range append(wrongSteps(), steps()...) {
			none(colours, step)
		}
	}
	for colours := range 4 {
		for _, step := range wrongSteps() {
			none(colours, step)
		}
	}
}

// Promise 30.

func TestRisingOf(t *testing.T) {
	cases := []struct{ start, many, step, want int }{
		{0, 0, 1, 1}, {0, 0, -1, 1}, {40, 0, 3, 1}, {7, 0, 0, 1}, {0, 1, -1, 0}, {0, 1, 3, 0}, {0, 6, 3, 0}, {0, 6, -1, 0}, {0, 2, 0, 0},
		{40, 1, 3, 40}, {40, 1, -1, 40}, {7, 1, 0, 7}, {3, 3, 1, 60}, {1, 6, 1, 720}, {1, 6, 0, 1}, {2, 6, 0, 64}, {1, 6, 2, 10395}, {1, 4, 3, 280},
		{6, 6, -1, 720}, {3, 2, -1, 6}, {3, 3, -1, 6}, {2, 2, -1, 2}, {1, 1, -1, 1},
		// Numbers fall to 0, and one, two and more below it.
		{5, 6, -1, 0}, {2, 3, -1, 0}, {2, 4, -1, 0}, {2, 5, -1, 0}, {1, 2, -1, 0}, {1, 3, -1, 0}, {1, 6, -1, 0}, {0, 2, -1, 0}, {0, 3, -1, 0},
		{40, 6, 0, 4096000000}, {40, 6, -1, 40 * 39 * 38 * 37 * 36 * 35}, {40, 6, 1, 40 * 41 * 42 * 43 * 44 * 45}, {40, 6, 3, 40 * 43 * 46 * 49 * 52 * 55},
	}
	for _, c := range cases {
		if got := impl.RisingOf(c.start, c.many, c.step); got != c.want {
			t.Error(c, got)
		}
	}
}

// withRising visits all numbers of which RisingOf tells a product.
func withRising(visit func(start, many, step int)) {
	for start := 0; start <= impl.MaxEach; start++ {
		for many := 0; many <= impl.MaxDraws; many++ {
			for _, step := range steps() {
				visit(start, many, step)
			}
		}
	}
}

func TestRisingProductsOfAllNumbers(t *testing.T) {
	withRising(func(start, many, step int) {
		want, number := 1, start
		for range many {
			want *= max(number, 0)
			number += step
		}
		if got := impl.RisingOf(start, many, step); got != want {
			t.Fatal(start, many, step, got, want)
		}
	})
}

func TestRisingProductsAreMadeOfTwo(t *testing.T) {
	parts := 0
	withRising(func(start, many, step int) {
		whole := impl.RisingOf(start, many, step)
		for cut := range many + 1 {
			later := start + cut*step
			if later < 0 || later > impl.MaxEach {
				continue
			}
			parts++
			if first, second := impl.RisingOf(start, cut, step), impl.RisingOf(later, many-cut, step); whole != first*second {
				t.Fatal(start, many, step, cut, whole, first, second)
			}
		}
	})
	if parts < 4000 {
		t.Fatal("hardly any product was in parts", parts)
	}
}

func TestProductsThatDoNotRiseArePowers(t *testing.T) {
	for start := 0; start <= impl.MaxEach; start++ {
		power := 1
		for many := 0; many <= impl.MaxDraws; many++ {
			if got := impl.RisingOf(start, many, 0); got != power || got != impl.BackAll([]int{start}, many) {
				t.Fatal(start, many, got, power)
			}
			power *= start
		}
	}
}

func TestProductsThatFallAreNoneBelowNothing(t *testing.T) {
	for start := 0; start <= impl.MaxEach; start++ {
		for many := 0; many <= impl.MaxDraws; many++ {
			got := impl.RisingOf(start, many, -1)
			if (got == 0) != (many > start) || got < 0 || got != impl.AllWays([]int{start}, many) {
				t.Fatal(start, many, got)
			}
		}
	}
}

func TestNoRisingOf(t *testing.T) {
	none := func(start, many, step int) {
		if got := impl.RisingOf(start, many, step); got != -1 {
			t.Error(start, many, step, got)
		}
	}
	starts, wrongStarts := []int{0, 1, 20, 40}, append(extremes(), -40, -3, -1, 41, 42, 80)
	manys, wrongManys := numbersTo(7), append(extremes(), -6, -1, 7, 8, 40)
	wrongs := wrongSteps()
	for _, start := range append(slices.Clone(starts), wrongStarts...) {
		for _, many := range append(slices.Clone(manys), wrongManys...) {
			for _, step := range append(steps(), wrongs...) {
				if slices.Contains(wrongStarts, start) || slices.Contains(wrongManys, many) || slices.Contains(wrongs, step) {
					none(start, many, step)
				}
			}
		}
	}
}

func TestRisingOfJustTheMostAndOneMore(t *testing.T) {
	for many := 0; many <= impl.MaxDraws; many++ {
		for _, step := range steps() {
			if impl.RisingOf(impl.MaxEach, many, step) <= 0 || impl.RisingOf(impl.MaxEach+1, many, step) != -1 || impl.RisingOf(-1, many, step) != -1 {
				t.Error(many, step)
			}
		}
	}
	for start := 1; start <= impl.MaxEach; start++ {
		if impl.RisingOf(start, impl.MaxDraws, impl.MaxAdd) <= 0 || impl.RisingOf(start, impl.MaxDraws+1, impl.MaxAdd) != -1 || impl.RisingOf(start, impl.MaxDraws, impl.MaxAdd+1) != -1 || impl.RisingOf(start, -1, -1) != -1 || impl.RisingOf(start, 0, -2) != -1 {
			t.Error(start)
		}
	}
}

// Promise 31.

func TestSameCounts(t *testing.T) {
	cases := []struct {
		urn    []int
		step   int
		counts []int
		want   int
	}{
		{[]int{0}, 3, []int{0}, 1}, {[]int{0, 0, 0}, -1, []int{0, 0, 0}, 1}, {[]int{10, 0}, 2, []int{0, 0}, 1},
		{[]int{0}, 3, []int{1}, 0}, {[]int{0, 0}, 3, []int{3, 3}, 0}, {[]int{0, 5}, 1, []int{1, 2}, 0}, {[]int{0, 5}, 1, []int{0, 2}, 30}, {[]int{5, 0, 1}, 1, []int{1, 0, 1}, 10},
		{[]int{1, 2}, 1, []int{2, 1}, 12}, {[]int{3, 2}, -1, []int{2, 1}, 36}, {[]int{3, 2}, 0, []int{2, 1}, 54}, {[]int{1, 1}, 2, []int{2, 2}, 6 * 3 * 3},
		{[]int{3, 2}, -1, []int{3, 2}, 10 * 6 * 2}, {[]int{3, 2}, -1, []int{3, 3}, 0}, {[]int{3, 2}, -1, []int{4, 0}, 0}, {[]int{3, 2}, -1, []int{0, 6}, 0}, {[]int{1, 1}, -1, []int{3, 3}, 0},
		{[]int{1}, 1, []int{6}, 720}, {[]int{6}, -1, []int{6}, 720}, {[]int{1}, 0, []int{6}, 1}, {[]int{1, 1, 1}, 1, []int{3, 2, 1}, 720}, {[]int{1, 1, 1}, 1, []int{2, 2, 2}, 720},
		{[]int{10}, 3, []int{6}, 10 * 13 * 16 * 19 * 22 * 25}, {[]int{10, 10, 10}, 3, []int{2, 2, 2}, 90 * 130 * 130 * 130}, {[]int{10, 10, 10}, -1, []int{2, 2, 2}, 90 * 90 * 90 * 90},
	}
	for _, c := range cases {
		if got := impl.SameCounts(c.urn, c.step, c.counts); got != c.want {
			t.Error(c, got)
		}
	}
}

func TestByEachStepWordsWithTheSameCountsHaveTheSameWays(t *testing.T) {
	withSteps(append(urnsWith(0, 1, 2, 5, 10), []int{3, 4, 6}), func(urn []int, step int) {
		rule := impl.SameRule(len(urn), step)
		for _, counts := range countRows(len(urn)) {
			word := wordInOrder(counts)
			words, ways := impl.WordsWith(len(urn), counts), impl.RuleWays(urn, rule, word)
			if got := impl.SameCounts(urn, step, counts); got < 0 || got != words*ways || impl.RuleWays(urn, rule, turned(word)) != ways {
				t.Fatal(urn, step, counts, got, words, ways)
			}
		}
	})
}

func TestByEachStepCountsHaveTheWaysOfAllTheirWordsTogether(t *testing.T) {
	withSteps(append(urnsWith(0, 1, 3), []int{10, 10, 10}, []int{2, 7, 5}), func(urn []int, step int) {
		sums := map[[3]int]int{}
		for _, word := range allWords(len(urn)) {
			counts := [3]int{}
			for _, colour := range word {
				counts[colour]++
			}
			sums[counts] += impl.RuleWays(urn, plainRule(len(urn), step, 0), word)
		}
		for counts, want := range sums {
			if got := impl.SameCounts(urn, step, counts[:len(urn)]); got != want {
				t.Fatal(urn, step, counts, got, want)
			}
		}
	})
}

func TestMoreOfTheSameOfBallsThatCanBeToldApart(t *testing.T) {
	withSteps(append(urnsWith(0, 1, 2), []int{10}, []int{3, 1}, []int{0, 4}), func(urn []int, step int) {
		for draws := range 4 {
			sums, balls := map[[3]int]int{}, [3]int{}
			for word, came := range wordsByRule(urn, plainRule(len(urn), step, 0), draws) {
				counts := [3]int{}
				for _, colour := range word[:draws] {
					counts[colour]++
				}
				sums[counts] += came.ways
				for colour, many := range came.behind {
					balls[colour] += came.ways * many
				}
			}
			for _, counts := range countRows(len(urn)) {
				if sumOf(counts) != draws {
					continue
				}
				if got, want := impl.SameCounts(urn, step, counts), sums[[3]int(append(slices.Clone(counts), 0, 0)[:3])]; got != want {
					t.Fatal(urn, step, counts, got, want)
				}
			}
			for colour := range urn {
				if got := impl.ShareSum(urn, step, draws, colour); got != balls[colour] {
					t.Fatal(urn, step, draws, colour, got, balls)
				}
			}
		}
	})
}

func noSameCounts(t *testing.T, urn []int, step int, counts []int) {
	t.Helper()
	if got := impl.SameCounts(urn, step, counts); got != -1 {
		t.Error(urn, step, counts, got)
	}
}

func TestNoSameCounts(t *testing.T) {
	withoutCounts(func(urn, counts []int) {
		noSameCounts(t, urn, 1, counts)
		noSameCounts(t, urn, -1, counts)
		noSameCounts(t, urn, math.MaxInt, counts)
	})
	for _, urn := range noStarts() {
		for length := range 6 {
			for _, step := range append(steps(), -2, 4, math.MinInt) {
				noSameCounts(t, urn, step, make([]int, length))
				noSameCounts(t, urn, step, slices.Repeat([]int{1}, length))
			}
		}
	}
	for _, urn := range urnsWith(0, 1, 10) {
		for _, step := range wrongSteps() {
			noSameCounts(t, urn, step, make([]int, len(urn)))
			noSameCounts(t, urn, step, slices.Repeat([]int{2}, len(urn)))
			noSameCounts(t, urn, step, slices.Repeat([]int{math.MaxInt}, len(urn)))
			noSameCounts(t, urn, step, nil)
		}
	}
}

func TestCountsByStepsOfJustMaxDrawsAndOneMore(t *testing.T) {
	withSteps([][]int{{10}, {10, 10}, {10, 10, 10}}, func(urn []int, step int) {
		for colour := range urn {
			counts := make([]int, len(urn))
			counts[colour] = impl.MaxDraws
			if got, want := impl.SameCounts(urn, step, counts), impl.RisingOf(10, impl.MaxDraws, step); got != want {
				t.Error(urn, step, counts, got, want)
			}
			counts[0]++
			noSameCounts(t, urn, step, counts)
		}
	})
}

func TestMoreOfTheSameOfJustMaxStartAndOneMore(t *testing.T) {
	withSteps([][]int{{10}, {10, 10}, {10, 10, 10}}, func(urn []int, step int) {
		counts := slices.Repeat([]int{1}, len(urn))
		if impl.SameCounts(urn, step, counts) <= 0 || impl.ShareSum(urn, step, 6, 0) <= 0 {
			t.Error(urn, step)
		}
		for colour := range urn {
			more := slices.Clone(urn)
			more[colour] = impl.MaxStart + 1
			noSameCounts(t, more, step, counts)
			noSameCounts(t, more, step, make([]int, len(urn)))
			noShareSum(t, more, step, 6, colour)
			noShareSum(t, more, step, 0, 0)
		}
	})
}

// Promise 32.

func TestShareSum(t *testing.T) {
	cases := []struct {
		urn                      []int
		step, many, colour, want int
	}{
		{[]int{0}, 3, 0, 0, 0}, {[]int{0}, -1, 0, 0, 0}, {[]int{7}, 3, 0, 0, 7}, {[]int{2, 0, 9}, -1, 0, 2, 9}, {[]int{2, 0, 9}, 2, 0, 1, 0},
		{[]int{0}, 3, 1, 0, 0}, {[]int{0, 0, 0}, 3, 6, 1, 0}, {[]int{0, 0}, -1, 6, 1, 0}, {[]int{0, 5}, 3, 6, 0, 0}, {[]int{0, 1}, 1, 2, 1, 1 * 2 * 3},
		{[]int{1, 2}, 1, 2, 0, 20}, {[]int{1, 2}, 1, 2, 1, 40}, {[]int{1, 2}, 1, 1, 0, 1*2 + 2*1}, {[]int{1, 2}, 0, 3, 1, 54}, {[]int{1, 2}, 3, 1, 1, 1*2 + 2*5},
		{[]int{1}, -1, 1, 0, 0}, {[]int{6}, -1, 5, 0, 720}, {[]int{6}, -1, 6, 0, 0}, {[]int{5}, -1, 6, 0, 0},
		{[]int{1, 1}, -1, 1, 0, 1}, {[]int{1, 1}, -1, 2, 0, 0}, {[]int{1, 1}, -1, 3, 0, 0}, {[]int{1, 1}, -1, 6, 1, 0}, {[]int{3, 2}, -1, 2, 0, 3*2*1*1 + 2*3*2*2 + 2*1*3},
		{[]int{10}, 3, 6, 0, 10 * 13 * 16 * 19 * 22 * 25 * 28}, {[]int{10, 10, 10}, 3, 6, 2, 10 * 33 * 36 * 39 * 42 * 45 * 48}, {[]int{10, 10, 10}, -1, 6, 0, 10 * 29 * 28 * 27 * 26 * 25 * 24},
	}
	for _, c := range cases {
		if got := impl.ShareSum(c.urn, c.step, c.many, c.colour); got != c.want {
			t.Error(c, got)
		}
	}
}

func TestOnAverageSharesStay(t *testing.T) {
	withSteps(append(urnsWith(0, 1, 2, 10), []int{2, 5, 3}, []int{7, 0, 4}), func(urn []int, step int) {
		for draws := range 7 {
			all, behind := impl.RuleAll(urn, impl.SameRule(len(urn), step), draws), sumOf(urn)+step*draws
			together := 0
			for colour, balls := range urn {
				got := impl.ShareSum(urn, step, draws, colour)
				if got < 0 || got*sumOf(urn) != balls*behind*all {
					t.Fatal(urn, step, draws, colour, got, behind, all)
				}
				together += got
			}
			if behind >= 0 && together != behind*all || behind < 0 && together != 0 {
				t.Fatal(urn, step, draws, together, behind, all)
			}
		}
	})
}

func TestShareSumsAreOfTheBallsBehindAllWords(t *testing.T) {
	withSteps(append(urnsWith(0, 1, 10), []int{2, 5, 3}), func(urn []int, step int) {
		rule := plainRule(len(urn), step, 0)
		for draws := range 7 {
			want := sumsOverWords(urn, rule, draws)
			for colour := range urn {
				if got := impl.ShareSum(urn, step, draws, colour); got != want[colour] || draws == 0 && got != urn[colour] {
					t.Fatal(urn, step, draws, colour, got, want)
				}
			}
		}
	})
}

func noShareSum(t *testing.T, urn []int, step, many, colour int) {
	t.Helper()
	if got := impl.ShareSum(urn, step, many, colour); got != -1 {
		t.Error(urn, step, many, colour, got)
	}
}

func TestNoShareSumOfNoUrnsAndNoDraws(t *testing.T) {
	withoutDraws(func(urn []int, many int) {
		for colour := -1; colour <= 3; colour++ {
			noShareSum(t, urn, 1, many, colour)
			noShareSum(t, urn, -1, many, colour)
			noShareSum(t, urn, math.MinInt, many, colour)
		}
	})
	for _, urn := range noStarts() {
		for _, many := range []int{0, 1, 3, 6, 7, math.MaxInt} {
			for _, colour := range []int{0, 1, 2, -1, 3, math.MinInt, math.MaxInt} {
				noShareSum(t, urn, 3, many, colour)
				noShareSum(t, urn, -1, many, colour)
			}
		}
	}
}

func TestNoShareSumOfNoStepsAndNoColours(t *testing.T) {
	for _, urn := range urnsWith(0, 1, 10) {
		for _, step := range wrongSteps() {
			for _, many := range append(extremes(), -1, 0, 1, 6, 7) {
				noShareSum(t, urn, step, many, 0)
				noShareSum(t, urn, step, many, len(urn))
				noShareSum(t, urn, step, many, step)
			}
		}
		for _, colour := range append(extremes(), -3, -1, len(urn), len(urn)+1) {
			for _, many := range append(extremes(), -1, 0, 1, 6, 7) {
				for _, step := range append(steps(), -2, 4) {
					noShareSum(t, urn, step, many, colour)
				}
			}
		}
	}
}

func TestShareSumsOfJustMaxDrawsAndOneMore(t *testing.T) {
	withSteps([][]int{{10}, {10, 10}, {10, 10, 10}}, func(urn []int, step int) {
		for colour := range urn {
			if impl.ShareSum(urn, step, impl.MaxDraws, colour) <= 0 {
				t.Error(urn, step, colour)
			}
			noShareSum(t, urn, step, impl.MaxDraws+1, colour)
			noShareSum(t, urn, step, -1, colour)
		}
	})
}

// Promise 33.

func TestAllCountsHaveAllWays(t *testing.T) {
	withSteps(append(urnsWith(0, 1, 4, 10), []int{2, 5, 3}), func(urn []int, step int) {
		sums := [impl.MaxDraws + 1]int{}
		for _, counts := range countRows(len(urn)) {
			sums[sumOf(counts)] += impl.SameCounts(urn, step, counts)
		}
		product := 1
		for draws, sum := range sums {
			if all := impl.RuleAll(urn, impl.SameRule(len(urn), step), draws); all != sum || all != product {
				t.Fatal(urn, step, draws, all, sum, product)
			}
			product *= max(sumOf(urn)+step*draws, 0)
		}
	})
}

// Promise 34.

func TestThreeWaysToDrawAreOne(t *testing.T) {
	for _, urn := range append(urnsWith(0, 1, 2, 5, 10), []int{3, 4, 6}) {
		for _, counts := range countRows(len(urn)) {
			if got, want := impl.SameCounts(urn, 0, counts), impl.BackCounts(urn, counts); got != want {
				t.Fatal("put back", urn, counts, got, want)
			}
			got, want := impl.SameCounts(urn, -1, counts), impl.CountWays(urn, counts)
			if got != want {
				t.Fatal("not put back", urn, counts, got, want)
			}
			if beyond := slices.ContainsFunc(numbersTo(len(urn)), func(colour int) bool { return counts[colour] > urn[colour] }); (got == 0) != beyond {
				t.Fatal("beyond the balls", urn, counts, got)
			}
		}
	}
}

// The general rules: results share no memory, arguments are not written to, nothing is kept.

// spareRowsTouched writes all over the rows of a rule, and puts other rows into its spare capacity.
func spareRowsTouched(rule [][]int) {
	for _, row := range rule {
		spareTouched(row)
	}
	all := rule[:cap(rule)]
	for i := range all {
		all[i] = []int{-77}
	}
}

func TestSameRulesAreNewMemory(t *testing.T) {
	for colours := 1; colours <= 3; colours++ {
		for _, step := range steps() {
			want := plainRule(colours, step, 0)
			for place := range colours {
				rule, other := impl.SameRule(colours, step), impl.SameRule(colours, step)
				spareTouched(rule[place])
				for beside := range colours {
					if beside != place && !slices.Equal(rule[beside], want[beside]) {
						t.Fatal("rows share memory", colours, step, rule)
					}
				}
				spareRowsTouched(rule)
				if !slices.EqualFunc(other, want, slices.Equal[[]int]) {
					t.Fatal("both results share memory", colours, step, other)
				}
				spareRowsTouched(other)
			}
		}
	}
}

func TestSameArgumentsAreNotWritten(t *testing.T) {
	for _, row := range append(urnsWith(0, 2, 10, 11), noUrns()...) {
		for _, other := range [][]int{nil, {0}, {6}, {7}, {2, 1}, {1, -1}, {2, 2, 2}, {2, 0, 1}, {3, 3, 3}, {math.MaxInt, 1}} {
			for _, step := range []int{-2, -1, 0, 3, 4} {
				urn := roomy(row)
				counts := roomy(other)
				impl.SameCounts(urn, step, counts)
				impl.ShareSum(urn, step, 3, 0)
				unwritten(t, row, urn)
				unwritten(t, other, counts)
			}
		}
	}
}

// The urn and the counts may be the same memory.
func TestSameArgumentsMayShareMemory(t *testing.T) {
	row := []int{2, 1}
	for range 2 {
		if got := impl.SameCounts(row, 1, row); got != 3*2*3*1 || !slices.Equal(row, []int{2, 1}) {
			t.Fatal(got, row)
		}
	}
}

func TestSameResultsAreNotKept(t *testing.T) {
	urn, counts := []int{1, 2}, []int{2, 1}
	for range 3 {
		got := []int{impl.RisingOf(3, 3, 1), impl.SameCounts(urn, 1, counts), impl.ShareSum(urn, 1, 2, 0), impl.SameRule(2, 2)[0][0]}
		if !slices.Equal(got, []int{60, 12, 20, 2}) {
			t.Fatal(got)
		}
		impl.RisingOf(40, 6, 3)
		impl.SameCounts([]int{10, 10}, 3, []int{3, 3})
		impl.ShareSum([]int{10, 10}, 3, 6, 1)
		spareRowsTouched(impl.SameRule(2, 3))
	}
}
