package tests

import (
	"math"
	"math/big"
	"math/bits"
	"slices"
	"testing"

	"loop.example/urnsandballs/impl"
)

// withPicks visits all numbers of things with all numbers of those picked.
func withPicks(visit func(things, picked int)) {
	for things := 0; things <= 30; things++ {
		for picked := 0; picked <= things; picked++ {
			visit(things, picked)
		}
	}
}

// withSamples visits all numbers of things with all numbers of those marked, and of those picked.
func withSamples(visit func(things, marked, picked int)) {
	withPicks(func(things, picked int) {
		for marked := 0; marked <= things; marked++ {
			visit(things, marked, picked)
		}
	})
}

// withBoth visits all samples with all numbers of marked ones among those picked.
func withBoth(visit func(things, marked, picked, both int)) {
	withSamples(func(things, marked, picked int) {
		for both := 0; both <= picked; both++ {
			visit(things, marked, picked, both)
		}
	})
}

// sampleNumbers returns numbers from very small to very large ones, with those of things around the greatest one.
func sampleNumbers() []int {
	return append(wrongAndRight(), 15, 20, 29, 30, 31, 32, 60, 64)
}

// withoutBoth visits samples that may not be, and numbers of both that may not be of samples that may.
func withoutBoth(visit func(things, marked, picked, both int)) {
	withoutSamples(func(things, marked, picked int) {
		for _, both := range append(extremes(), -1, 0, 1, 2, 30, things, marked, picked) {
			visit(things, marked, picked, both)
		}
	})
	withSamples(func(things, marked, picked int) {
		for _, both := range append(extremes(), -31, -picked-1, -1, picked+1, picked+2, picked+31) {
			visit(things, marked, picked, both)
		}
	})
}

// withoutSamples visits numbers of things, of those marked, and of those picked, of which one at least may not be.
func withoutSamples(visit func(things, marked, picked int)) {
	for _, row := range rowsOf(3, sampleNumbers()) {
		if !isSample(row[0], row[1], row[2]) {
			visit(row[0], row[1], row[2])
		}
	}
}

// isSample looks both numbers up in a row of those there may be.
func isSample(things, marked, picked int) bool {
	if !slices.Contains(numbersTo(31), things) {
		return false
	}
	may := numbersTo(things + 1)
	return slices.Contains(may, marked) && slices.Contains(may, picked)
}

// choicesOf returns all choices, as the standard library tells them.
func choicesOf(things, picked int) int {
	return int(new(big.Int).Binomial(int64(things), int64(picked)).Int64())
}

// pickEach visits all ways to pick so many of so many things, each one as the bits of those that are picked.
func pickEach(things, picked int, visit func(those uint)) {
	for those := range uint(1) << things {
		if bits.OnesCount(those) == picked {
			visit(those)
		}
	}
}

// markedRow picks things one by one, the first ones of which are marked, and counts the ways by how many marked ones are among them.
func markedRow(things, marked, picked int) []int {
	row := make([]int, picked+1)
	pickEach(things, picked, func(those uint) { row[bits.OnesCount(those&(1<<marked-1))]++ })
	return row
}

// markedWaysOf returns MarkedWays of all numbers of both.
func markedWaysOf(things, marked, picked int) []int {
	var row []int
	for both := range picked + 1 {
		row = append(row, impl.MarkedWays(things, marked, picked, both))
	}
	return row
}

// oneThingMore returns the ways by how many are picked, and how many of these are marked, with one thing more that is picked or left.
func oneThingMore(ways [31][31]int, isMarked bool) [31][31]int {
	more := ways
	for picked := 1; picked < 31; picked++ {
		for both := range 31 {
			before := both
			if isMarked {
				before--
			}
			if before >= 0 {
				more[picked][both] += ways[picked-1][before]
			}
		}
	}
	return more
}

// withWaysByThings visits all numbers of things, and of those marked, with the ways as they grow thing by thing.
func withWaysByThings(visit func(things, marked int, ways [31][31]int)) {
	var ofMarked [31][31]int
	ofMarked[0][0] = 1
	for marked := 0; marked <= 30; marked++ {
		ways := ofMarked
		for things := marked; things <= 30; things++ {
			visit(things, marked, ways)
			ways = oneThingMore(ways, false)
		}
		ofMarked = oneThingMore(ofMarked, true)
	}
}

// withKnown visits all numbers of marked ones, picked ones, and both, for which the likeliest number of things is told.
func withKnown(visit func(marked, picked, both int)) {
	for marked := 1; marked <= 9; marked++ {
		for picked := 1; picked <= 9; picked++ {
			for both := 1; both <= marked && both <= picked; both++ {
				visit(marked, picked, both)
			}
		}
	}
}

// chanceOfBoth returns the chance that just so many marked ones are among those picked.
func chanceOfBoth(things, marked, picked, both int) *big.Rat {
	choices := func(a, b int) *big.Int { return new(big.Int).Binomial(int64(a), int64(b)) }
	ways := new(big.Int).Mul(choices(marked, both), choices(things-marked, picked-both))
	return new(big.Rat).SetFrac(ways, choices(things, picked))
}

// likeliestTried tries all numbers of things up to twice as many as may be told, and returns the last one of those that are likeliest.
func likeliestTried(marked, picked, both int) int {
	likeliest, most := 0, new(big.Rat)
	for things := max(marked, picked); things <= 162; things++ {
		if chance := chanceOfBoth(things, marked, picked, both); chance.Cmp(most) >= 0 {
			likeliest, most = things, chance
		}
	}
	return likeliest
}

// pickCase is how many are picked of so many things, and in how many ways.
type pickCase struct{ things, picked, want int }

// toldOfPicks checks the ways to pick things.
func toldOfPicks(t *testing.T, cases []pickCase) {
	t.Helper()
	for _, c := range cases {
		if got := impl.PickWays(c.things, c.picked); got != c.want {
			t.Error(c, got)
		}
	}
}

// bothCase is a sample with a number of both, and what is to be told of it.
type bothCase struct{ things, marked, picked, both, want int }

// toldOfBoth checks what is told of samples with a number of both.
func toldOfBoth(t *testing.T, told func(things, marked, picked, both int) int, cases []bothCase) {
	t.Helper()
	for _, c := range cases {
		if got := told(c.things, c.marked, c.picked, c.both); got != c.want {
			t.Error(c, got)
		}
	}
}

// toldOfNoSample checks that -1 is told of numbers of which one at least may not be.
func toldOfNoSample(t *testing.T, told func(things, marked, picked, both int) int) {
	t.Helper()
	withoutBoth(func(things, marked, picked, both int) {
		if got := told(things, marked, picked, both); got != -1 {
			t.Error(things, marked, picked, both, got)
		}
	})
	toldOfBoth(t, told, []bothCase{
		{-1, 0, 0, 0, -1}, {-1, -1, -1, -1, -1}, {31, 0, 0, 0, -1}, {31, 1, 1, 1, -1}, {31, 31, 31, 31, -1}, {31, 31, 0, 0, -1},
		{0, 1, 0, 0, -1}, {0, 0, 1, 0, -1}, {0, 0, 0, 1, -1}, {0, 0, 0, -1, -1}, {5, 6, 2, 1, -1}, {5, 2, 6, 1, -1}, {5, -1, 2, 0, -1}, {5, 2, -1, 0, -1}, {5, 2, -1, -1, -1},
		{6, 3, 2, 3, -1}, {6, 3, 2, -1, -1}, {6, 2, 3, 4, -1}, {30, 30, 30, 31, -1}, {30, 30, 30, -1, -1}, {30, 31, 30, 30, -1}, {30, 30, 31, 30, -1}, {30, 30, 31, 31, -1},
		{math.MaxInt, 1, 1, 1, -1}, {math.MinInt, 1, 1, 1, -1}, {math.MaxInt, math.MaxInt, math.MaxInt, math.MaxInt, -1}, {math.MinInt, math.MinInt, math.MinInt, math.MinInt, -1},
		{6, 3, 2, math.MaxInt, -1}, {6, 3, 2, math.MinInt, -1}, {6, 3, math.MaxInt, 1, -1}, {6, math.MaxInt, 2, 1, -1}, {6, math.MinInt, 2, 1, -1}, {6, 3, math.MinInt, 1, -1},
	})
}

// Promise 69.

func TestPicks(t *testing.T) {
	toldOfPicks(t, []pickCase{
		{0, 0, 1}, {0, 1, 0}, {0, 2, 0}, {0, 30, 0}, {0, 31, 0}, {1, 0, 1}, {1, 1, 1}, {1, 2, 0}, {2, 0, 1}, {2, 1, 2}, {2, 2, 1}, {2, 5, 0},
		{5, 2, 10}, {5, 3, 10}, {6, 3, 20}, {10, 4, 210}, {10, 5, 252}, {15, 7, 6435}, {20, 10, 184756}, {29, 14, 77558760},
		{30, 0, 1}, {30, 1, 30}, {30, 2, 435}, {30, 14, 145422675}, {30, 15, 155117520}, {30, 16, 145422675}, {30, 28, 435}, {30, 29, 30}, {30, 30, 1}, {30, 31, 0}, {30, 32, 0},
	})
}

func TestPicksOneByOne(t *testing.T) {
	for things := 0; things <= 12; things++ {
		for picked := 0; picked <= things+1; picked++ {
			want := 0
			pickEach(things, picked, func(uint) { want++ })
			if got := impl.PickWays(things, picked); got != want {
				t.Error(things, picked, got, want)
			}
		}
	}
}

func TestPicksOfAllNumbersOfThings(t *testing.T) {
	for things := 0; things <= impl.MaxThings; things++ {
		together := 0
		for picked := 0; picked <= things; picked++ {
			got := impl.PickWays(things, picked)
			if got != choicesOf(things, picked) {
				t.Error(things, picked, got)
			}
			together += got
		}
		if together != 1<<things {
			t.Error(things, together)
		}
	}
}

func TestToPickSomeIsToLeaveTheOthers(t *testing.T) {
	withPicks(func(things, picked int) {
		if got, others := impl.PickWays(things, picked), impl.PickWays(things, things-picked); got != others {
			t.Error(things, picked, got, others)
		}
	})
}

func TestOneThingMoreIsPickedOrLeft(t *testing.T) {
	for things := range impl.MaxThings {
		for picked := range things + 4 {
			want := impl.PickWays(things, picked)
			if picked > 0 {
				want += impl.PickWays(things, picked-1)
			}
			if got := impl.PickWays(things+1, picked); got != want {
				t.Error(things, picked, got, want)
			}
		}
	}
}

func TestMoreArePickedThanThereAre(t *testing.T) {
	for things := 0; things <= 30; things++ {
		for _, picked := range append(sampleNumbers(), things+1, things+2, 2*things+1) {
			if picked <= things {
				continue
			}
			if got := impl.PickWays(things, picked); got != 0 {
				t.Error(things, picked, got)
			}
		}
	}
}

func TestNoPicks(t *testing.T) {
	for _, row := range rowsOf(2, sampleNumbers()) {
		things, picked := row[0], row[1]
		if slices.Contains(numbersTo(31), things) && picked >= 0 {
			continue
		}
		if got := impl.PickWays(things, picked); got != -1 {
			t.Error(things, picked, got)
		}
	}
	toldOfPicks(t, []pickCase{
		{-1, 0, -1}, {-1, 1, -1}, {-1, -1, -1}, {31, 0, -1}, {31, 1, -1}, {31, 31, -1}, {31, 32, -1}, {31, -1, -1}, {0, -1, -1}, {1, -1, -1}, {3, -1, -1}, {30, -1, -1},
		{math.MaxInt, 0, -1}, {math.MaxInt, math.MaxInt, -1}, {math.MinInt, 0, -1}, {math.MinInt, math.MinInt, -1}, {5, math.MinInt, -1}, {math.MinInt, math.MaxInt, -1},
	})
}

// Promise 70.

func TestSamples(t *testing.T) {
	cases := []struct {
		things, marked, picked int
		want                   bool
	}{
		{0, 0, 0, true}, {0, 1, 0, false}, {0, 0, 1, false}, {1, 0, 0, true}, {1, 1, 0, true}, {1, 0, 1, true}, {1, 1, 1, true}, {1, 2, 1, false}, {1, 1, 2, false},
		{5, 5, 0, true}, {5, 6, 0, false}, {5, 0, 5, true}, {5, 0, 6, false}, {5, 3, 4, true}, {5, -1, 4, false}, {5, 3, -1, false}, {5, -1, -1, false},
		{30, 0, 0, true}, {30, 30, 30, true}, {30, 31, 30, false}, {30, 30, 31, false}, {31, 0, 0, false}, {31, 31, 31, false}, {31, 30, 30, false}, {-1, 0, 0, false}, {-1, -1, -1, false},
		{math.MaxInt, 1, 1, false}, {math.MaxInt, math.MaxInt, math.MaxInt, false}, {math.MinInt, 0, 0, false}, {math.MinInt, math.MinInt, math.MinInt, false},
		{6, math.MaxInt, 1, false}, {6, 1, math.MaxInt, false}, {6, math.MinInt, 1, false}, {6, 1, math.MinInt, false},
	}
	for _, c := range cases {
		if got := impl.SampleOk(c.things, c.marked, c.picked); got != c.want {
			t.Error(c, got)
		}
	}
}

func TestAllSamples(t *testing.T) {
	withSamples(func(things, marked, picked int) {
		if !impl.SampleOk(things, marked, picked) {
			t.Error(things, marked, picked)
		}
	})
}

func TestMarkedAndPickedExchangedAreASample(t *testing.T) {
	for _, row := range rowsOf(3, sampleNumbers()) {
		things, marked, picked := row[0], row[1], row[2]
		got, exchanged := impl.SampleOk(things, marked, picked), impl.SampleOk(things, picked, marked)
		if got != exchanged || got != isSample(things, marked, picked) {
			t.Error(things, marked, picked, got, exchanged)
		}
		if got && (!impl.SampleOk(things, 0, picked) || !impl.SampleOk(things, marked, 0)) {
			t.Error("nothing marked, or nothing picked", things, marked, picked)
		}
	}
}

func TestNoSamples(t *testing.T) {
	withoutSamples(func(things, marked, picked int) {
		if impl.SampleOk(things, marked, picked) {
			t.Error(things, marked, picked)
		}
	})
	for things := 0; things <= 30; things++ {
		for _, wrong := range append(extremes(), -31, -things-1, -1, things+1, 31) {
			if impl.SampleOk(things, wrong, 0) || impl.SampleOk(things, 0, wrong) || impl.SampleOk(things, wrong, things) || impl.SampleOk(things, things, wrong) {
				t.Error(things, wrong)
			}
		}
	}
}

// Promise 71.

func TestMarkedWays(t *testing.T) {
	toldOfBoth(t, impl.MarkedWays, []bothCase{
		{0, 0, 0, 0, 1}, {1, 0, 0, 0, 1}, {1, 1, 0, 0, 1}, {1, 0, 1, 0, 1}, {1, 0, 1, 1, 0}, {1, 1, 1, 0, 0}, {1, 1, 1, 1, 1},
		{6, 3, 2, 0, 3}, {6, 3, 2, 1, 9}, {6, 3, 2, 2, 3}, {6, 3, 4, 0, 0}, {6, 3, 4, 1, 3}, {6, 3, 4, 2, 9}, {6, 3, 4, 3, 3}, {6, 3, 4, 4, 0},
		{10, 4, 5, 2, 120}, {10, 5, 4, 2, 100}, {10, 0, 4, 0, 210}, {10, 0, 4, 1, 0}, {10, 10, 4, 4, 210}, {10, 10, 4, 3, 0}, {10, 4, 0, 0, 1}, {10, 4, 10, 4, 1}, {10, 4, 10, 3, 0}, {10, 4, 10, 5, 0},
		{30, 15, 15, 7, 41409225}, {30, 15, 15, 0, 1}, {30, 15, 15, 15, 1}, {30, 30, 15, 15, 155117520}, {30, 0, 15, 0, 155117520}, {30, 30, 30, 30, 1}, {30, 0, 30, 0, 1}, {30, 1, 1, 1, 1}, {30, 1, 1, 0, 29}, {30, 29, 2, 0, 0},
	})
}

func TestMarkedWaysOneByOne(t *testing.T) {
	withSamples(func(things, marked, picked int) {
		if things > 9 {
			return
		}
		if row, want := markedWaysOf(things, marked, picked), markedRow(things, marked, picked); !slices.Equal(row, want) {
			t.Error(things, marked, picked, row, want)
		}
	})
}

func TestMarkedWaysThingByThing(t *testing.T) {
	withWaysByThings(func(things, marked int, ways [31][31]int) {
		for picked := 0; picked <= things; picked++ {
			if row := markedWaysOf(things, marked, picked); !slices.Equal(row, ways[picked][:picked+1]) {
				t.Error(things, marked, picked, row)
			}
		}
	})
}

func TestMarkedFirstOrPickedFirstIsTheSame(t *testing.T) {
	withBoth(func(things, marked, picked, both int) {
		if both > marked {
			return
		}
		got := impl.MarkedWays(things, marked, picked, both) * impl.PickWays(things, marked)
		if exchanged := impl.MarkedWays(things, picked, marked, both) * impl.PickWays(things, picked); got != exchanged {
			t.Error(things, marked, picked, both, got, exchanged)
		}
	})
}

func TestAllNumbersOfBothAreTogetherAllChoices(t *testing.T) {
	withSamples(func(things, marked, picked int) {
		if row, all := markedWaysOf(things, marked, picked), impl.PickWays(things, picked); sumOf(row) != all {
			t.Error(things, marked, picked, row, all)
		}
	})
}

func TestNumbersOfBothThatCanNeverBe(t *testing.T) {
	withBoth(func(things, marked, picked, both int) {
		got := impl.MarkedWays(things, marked, picked, both)
		if canBe := both <= marked && picked-both <= things-marked; (got > 0) != canBe || got < 0 {
			t.Error(things, marked, picked, both, got)
		}
	})
}

func TestMarkedOnesAmongThosePickedOrAmongThoseLeft(t *testing.T) {
	withBoth(func(things, marked, picked, both int) {
		if both > marked || marked-both > things-picked {
			return
		}
		got := impl.MarkedWays(things, marked, picked, both)
		if left := impl.MarkedWays(things, marked, things-picked, marked-both); got != left {
			t.Error("left", things, marked, picked, both, got, left)
		}
		if others := impl.MarkedWays(things, things-marked, picked, picked-both); got != others {
			t.Error("others", things, marked, picked, both, got, others)
		}
	})
}

func TestNoMarkedWays(t *testing.T) {
	toldOfNoSample(t, impl.MarkedWays)
}

// Promise 72.

func TestTails(t *testing.T) {
	toldOfBoth(t, impl.TailWays, []bothCase{
		{0, 0, 0, 0, 1}, {1, 0, 0, 0, 1}, {1, 1, 0, 0, 1}, {1, 0, 1, 0, 1}, {1, 0, 1, 1, 0}, {1, 1, 1, 0, 1}, {1, 1, 1, 1, 1},
		{6, 3, 2, 0, 15}, {6, 3, 2, 1, 12}, {6, 3, 2, 2, 3}, {6, 3, 4, 0, 15}, {6, 3, 4, 1, 15}, {6, 3, 4, 2, 12}, {6, 3, 4, 3, 3}, {6, 3, 4, 4, 0},
		{10, 0, 4, 0, 210}, {10, 0, 4, 1, 0}, {10, 10, 4, 0, 210}, {10, 10, 4, 4, 210}, {10, 4, 0, 0, 1}, {10, 4, 10, 0, 1}, {10, 4, 10, 4, 1}, {10, 4, 10, 5, 0}, {10, 4, 10, 10, 0},
		{30, 15, 15, 0, 155117520}, {30, 15, 15, 1, 155117519}, {30, 15, 15, 8, 77558760}, {30, 15, 15, 14, 226}, {30, 15, 15, 15, 1}, {30, 30, 30, 30, 1}, {30, 30, 30, 0, 1}, {30, 0, 30, 0, 1}, {30, 0, 30, 1, 0},
	})
}

func TestTailsAreSums(t *testing.T) {
	withBoth(func(things, marked, picked, both int) {
		got := impl.TailWays(things, marked, picked, both)
		if want := sumOf(markedWaysOf(things, marked, picked)[both:]); got != want {
			t.Error(things, marked, picked, both, got, want)
		}
	})
}

func TestTailsOneByOne(t *testing.T) {
	withBoth(func(things, marked, picked, both int) {
		if things > 8 {
			return
		}
		if got, want := impl.TailWays(things, marked, picked, both), sumOf(markedRow(things, marked, picked)[both:]); got != want {
			t.Error(things, marked, picked, both, got, want)
		}
	})
}

func TestATailFromNothingOnIsAllChoices(t *testing.T) {
	withSamples(func(things, marked, picked int) {
		if got, all := impl.TailWays(things, marked, picked, 0), impl.PickWays(things, picked); got != all {
			t.Error(things, marked, picked, got, all)
		}
		if got, last := impl.TailWays(things, marked, picked, picked), impl.MarkedWays(things, marked, picked, picked); got != last {
			t.Error("from all that are picked on", things, marked, picked, got, last)
		}
	})
}

func TestATailWithOneMoreIsLessByJustTheWaysOfSoMany(t *testing.T) {
	withBoth(func(things, marked, picked, both int) {
		if both == picked {
			return
		}
		got, shorter := impl.TailWays(things, marked, picked, both), impl.TailWays(things, marked, picked, both+1)
		if ways := impl.MarkedWays(things, marked, picked, both); got-shorter != ways {
			t.Error(things, marked, picked, both, got, shorter, ways)
		}
	})
}

func TestNoTails(t *testing.T) {
	toldOfNoSample(t, impl.TailWays)
}

// Promise 73.

func TestLikeliestThings(t *testing.T) {
	cases := []struct{ marked, picked, both, want int }{
		{1, 1, 1, 1}, {1, 9, 1, 9}, {9, 1, 1, 9}, {9, 9, 1, 81}, {9, 9, 9, 9}, {9, 9, 8, 10}, {9, 9, 2, 40}, {9, 9, 5, 16}, {8, 9, 8, 9}, {9, 8, 8, 9}, {9, 8, 7, 10},
		{4, 6, 2, 12}, {5, 5, 3, 8}, {2, 2, 1, 4}, {2, 2, 2, 2}, {3, 5, 2, 7}, {5, 3, 2, 7}, {5, 7, 4, 8}, {6, 4, 4, 6}, {4, 6, 4, 6}, {7, 7, 6, 8}, {5, 6, 1, 30}, {6, 5, 1, 30}, {4, 8, 1, 32},
		{2, 2, 3, -1}, {0, 1, 1, -1}, {1, 0, 1, -1}, {0, 0, 0, -1}, {0, 5, 0, -1}, {10, 1, 1, -1}, {1, 10, 1, -1}, {10, 10, 10, -1}, {9, 10, 9, -1}, {10, 9, 9, -1},
		{1, 1, 0, -1}, {9, 9, 0, -1}, {9, 9, 10, -1}, {1, 9, 2, -1}, {9, 1, 2, -1}, {4, 6, 5, -1}, {6, 4, 5, -1}, {4, 6, -1, -1}, {-1, -1, -1, -1}, {-4, 6, 2, -1}, {4, -6, 2, -1}, {-4, -6, -2, -1},
		{math.MaxInt, 1, 1, -1}, {1, math.MaxInt, 1, -1}, {math.MaxInt, math.MaxInt, math.MaxInt, -1}, {5, 5, math.MaxInt, -1}, {5, 5, math.MinInt, -1}, {math.MinInt, math.MinInt, math.MinInt, -1}, {math.MinInt, 1, -1, -1},
	}
	for _, c := range cases {
		if got := impl.LikeliestThings(c.marked, c.picked, c.both); got != c.want {
			t.Error(c, got)
		}
	}
}

func TestLikeliestThingsTriedOneByOne(t *testing.T) {
	withKnown(func(marked, picked, both int) {
		got, exchanged := impl.LikeliestThings(marked, picked, both), impl.LikeliestThings(picked, marked, both)
		if want := likeliestTried(marked, picked, both); got != want || exchanged != want {
			t.Error(marked, picked, both, got, exchanged, want)
		}
	})
}

func TestOneThingMoreIsLessLikely(t *testing.T) {
	withKnown(func(marked, picked, both int) {
		things := impl.LikeliestThings(marked, picked, both)
		if !impl.SampleOk(things+1, marked, picked) {
			return
		}
		likely := impl.MarkedWays(things, marked, picked, both) * impl.PickWays(things+1, picked)
		if more := impl.MarkedWays(things+1, marked, picked, both) * impl.PickWays(things, picked); likely <= more {
			t.Error(marked, picked, both, things, likely, more)
		}
	})
}

func TestOneThingFewerIsNoLikelier(t *testing.T) {
	withKnown(func(marked, picked, both int) {
		things := impl.LikeliestThings(marked, picked, both)
		if !impl.SampleOk(things, marked, picked) || !impl.SampleOk(things-1, marked, picked) {
			return
		}
		likely := impl.MarkedWays(things, marked, picked, both) * impl.PickWays(things-1, picked)
		if fewer := impl.MarkedWays(things-1, marked, picked, both) * impl.PickWays(things, picked); likely < fewer {
			t.Error(marked, picked, both, things, likely, fewer)
		}
	})
}

func TestLikeliestThingsAreJustThoseThereMustBe(t *testing.T) {
	withKnown(func(marked, picked, both int) {
		got := impl.LikeliestThings(marked, picked, both)
		// All that are marked or picked are there; with both as many as the lesser one no others are likelier.
		if seen := marked + picked - both; got < seen || both == min(marked, picked) && got != seen {
			t.Error(marked, picked, both, got)
		}
	})
}

func TestNoLikeliestThings(t *testing.T) {
	known := map[[3]int]bool{}
	withKnown(func(marked, picked, both int) { known[[3]int{marked, picked, both}] = true })
	for _, row := range rowsOf(3, append(sampleNumbers(), 10, 11)) {
		if known[[3]int(row)] {
			continue
		}
		if got := impl.LikeliestThings(row[0], row[1], row[2]); got != -1 {
			t.Error(row, got)
		}
	}
}

// Promise 74.

func TestToPickOfWhatIsPickedIsToPickAndThenMore(t *testing.T) {
	withPicks(func(things, picked int) {
		for fewer := 0; fewer <= picked; fewer++ {
			got := impl.PickWays(things, picked) * impl.PickWays(picked, fewer)
			if want := impl.PickWays(things, fewer) * impl.PickWays(things-fewer, picked-fewer); got != want || got < 1 {
				t.Error(things, picked, fewer, got, want)
			}
		}
	})
}

func TestPicksOfWhatIsPickedOneByOne(t *testing.T) {
	for things := 0; things <= 7; things++ {
		for picked := 0; picked <= things; picked++ {
			for fewer := 0; fewer <= picked; fewer++ {
				want := 0
				pickEach(things, picked, func(those uint) {
					pickEach(things, fewer, func(these uint) {
						if these&^those == 0 {
							want++
						}
					})
				})
				if got := impl.PickWays(things, fewer) * impl.PickWays(things-fewer, picked-fewer); got != want {
					t.Error(things, picked, fewer, got, want)
				}
			}
		}
	}
}

// The general rules: nothing is kept.

func TestSamplesAreNotKept(t *testing.T) {
	for range 3 {
		asked := []int{impl.PickWays(5, 2), impl.PickWays(0, 0), impl.PickWays(2, 5), impl.MarkedWays(6, 3, 2, 1), impl.MarkedWays(6, 3, 4, 0), impl.TailWays(6, 3, 2, 1), impl.TailWays(6, 3, 2, 0), impl.LikeliestThings(5, 5, 3)}
		if want := []int{10, 1, 0, 9, 0, 12, 15, 8}; !slices.Equal(asked, want) {
			t.Fatal(asked)
		}
		if !impl.SampleOk(5, 5, 0) || impl.SampleOk(5, 6, 0) {
			t.Fatal("samples")
		}
		impl.PickWays(30, 15)
		impl.PickWays(31, math.MinInt)
		impl.MarkedWays(30, 15, 15, 7)
		impl.MarkedWays(math.MaxInt, math.MaxInt, math.MinInt, 0)
		impl.TailWays(30, 15, 15, 0)
		impl.TailWays(6, 3, 2, math.MaxInt)
		impl.LikeliestThings(9, 9, 1)
		impl.LikeliestThings(10, math.MinInt, 0)
	}
}
