package tests

import (
	"math"
	"slices"
	"testing"

	"loop.example/urnsandballs/impl"
)

func TestUrnConstants(t *testing.T) {
	if impl.MaxColours != 3 || impl.MaxEach != 40 {
		t.Fatal(impl.MaxColours, impl.MaxEach)
	}
}

// Promise 1.

func TestUrnsWithoutBallsAreUrns(t *testing.T) {
	for _, urn := range [][]int{{0}, {0, 0}, {0, 0, 0}} {
		if !impl.UrnOk(urn) {
			t.Error(urn)
		}
	}
}

func TestUrnsOfEachSizeAreUrns(t *testing.T) {
	for _, urn := range manyUrns() {
		if !impl.UrnOk(urn) {
			t.Fatal(urn)
		}
	}
}

func TestOtherRowsAreNoUrns(t *testing.T) {
	for _, row := range noUrns() {
		if impl.UrnOk(row) {
			t.Error(row)
		}
	}
}

func TestTurnedUrnsAreUrns(t *testing.T) {
	rows := append(urnsWith(-1, 0, 1, 39, 40, 41), rowsOf(4, []int{-1, 0, 40, 41})...)
	for _, row := range append(rows, noUrns()...) {
		if impl.UrnOk(row) != impl.UrnOk(turned(row)) {
			t.Fatal(row)
		}
	}
}

// Promise 2.

func TestTotals(t *testing.T) {
	cases := []struct {
		urn  []int
		want int
	}{
		{[]int{0}, 0}, {[]int{0, 0}, 0}, {[]int{0, 0, 0}, 0},
		{[]int{7}, 7}, {[]int{40}, 40},
		{[]int{2, 0, 3}, 5}, {[]int{0, 0, 1}, 1}, {[]int{1, 0, 0}, 1},
		{[]int{40, 40}, 80}, {[]int{40, 40, 40}, 120},
	}
	for _, c := range cases {
		if got := impl.TotalOf(c.urn); got != c.want {
			t.Error(c.urn, got, c.want)
		}
	}
}

func TestTotalsAddUp(t *testing.T) {
	for _, urn := range manyUrns() {
		total := impl.TotalOf(urn)
		if total != sumOf(urn) {
			t.Fatal(urn, total)
		}
		without, ok := impl.PutIn(urn, 0, -urn[0])
		if !ok || impl.TotalOf(without) != total-urn[0] {
			t.Fatal(urn, without, ok)
		}
	}
}

func TestTotalOfNoUrn(t *testing.T) {
	for _, row := range noUrns() {
		if got := impl.TotalOf(row); got != -1 {
			t.Error(row, got)
		}
	}
}

// Promise 3.

func TestChances(t *testing.T) {
	cases := []struct {
		urn         []int
		colour      int
		over, under int
	}{
		{[]int{1}, 0, 1, 1}, {[]int{40}, 0, 1, 1},
		{[]int{2, 4}, 0, 1, 3}, {[]int{2, 4}, 1, 2, 3},
		{[]int{0, 4}, 0, 0, 1}, {[]int{0, 4}, 1, 1, 1},
		{[]int{2, 0, 3}, 0, 2, 5}, {[]int{2, 0, 3}, 1, 0, 1}, {[]int{2, 0, 3}, 2, 3, 5},
		{[]int{40, 40, 40}, 2, 1, 3}, {[]int{39, 40, 40}, 0, 39, 119}, {[]int{12, 18, 30}, 1, 3, 10},
	}
	for _, c := range cases {
		over, under, ok := impl.ChanceOf(c.urn, c.colour)
		if !ok || over != c.over || under != c.under {
			t.Error(c, over, under, ok)
		}
	}
}

func TestChancesAreBallsOverAllBalls(t *testing.T) {
	for _, urn := range manyUrns() {
		if sumOf(urn) == 0 {
			continue
		}
		for colour, balls := range urn {
			over, under, ok := impl.ChanceOf(urn, colour)
			if !ok || under < 1 || over*sumOf(urn) != balls*under {
				t.Fatal(urn, colour, over, under, ok)
			}
			if !lowestTerms(over, under) || over == 0 && under != 1 {
				t.Fatal("not in least terms", urn, colour, over, under)
			}
		}
	}
}

func TestAllChancesTogetherAreOne(t *testing.T) {
	for _, urn := range manyUrns() {
		product, sum := 1, 0
		for colour := range urn {
			over, under, ok := impl.ChanceOf(urn, colour)
			if ok != (sumOf(urn) > 0) {
				t.Fatal(urn, colour, ok)
			}
			sum = sum*under + over*product
			product *= under
		}
		if sum != product {
			t.Fatal(urn, sum, product)
		}
	}
}

func TestDoubledUrnsHaveTheSameChances(t *testing.T) {
	for _, urn := range manyUrns() {
		doubled, ok := impl.PouredUrn(urn, urn)
		if ok != (slices.Max(urn) <= 20) {
			t.Fatal(urn, doubled, ok)
		}
		if !ok {
			continue
		}
		for colour := range urn {
			over, under, told := impl.ChanceOf(urn, colour)
			overOf2, underOf2, toldOf2 := impl.ChanceOf(doubled, colour)
			if over != overOf2 || under != underOf2 || told != toldOf2 {
				t.Fatal(urn, colour)
			}
		}
	}
}

func noChance(t *testing.T, urn []int, colour int) {
	t.Helper()
	if over, under, ok := impl.ChanceOf(urn, colour); over != 0 || under != 0 || ok {
		t.Error(urn, colour, over, under, ok)
	}
}

func TestNoChances(t *testing.T) {
	for _, urn := range [][]int{{0}, {0, 0}, {0, 0, 0}} {
		for colour := -1; colour <= 3; colour++ {
			noChance(t, urn, colour)
		}
	}
	for _, urn := range urnsWith(0, 1, 40) {
		for _, colour := range append(extremes(), -1, len(urn), len(urn)+1) {
			noChance(t, urn, colour)
		}
	}
	for _, row := range noUrns() {
		for _, colour := range append(extremes(), -1, 0, 1, 2, 3, 4) {
			noChance(t, row, colour)
		}
	}
}

// Promise 4.

func TestPutIn(t *testing.T) {
	cases := []struct {
		urn          []int
		colour, many int
		want         []int
	}{
		{[]int{0}, 0, 0, []int{0}}, {[]int{0}, 0, 40, []int{40}}, {[]int{40}, 0, -40, []int{0}},
		{[]int{2, 4}, 1, -3, []int{2, 1}}, {[]int{2, 4}, 0, 5, []int{7, 4}},
		{[]int{2, 0, 3}, 2, -3, []int{2, 0, 0}}, {[]int{2, 0, 3}, 1, 1, []int{2, 1, 3}},
		{[]int{2, 4}, 1, 36, []int{2, 40}}, {[]int{40, 40, 40}, 1, 0, []int{40, 40, 40}},
		{[]int{0}, 0, -1, nil}, {[]int{0}, 0, 41, nil}, {[]int{40}, 0, 1, nil}, {[]int{40}, 0, -41, nil},
		{[]int{2, 4}, 1, -5, nil}, {[]int{2, 4}, 1, 37, nil}, {[]int{2, 4}, 2, 0, nil}, {[]int{2, 4}, -1, 0, nil},
	}
	for _, c := range cases {
		got, ok := impl.PutIn(c.urn, c.colour, c.many)
		if ok != (c.want != nil) || !slices.Equal(got, c.want) {
			t.Error(c, got, ok)
		}
	}
}

func TestWhatIsPutInCanBeTakenOutAgain(t *testing.T) {
	for _, urn := range urnsWith(0, 1, 2, 19, 38, 39, 40) {
		for colour := range urn {
			for many := -45; many <= 45; many++ {
				putAndTaken(t, urn, colour, many)
			}
		}
	}
}

func putAndTaken(t *testing.T, urn []int, colour, many int) {
	t.Helper()
	more, ok := impl.PutIn(urn, colour, many)
	if fits := urn[colour]+many >= 0 && urn[colour]+many <= 40; ok != fits {
		t.Fatal(urn, colour, many, more, ok)
	}
	if !ok {
		if more != nil {
			t.Fatal(urn, colour, many, more)
		}
		return
	}
	want := slices.Clone(urn)
	want[colour] += many
	if !slices.Equal(more, want) || impl.TotalOf(more) != impl.TotalOf(urn)+many {
		t.Fatal(urn, colour, many, more)
	}
	if again, ok := impl.PutIn(more, colour, -many); !ok || !slices.Equal(again, urn) {
		t.Fatal(urn, colour, many, again, ok)
	}
}

func nothingPutIn(t *testing.T, urn []int, colour, many int) {
	t.Helper()
	if got, ok := impl.PutIn(urn, colour, many); got != nil || ok {
		t.Error(urn, colour, many, got, ok)
	}
}

func TestNothingIsPutIn(t *testing.T) {
	for _, urn := range urnsWith(0, 1, 40) {
		for _, colour := range append(extremes(), -1, len(urn), len(urn)+1) {
			for _, many := range append(extremes(), -1, 0, 1) {
				nothingPutIn(t, urn, colour, many)
			}
		}
		for colour := range urn {
			for _, many := range extremes() {
				nothingPutIn(t, urn, colour, many)
			}
		}
	}
	for _, row := range noUrns() {
		for colour := -1; colour <= 4; colour++ {
			for _, many := range append(extremes(), -41, -40, -1, 0, 1, 5, 40, 41) {
				nothingPutIn(t, row, colour, many)
			}
		}
	}
}

// No number that is put in makes an urn of a row that is none, even where the sum would be in range.
func TestWrongNumbersAreNotPutRight(t *testing.T) {
	nothingPutIn(t, []int{41}, 0, -1)
	nothingPutIn(t, []int{-1, 3}, 0, 1)
	nothingPutIn(t, []int{math.MaxInt}, 0, math.MinInt)
	nothingPutIn(t, []int{math.MinInt}, 0, math.MinInt)
	nothingPutIn(t, []int{3, math.MaxInt}, 1, -math.MaxInt)
}

// Promise 5.

func TestPouredEitherWayIsTheSame(t *testing.T) {
	for colours := 1; colours <= 3; colours++ {
		urns := rowsOf(colours, []int{0, 1, 2, 20, 21, 39, 40})
		for _, a := range urns {
			for _, b := range urns {
				pouredBothWays(t, a, b)
			}
		}
	}
}

func pouredBothWays(t *testing.T, a, b []int) {
	t.Helper()
	ab, ok := impl.PouredUrn(a, b)
	ba, okToo := impl.PouredUrn(b, a)
	if ok != okToo || !slices.Equal(ab, ba) {
		t.Fatal(a, b, ab, ba, ok, okToo)
	}
	want := slices.Clone(a)
	for i := range b {
		want[i] += b[i]
	}
	if ok != (slices.Max(want) <= 40) {
		t.Fatal(a, b, ok)
	}
	if !ok {
		if ab != nil {
			t.Fatal(a, b, ab)
		}
		return
	}
	if !slices.Equal(ab, want) || impl.TotalOf(ab) != impl.TotalOf(a)+impl.TotalOf(b) {
		t.Fatal(a, b, ab)
	}
}

func TestNoUrnIsPoured(t *testing.T) {
	urns := urnsWith(0, 1, 40)
	for _, a := range urns {
		for _, b := range urns {
			if len(a) != len(b) {
				nothingPoured(t, a, b)
			}
		}
	}
	for _, row := range noUrns() {
		for _, urn := range urns {
			nothingPoured(t, row, urn)
			nothingPoured(t, urn, row)
		}
		for _, other := range noUrns() {
			nothingPoured(t, row, other)
		}
	}
	nothingPoured(t, []int{41, 0}, []int{-1, 0})
	nothingPoured(t, []int{math.MaxInt}, []int{math.MinInt})
}

func nothingPoured(t *testing.T, a, b []int) {
	t.Helper()
	if got, ok := impl.PouredUrn(a, b); got != nil || ok {
		t.Error(a, b, got, ok)
	}
}

// Promise 6.

func TestPouredUrnsHaveChancesBetween(t *testing.T) {
	for colours := 1; colours <= 3; colours++ {
		urns := rowsOf(colours, []int{0, 1, 3, 7, 20, 33, 40})
		for _, a := range urns {
			for _, b := range urns {
				if poured, ok := impl.PouredUrn(a, b); ok {
					chancesBetween(t, a, b, poured)
				}
			}
		}
	}
}

func chancesBetween(t *testing.T, a, b, poured []int) {
	t.Helper()
	overA, underA, toldA := impl.ChanceOf(a, 0)
	overB, underB, toldB := impl.ChanceOf(b, 0)
	over, under, told := impl.ChanceOf(poured, 0)
	if told != (toldA || toldB) {
		t.Fatal(a, b, told)
	}
	if !toldA || !toldB {
		return
	}
	if overA*underB > overB*underA {
		overA, underA, overB, underB = overB, underB, overA, underA
	}
	if over*underA < overA*under || over*underB > overB*under {
		t.Fatal(a, b, over, under)
	}
}

func TestPouringInNoBallsKeepsTheChance(t *testing.T) {
	for _, urn := range urnsWith(0, 1, 4, 6, 40) {
		poured, ok := impl.PouredUrn(urn, make([]int, len(urn)))
		if !ok || !slices.Equal(poured, urn) {
			t.Fatal(urn, poured, ok)
		}
		over, under, told := impl.ChanceOf(urn, 0)
		overToo, underToo, toldToo := impl.ChanceOf(poured, 0)
		if over != overToo || under != underToo || told != toldToo {
			t.Fatal(urn, over, under, overToo, underToo)
		}
	}
}

// The general rules: results share no memory with arguments, arguments are not written to, nothing is kept.

func TestUrnResultsAreNewMemory(t *testing.T) {
	for _, urn := range urnsWith(0, 3, 20) {
		given := append(make([]int, 0, 16), urn...)
		other := append(make([]int, 0, 16), urn...)
		for range 2 {
			more, ok := impl.PutIn(given, 0, 2)
			poured, okToo := impl.PouredUrn(given, other)
			if !ok || !okToo || more[0] != urn[0]+2 || poured[0] != 2*urn[0] {
				t.Fatal(urn, more, poured)
			}
			spareTouched(more)
			if poured[0] != 2*urn[0] {
				t.Fatal("both results share memory", urn)
			}
			spareTouched(poured)
		}
		unwritten(t, urn, given)
		unwritten(t, urn, other)
	}
}

func TestUrnArgumentsAreNotWritten(t *testing.T) {
	for _, row := range append(urnsWith(0, 7, 40), noUrns()...) {
		given := append(make([]int, 0, len(row)+4), row...)
		impl.UrnOk(given)
		impl.TotalOf(given)
		for colour := -1; colour <= 3; colour++ {
			impl.ChanceOf(given, colour)
			impl.PutIn(given, colour, 1)
			impl.PutIn(given, colour, -1)
		}
		impl.PouredUrn(given, given)
		unwritten(t, row, given)
	}
}
