package tests

import (
	"math"
	"slices"
	"testing"

	"loop.example/urnsandballs/impl"
)

// ordersOf returns all orders of so many hats: the last hat comes to each place of each order of one hat fewer.
func ordersOf(hats int) [][]int {
	orders := [][]int{{}}
	for last := range hats {
		var longer [][]int
		for _, order := range orders {
			for place := range last + 1 {
				longer = append(longer, slices.Insert(slices.Clone(order), place, last))
			}
		}
		orders = longer
	}
	return orders
}

// withOrders visits all orders of all numbers of hats.
func withOrders(visit func(order []int)) {
	for hats := 0; hats <= 6; hats++ {
		for _, order := range ordersOf(hats) {
			visit(order)
		}
	}
}

// isOrder reports whether the numbers of a row, sorted, are those from 0 on.
func isOrder(row []int) bool {
	return len(row) <= 6 && slices.Equal(slices.Sorted(slices.Values(row)), numbersTo(len(row)))
}

// wrongHats returns numbers that are no hat of any order, and of which there are no hats; of some of them the last bits alone would be a right one.
func wrongHats() []int {
	return append(extremes(), -64, -7, -6, -3, -2, -1, 7, 8, 9, 20, 31, 32, 63, 64, 65, 256, math.MinInt/2, math.MinInt+6, math.MaxInt/2+1)
}

// noOrders returns rows that are no orders: too long, and with a number twice, left out, below 0 or too great at each place.
func noOrders() [][]int {
	rows := [][]int{make([]int, 7), make([]int, 1000), numbersTo(7), turned(numbersTo(7)), {1, 2, 3, 4, 5, 6, 0}, {1, 0, 3, 2, 5, 4, 6}, numbersTo(8), numbersTo(64), numbersTo(1000)}
	for hats := 1; hats <= 6; hats++ {
		for _, order := range [][]int{numbersTo(hats), turned(numbersTo(hats)), oneRound(hats)} {
			for place := range hats {
				for _, wrong := range append(wrongHats(), append(numbersTo(hats), hats, hats+1, -hats)...) {
					row := slices.Clone(order)
					row[place] = wrong
					rows = append(rows, row)
				}
			}
			rows = append(rows, slices.Concat(order, order[:1]), slices.Concat(order, order), slices.Concat(order, []int{hats + 1}), slices.Concat([]int{-1}, order))
		}
	}
	for length := 1; length <= 5; length++ {
		rows = append(rows, rowsOf(length, append(numbersTo(length+1), -1))...)
	}
	// The sums of some of these are those of orders, or wrap around to such.
	for length := 2; length <= 3; length++ {
		rows = append(rows, rowsOf(length, []int{math.MinInt, math.MinInt + 1, -1, 2, 3, math.MaxInt - 1, math.MaxInt})...)
	}
	return slices.DeleteFunc(rows, isOrder)
}

// oneRound returns the order in which each one takes the next hat, and the last one the first hat.
func oneRound(hats int) []int {
	return append(numbersTo(hats)[1:], 0)
}

// alongRound returns the order in which each hat of a row is at the place of the one before, and the first one at that of the last one.
func alongRound(row []int) []int {
	order := make([]int, len(row))
	for i, place := range row {
		order[place] = row[(i+1)%len(row)]
	}
	return order
}

// roundsOf returns all orders of so many hats, 1 or more, that are one round: 0, and behind it the other places in each order.
func roundsOf(hats int) [][]int {
	var rounds [][]int
	for _, others := range ordersOf(hats - 1) {
		row := []int{0}
		for _, place := range others {
			row = append(row, place+1)
		}
		rounds = append(rounds, alongRound(row))
	}
	return rounds
}

// broughtBack returns the order that brings all back: at the place of each hat there is the place at which it is.
func broughtBack(order []int) []int {
	back := make([]int, len(order))
	for place, hat := range order {
		back[hat] = place
	}
	return back
}

// withOwnHat returns an order with one hat more, which is at its own place, and all others from there on moved on by one.
func withOwnHat(order []int, own int) []int {
	more := slices.Clone(order)
	for place, hat := range more {
		if hat >= own {
			more[place]++
		}
	}
	return slices.Insert(more, own, own)
}

// turnedPlaces returns an order with all places, and so all hats, numbered from the last one to the first one.
func turnedPlaces(order []int) []int {
	other := turned(order)
	for place := range other {
		other[place] = len(order) - 1 - other[place]
	}
	return other
}

// ownHats returns how many people get the own hat.
func ownHats(order []int) int {
	return len(slices.DeleteFunc(numbersTo(len(order)), func(place int) bool { return order[place] != place }))
}

// ordersByMatches counts all orders of so many hats one by one, by the matches that are told of them.
func ordersByMatches(hats int, matchesOf func(order []int) int) []int {
	counts := make([]int, hats+1)
	for _, order := range ordersOf(hats) {
		counts[matchesOf(order)]++
	}
	return counts
}

// matchOrdersOf returns MatchOrders of all numbers of matches.
func matchOrdersOf(hats int) []int {
	var row []int
	for matches := range hats + 1 {
		row = append(row, impl.MatchOrders(hats, matches))
	}
	return row
}

// orderCase is a row with what is to be told of it.
type orderCase[T comparable] struct {
	row  []int
	want T
}

// toldOfOrders checks what is told of rows.
func toldOfOrders[T comparable](t *testing.T, told func(row []int) T, cases []orderCase[T]) {
	t.Helper()
	for _, c := range cases {
		if got := told(c.row); got != c.want {
			t.Error(c, got)
		}
	}
}

// toldOfNoOrders checks that the same is told of all rows that are no orders.
func toldOfNoOrders[T comparable](t *testing.T, told func(row []int) T, want T) {
	t.Helper()
	for _, row := range noOrders() {
		if got := told(row); got != want {
			t.Error(row, got)
		}
	}
}

// Promise 81.

func TestHats(t *testing.T) {
	toldOfOrders(t, impl.HatsOk, []orderCase[bool]{
		{nil, true}, {[]int{}, true}, {[]int{0}, true}, {[]int{1}, false}, {[]int{-1}, false}, {[]int{0, 1}, true}, {[]int{1, 0}, true}, {[]int{0, 0}, false}, {[]int{1, 1}, false}, {[]int{1, 2}, false}, {[]int{0, 2}, false}, {[]int{2, 0}, false}, {[]int{-1, 0}, false}, {[]int{0, -1}, false},
		{[]int{1, 0, 2}, true}, {[]int{2, 0, 1}, true}, {[]int{1, 1, 1}, false}, {[]int{0, 1, 1}, false}, {[]int{0, 1, 3}, false}, {[]int{1, 2, 3}, false}, {[]int{0, 3, 0}, false}, {[]int{2, 2, -1}, false}, {[]int{0, 2, 2}, false}, {[]int{0, 0, 3}, false},
		{[]int{0, 1, 2, 3, 4, 5}, true}, {[]int{5, 4, 3, 2, 1, 0}, true}, {[]int{3, 5, 0, 1, 4, 2}, true}, {[]int{0, 1, 2, 3, 4, 6}, false}, {[]int{6, 5, 4, 3, 2, 1}, false}, {[]int{0, 1, 2, 3, 4, 4}, false}, {[]int{0, 0, 1, 2, 3, 4}, false}, {make([]int, 6), false},
		{[]int{0, 1, 2, 3, 4, 5, 6}, false}, {[]int{6, 5, 4, 3, 2, 1, 0}, false}, {[]int{0, 1, 2, 3, 4, 5, 0}, false}, {make([]int, 7), false}, {make([]int, 1000), false},
		{[]int{math.MaxInt}, false}, {[]int{math.MinInt}, false}, {[]int{0, math.MaxInt}, false}, {[]int{math.MinInt, 0}, false}, {[]int{math.MaxInt, math.MinInt, 2}, false}, {[]int{math.MinInt, math.MinInt}, false}, {[]int{0, 64}, false}, {[]int{0, 1, 256}, false},
	})
}

func TestAllOrdersAreOrders(t *testing.T) {
	withOrders(func(order []int) {
		if !impl.HatsOk(order) {
			t.Error(order)
		}
	})
}

func TestOrdersFromBehindAreOrders(t *testing.T) {
	for length := 0; length <= 5; length++ {
		for _, row := range rowsOf(length, append(numbersTo(length+1), -1)) {
			if got, back := impl.HatsOk(row), impl.HatsOk(turned(row)); got != back || got != isOrder(row) {
				t.Error(row, got, back)
			}
		}
	}
}

func TestRowsOfJustMaxHatsNumbers(t *testing.T) {
	orders := 0
	for _, row := range rowsOf(6, numbersTo(6)) {
		if got := impl.HatsOk(row); got != isOrder(row) {
			t.Error(row, got)
		} else if got {
			orders++
		}
	}
	if orders != factorial(6) {
		t.Error(orders)
	}
}

func TestNoOrders(t *testing.T) {
	toldOfNoOrders(t, impl.HatsOk, false)
	toldOfNoOrders(t, func(row []int) bool { return impl.HatsOk(turned(row)) }, false)
}

// Promise 82.

func TestMatches(t *testing.T) {
	toldOfOrders(t, impl.MatchesOf, []orderCase[int]{
		{nil, 0}, {[]int{}, 0}, {[]int{0}, 1}, {[]int{0, 1}, 2}, {[]int{1, 0}, 0}, {[]int{1, 0, 2}, 1}, {[]int{0, 2, 1}, 1}, {[]int{2, 1, 0}, 1}, {[]int{1, 2, 0}, 0}, {[]int{2, 0, 1}, 0}, {[]int{0, 1, 2}, 3},
		{[]int{0, 1, 2, 3, 4, 5}, 6}, {[]int{1, 0, 2, 3, 4, 5}, 4}, {[]int{5, 1, 2, 3, 4, 0}, 4}, {[]int{0, 1, 2, 3, 5, 4}, 4}, {[]int{5, 4, 3, 2, 1, 0}, 0}, {[]int{1, 2, 3, 4, 5, 0}, 0}, {[]int{0, 2, 3, 4, 5, 1}, 1}, {[]int{1, 2, 3, 4, 0, 5}, 1}, {[]int{1, 2, 0, 3, 4, 5}, 3}, {[]int{4, 3, 2, 1, 0}, 1}, {[]int{1, 0, 3, 2, 4}, 1},
		{[]int{2}, -1}, {[]int{1}, -1}, {[]int{-1}, -1}, {[]int{0, 0}, -1}, {[]int{1, 1}, -1}, {[]int{0, 2}, -1}, {[]int{0, 1, 2, 2}, -1}, {[]int{0, 1, 2, 4}, -1}, {[]int{-1, 1, 2}, -1}, {[]int{0, 1, 2, 3, 4, 5, 6}, -1}, {make([]int, 7), -1},
		{[]int{math.MaxInt}, -1}, {[]int{math.MinInt}, -1}, {[]int{0, 1, math.MaxInt}, -1}, {[]int{math.MinInt, 1, 2}, -1},
	})
}

func TestMatchesOneByOne(t *testing.T) {
	withOrders(func(order []int) {
		if got, want := impl.MatchesOf(order), ownHats(order); got != want {
			t.Error(order, got, want)
		}
	})
}

func TestNeverJustOneDoesNotMatch(t *testing.T) {
	withOrders(func(order []int) {
		if got := impl.MatchesOf(order); got == len(order)-1 || got < 0 || got > len(order) {
			t.Error(order, got)
		}
	})
}

func TestAllMatchInTheOneOrderThatStays(t *testing.T) {
	for hats := 0; hats <= 6; hats++ {
		for _, order := range ordersOf(hats) {
			if got := impl.MatchesOf(order); (got == hats) != slices.Equal(order, numbersTo(hats)) {
				t.Error(order, got)
			}
		}
	}
}

func TestTheOrderThatBringsAllBackHasAsManyMatches(t *testing.T) {
	withOrders(func(order []int) {
		if got, back := impl.MatchesOf(order), impl.MatchesOf(broughtBack(order)); got != back {
			t.Error(order, got, back)
		}
	})
}

func TestOneMoreAtItsOwnPlaceIsOneMatchMore(t *testing.T) {
	for hats := range 6 {
		for _, order := range ordersOf(hats) {
			for own := range hats + 1 {
				more := withOwnHat(order, own)
				if got := impl.MatchesOf(more); got != impl.MatchesOf(order)+1 {
					t.Error(order, more, got)
				}
			}
		}
	}
}

func TestNoMatches(t *testing.T) {
	toldOfNoOrders(t, impl.MatchesOf, -1)
}

// Promise 83.

func TestUnmatchedOrders(t *testing.T) {
	for hats, want := range []int{1, 0, 1, 2, 9, 44, 265} {
		if got := impl.UnmatchedOrders(hats); got != want {
			t.Error(hats, got, want)
		}
	}
}

func TestUnmatchedOrdersOneByOne(t *testing.T) {
	for hats := 0; hats <= 6; hats++ {
		told, own := ordersByMatches(hats, impl.MatchesOf), ordersByMatches(hats, ownHats)
		if got := impl.UnmatchedOrders(hats); got != told[0] || got != own[0] {
			t.Error(hats, got, told, own)
		}
	}
}

func TestWithoutAMatchThereAreEverAsManyAsTheRuleTells(t *testing.T) {
	for hats := 1; hats <= 6; hats++ {
		want := hats*impl.UnmatchedOrders(hats-1) + 1
		if hats%2 == 1 {
			want -= 2
		}
		if got := impl.UnmatchedOrders(hats); got != want {
			t.Error(hats, got, want)
		}
	}
}

func TestNoUnmatchedOrders(t *testing.T) {
	for _, hats := range wrongHats() {
		if got := impl.UnmatchedOrders(hats); got != -1 {
			t.Error(hats, got)
		}
	}
}

// Promise 84.

func TestMatchOrders(t *testing.T) {
	cases := [][]int{{1}, {0, 1}, {1, 0, 1}, {2, 3, 0, 1}, {9, 8, 6, 0, 1}, {44, 45, 20, 10, 0, 1}, {265, 264, 135, 40, 15, 0, 1}}
	for hats, want := range cases {
		if got := matchOrdersOf(hats); !slices.Equal(got, want) {
			t.Error(hats, got, want)
		}
	}
}

func TestMatchOrdersOneByOne(t *testing.T) {
	for hats := 0; hats <= 6; hats++ {
		told, own := ordersByMatches(hats, impl.MatchesOf), ordersByMatches(hats, ownHats)
		if got := matchOrdersOf(hats); !slices.Equal(got, told) || !slices.Equal(got, own) {
			t.Error(hats, got, told, own)
		}
	}
}

func TestOneMatchOnAverage(t *testing.T) {
	for hats := 0; hats <= 6; hats++ {
		row := matchOrdersOf(hats)
		matches := factorial(hats)
		if hats == 0 {
			matches = 0
		}
		if together, withMatches := sumOf(row), sumByNumber(row); together != factorial(hats) || withMatches != matches {
			t.Error(hats, together, withMatches)
		}
	}
}

func TestNoMatchesAndAllMatches(t *testing.T) {
	for hats := 0; hats <= 6; hats++ {
		if got := impl.MatchOrders(hats, 0); got != impl.UnmatchedOrders(hats) {
			t.Error("none", hats, got)
		}
		if got := impl.MatchOrders(hats, hats); got != 1 {
			t.Error("all", hats, got)
		}
		if hats == 0 {
			continue
		}
		if got := impl.MatchOrders(hats, hats-1); got != 0 {
			t.Error("one fewer than all", hats, got)
		}
	}
}

func TestThoseThatMatchAreChosen(t *testing.T) {
	for hats := 0; hats <= 6; hats++ {
		for matches := 0; matches <= hats; matches++ {
			want := choicesOf(hats, matches) * impl.UnmatchedOrders(hats-matches)
			if got := impl.MatchOrders(hats, matches); got != want {
				t.Error(hats, matches, got, want)
			}
		}
	}
}

func TestNoMatchOrders(t *testing.T) {
	withoutPairsOf(func(visit func(hats, matches int)) {
		for hats := 0; hats <= 6; hats++ {
			for matches := 0; matches <= hats; matches++ {
				visit(hats, matches)
			}
		}
	}, func(hats, matches int) {
		if got := impl.MatchOrders(hats, matches); got != -1 {
			t.Error(hats, matches, got)
		}
	})
	for _, row := range [][2]int{{-1, 0}, {-1, -1}, {7, 0}, {7, 7}, {7, 1}, {0, 1}, {0, -1}, {4, 5}, {4, -1}, {6, 7}, {6, -1}, {math.MaxInt, 0}, {math.MaxInt, math.MaxInt}, {math.MinInt, 0}, {math.MinInt, math.MinInt}, {6, math.MaxInt}, {6, math.MinInt}, {0, math.MaxInt}, {0, math.MinInt}} {
		if got := impl.MatchOrders(row[0], row[1]); got != -1 {
			t.Error(row, got)
		}
	}
}

// Promise 85.

func TestRounds(t *testing.T) {
	toldOfOrders(t, impl.OneRound, []orderCase[bool]{
		{nil, false}, {[]int{}, false}, {[]int{0}, true}, {[]int{0, 1}, false}, {[]int{1, 0}, true}, {[]int{1, 2, 0}, true}, {[]int{2, 0, 1}, true}, {[]int{1, 0, 2}, false}, {[]int{0, 2, 1}, false}, {[]int{2, 1, 0}, false}, {[]int{0, 1, 2}, false},
		{[]int{1, 0, 3, 2}, false}, {[]int{2, 3, 0, 1}, false}, {[]int{3, 2, 1, 0}, false}, {[]int{1, 2, 3, 0}, true}, {[]int{3, 0, 1, 2}, true}, {[]int{2, 3, 1, 0}, true}, {[]int{0, 2, 3, 1}, false}, {[]int{1, 2, 0, 3}, false}, {[]int{3, 1, 0, 2}, false},
		{[]int{1, 2, 3, 4, 5, 0}, true}, {[]int{5, 0, 1, 2, 3, 4}, true}, {[]int{3, 5, 4, 1, 0, 2}, true}, {[]int{3, 5, 4, 2, 0, 1}, false}, {[]int{3, 4, 1, 5, 0, 2}, true}, {[]int{1, 2, 0, 4, 5, 3}, false}, {[]int{1, 0, 3, 2, 5, 4}, false}, {[]int{1, 2, 3, 4, 0, 5}, false}, {[]int{0, 2, 3, 4, 5, 1}, false}, {[]int{2, 1, 3, 4, 5, 0}, false}, {[]int{0, 1, 2, 3, 4, 5}, false},
		{[]int{1}, false}, {[]int{-1}, false}, {[]int{1, 1}, false}, {[]int{0, 0}, false}, {[]int{1, 2}, false}, {[]int{1, -1}, false}, {[]int{1, 2, 1}, false}, {[]int{1, 2, 2}, false}, {[]int{1, 2, 3}, false}, {[]int{2, 0, 0}, false}, {[]int{1, 0, 0}, false}, {[]int{1, 2, 0, 0}, false}, {[]int{1, 2, 3, 4, 5, 6, 0}, false}, {make([]int, 7), false},
		{[]int{math.MaxInt}, false}, {[]int{math.MinInt}, false}, {[]int{1, math.MaxInt, 0}, false}, {[]int{1, 2, math.MinInt}, false},
	})
}

func TestJustTheRoundsAreOneRound(t *testing.T) {
	for hats := 1; hats <= 6; hats++ {
		rounds := roundsOf(hats)
		for _, order := range ordersOf(hats) {
			want := slices.ContainsFunc(rounds, func(round []int) bool { return slices.Equal(round, order) })
			if got := impl.OneRound(order); got != want {
				t.Error(order, got)
			}
		}
	}
}

func TestRoundsHaveNoMatch(t *testing.T) {
	withOrders(func(order []int) {
		if len(order) > 1 && impl.OneRound(order) && impl.MatchesOf(order) != 0 {
			t.Error(order)
		}
	})
	if !impl.OneRound([]int{0}) || impl.MatchesOf([]int{0}) != 1 {
		t.Error("one hat")
	}
}

func TestRoundsAreOneInSoMany(t *testing.T) {
	for hats := 1; hats <= 6; hats++ {
		rounds := 0
		for _, order := range ordersOf(hats) {
			if impl.OneRound(order) {
				rounds++
			}
		}
		if rounds*hats != factorial(hats) {
			t.Error(hats, rounds)
		}
	}
}

func TestARoundThatMissesJustOnePlaceIsNone(t *testing.T) {
	for hats := 1; hats <= 5; hats++ {
		for _, round := range roundsOf(hats) {
			for own := range hats + 1 {
				if order := withOwnHat(round, own); impl.OneRound(order) {
					t.Error(round, order)
				}
			}
		}
	}
}

func TestMoreRoundsThanOneAreNone(t *testing.T) {
	for first := 1; first <= 5; first++ {
		for second := 1; first+second <= 6; second++ {
			for _, round := range roundsOf(first) {
				order := slices.Clone(round)
				for _, place := range oneRound(second) {
					order = append(order, first+place)
				}
				if impl.OneRound(order) || impl.OneRound(turnedPlaces(order)) {
					t.Error(order)
				}
			}
		}
	}
}

func TestARoundThatBringsAllBackIsOne(t *testing.T) {
	withOrders(func(order []int) {
		want := impl.OneRound(order)
		if back := impl.OneRound(broughtBack(order)); back != want {
			t.Error(order, want, back)
		}
		if other := impl.OneRound(turnedPlaces(order)); other != want {
			t.Error("numbered from the last place", order, want, other)
		}
	})
}

func TestNoRounds(t *testing.T) {
	toldOfNoOrders(t, impl.OneRound, false)
}

// Promise 86.

func TestTwoMatchesOnAverageAsOne(t *testing.T) {
	for hats := 0; hats <= 6; hats++ {
		together := 0
		for matches := 0; matches <= hats; matches++ {
			together += impl.MatchOrders(hats, matches) * matches * (matches - 1)
		}
		want := factorial(hats)
		// One hat has no pair, and no hats have none.
		if hats < 2 {
			want = 0
		}
		if together != want {
			t.Error(hats, together, want)
		}
	}
}

func TestPairsOfMatchesOneByOne(t *testing.T) {
	for hats := 2; hats <= 6; hats++ {
		pairs := 0
		for _, order := range ordersOf(hats) {
			for _, pair := range rowsOf(2, numbersTo(hats)) {
				if pair[0] != pair[1] && order[pair[0]] == pair[0] && order[pair[1]] == pair[1] {
					pairs++
				}
			}
		}
		together := 0
		for matches, orders := range matchOrdersOf(hats) {
			together += orders * matches * (matches - 1)
		}
		if together != pairs {
			t.Error(hats, together, pairs)
		}
	}
}

// The general rules: arguments are not written to, nothing is kept.

func TestOrdersAreNotWritten(t *testing.T) {
	visit := func(want []int) {
		row := roomy(want)
		impl.HatsOk(row)
		impl.MatchesOf(row)
		impl.OneRound(row)
		unwritten(t, want, row)
	}
	withOrders(visit)
	for _, row := range noOrders() {
		visit(row)
	}
}

func TestOrdersEndWhereTheyEnd(t *testing.T) {
	long := []int{1, 2, 0, 3, 5, 4, 6, 7}
	for length, want := range []struct {
		ok      bool
		matches int
	}{{true, 0}, {false, -1}, {false, -1}, {true, 0}, {true, 1}, {false, -1}, {true, 1}, {false, -1}, {false, -1}} {
		row := long[:length]
		if ok, matches, round := impl.HatsOk(row), impl.MatchesOf(row), impl.OneRound(row); ok != want.ok || matches != want.matches || round != (length == 3) {
			t.Error(row, ok, matches, round)
		}
	}
}

func TestMatchesAreNotKept(t *testing.T) {
	for range 3 {
		asked := []int{impl.MatchesOf([]int{1, 0, 2}), impl.MatchesOf(nil), impl.UnmatchedOrders(4), impl.UnmatchedOrders(0), impl.MatchOrders(4, 1), impl.MatchOrders(4, 3), impl.MatchOrders(0, 0)}
		if want := []int{1, 0, 9, 1, 8, 0, 1}; !slices.Equal(asked, want) {
			t.Fatal(asked)
		}
		if !impl.HatsOk([]int{1, 0, 2}) || impl.HatsOk([]int{1, 1}) || !impl.OneRound([]int{1, 2, 0}) || impl.OneRound([]int{1, 0, 2}) {
			t.Fatal("orders")
		}
		impl.HatsOk([]int{5, 4, 3, 2, 1, 0})
		impl.MatchesOf([]int{math.MinInt, math.MaxInt})
		impl.UnmatchedOrders(6)
		impl.UnmatchedOrders(math.MaxInt)
		impl.MatchOrders(6, 6)
		impl.MatchOrders(math.MinInt, math.MaxInt)
		impl.OneRound([]int{1, 2, 3, 4, 5, 0})
		impl.OneRound(make([]int, 7))
	}
}
