package tests

import (
	"math"
	"math/bits"
	"slices"
	"testing"

	"loop.example/urnsandballs/impl"
)

// withNumbersOfRooms visits all numbers of balls of two rooms with all numbers of balls in the first one.
func withNumbersOfRooms(visit func(balls, number int)) {
	for balls := 1; balls <= 6; balls++ {
		for number := 0; number <= balls; number++ {
			visit(balls, number)
		}
	}
}

// withRooms visits all numbers of balls of two rooms with all first numbers and all numbers of steps.
func withRooms(visit func(balls, first, steps int)) {
	withNumbersOfRooms(func(balls, first int) {
		for steps := 0; steps <= 6; steps++ {
			visit(balls, first, steps)
		}
	})
}

// withoutRooms visits numbers of balls, first numbers and numbers of steps of which one at least may not be.
func withoutRooms(visit func(balls, first, steps int)) {
	rooms := map[[3]int]bool{}
	withRooms(func(balls, first, steps int) { rooms[[3]int{balls, first, steps}] = true })
	numbers := append(extremes(), -12, -7, -6, -2, -1, 12, 14, 40, math.MinInt/2, math.MaxInt/2, math.MaxInt/2+1, math.MaxInt-6, math.MinInt+6)
	for _, row := range rowsOf(3, append(numbers, numbersTo(10)...)) {
		if !rooms[[3]int(row)] {
			visit(row[0], row[1], row[2])
		}
	}
}

// wrongRooms returns numbers of balls that there may not be in two rooms.
func wrongRooms() []int {
	return append(extremes(), -7, -6, -2, -1, 0, 7, 8, 14, 40, math.MinInt/2, math.MaxInt/2+1)
}

// single returns a row for so many balls with ways of one number, and 0 for all others.
func single(balls, number, ways int) []int {
	row := make([]int, balls+1)
	row[number] = ways
	return row
}

// roomRows returns rows for so many balls: of nothing but 0, of single numbers, of all steps and at rest, of the most ways everywhere, and all of a few numbers.
func roomRows(balls int) [][]int {
	rows := rowsOf(balls+1, []int{0, 1, 5})
	for _, ways := range []int{1, 7, 999999, 1666667, 5000000, 5000001, 9999999, 10000000} {
		rows = append(rows, slices.Repeat([]int{ways}, balls+1))
		for number := range balls + 1 {
			rows = append(rows, single(balls, number, ways))
		}
	}
	rows = append(rows, impl.RestRow(balls))
	for first := range balls + 1 {
		for steps := range 7 {
			rows = append(rows, impl.RoomAfter(balls, first, steps))
		}
	}
	return rows
}

// noRoomRows returns rows that are none for so many balls: nil, of other lengths, and with ways below 0 or above the most at each place.
func noRoomRows(balls int) [][]int {
	rows := [][]int{nil, {}, make([]int, 1000)}
	for _, length := range []int{1, balls - 1, balls, balls + 2, balls + 3, 2*balls + 2} {
		if length != balls+1 {
			rows = append(rows, make([]int, length), slices.Repeat([]int{1}, length), slices.Repeat([]int{10000000}, length))
		}
	}
	for _, wrong := range []int{-10000000, -6, -1, 10000001, 10000002, 20000000, math.MinInt, math.MinInt + 1, math.MinInt32, math.MinInt / 2, math.MaxInt32, math.MaxInt/2 + 1, math.MaxInt - 1, math.MaxInt} {
		rows = append(rows, slices.Repeat([]int{wrong}, balls+1))
		for number := range balls + 1 {
			other := slices.Repeat([]int{10000000}, balls+1)
			other[number] = wrong
			rows = append(rows, single(balls, number, wrong), other)
		}
	}
	// The sums of some of these wrap around to numbers that are in range.
	return append(rows, slices.DeleteFunc(rowsOf(balls+1, []int{-1, 1, math.MaxInt}), func(row []int) bool {
		return !slices.ContainsFunc(row, func(ways int) bool { return ways != 1 })
	})...)
}

// withoutRoomRows visits rows with numbers of balls of which they are no rows.
func withoutRoomRows(visit func(balls int, row []int)) {
	for balls := 1; balls <= 6; balls++ {
		for _, row := range noRoomRows(balls) {
			visit(balls, row)
		}
	}
	for _, balls := range wrongRooms() {
		visit(balls, nil)
		for length := range 12 {
			visit(balls, make([]int, length))
			visit(balls, slices.Repeat([]int{1}, length))
		}
	}
}

// stepOfBalls returns the ways after one step more, by moving each ball of a row's arrangements in turn; a ball's bit is set in the first room.
func stepOfBalls(balls int, row []int) []int {
	stepped := make([]int, balls+1)
	for number, ways := range row {
		place := uint(1)<<number - 1
		for ball := range balls {
			stepped[bits.OnesCount(place^1<<ball)] += ways
		}
	}
	return stepped
}

// walksOfBalls counts, for each number of balls in the first room, the walks that move one ball after the other, beginning with a set of balls there.
func walksOfBalls(balls int, place uint, steps int) []int {
	if steps == 0 {
		return single(balls, bits.OnesCount(place), 1)
	}
	walks := make([]int, balls+1)
	for ball := range balls {
		for number, ways := range walksOfBalls(balls, place^1<<ball, steps-1) {
			walks[number] += ways
		}
	}
	return walks
}

// leanOf adds all ways of a row, each times twice its number less all balls.
func leanOf(row []int) int {
	balls := len(row) - 1
	return 2*sumByNumber(row) - balls*sumOf(row)
}

// Promise 42.

func TestRoomRows(t *testing.T) {
	if impl.MaxRoom != 6 || impl.MaxSteps != 6 {
		t.Fatal(impl.MaxRoom, impl.MaxSteps)
	}
	cases := []struct {
		balls int
		row   []int
		want  bool
	}{
		{1, []int{0, 1}, true}, {1, []int{10000000, 10000000}, true}, {1, []int{0}, false}, {1, []int{0, 0, 0}, false}, {1, nil, false},
		{2, []int{1, 2, 1}, true}, {2, []int{1, 2}, false}, {2, []int{1, 2, 1, 0}, false}, {2, []int{0, 10000001, 0}, false}, {2, []int{0, -1, 0}, false},
		{6, []int{1, 6, 15, 20, 15, 6, 1}, true}, {6, make([]int, 6), false}, {6, make([]int, 8), false},
		{0, []int{0}, false}, {0, nil, false}, {-1, nil, false}, {7, make([]int, 8), false}, {math.MaxInt, nil, false}, {math.MinInt, nil, false},
	}
	for _, c := range cases {
		if got := impl.RoomRowOk(c.balls, c.row); got != c.want {
			t.Error(c, got)
		}
	}
}

func TestRowsOfNothingAreRows(t *testing.T) {
	for balls := -3; balls <= 12; balls++ {
		if got := impl.RoomRowOk(balls, make([]int, max(balls+1, 0))); got != (balls >= 1 && balls <= 6) {
			t.Error(balls, got)
		}
	}
}

func TestRowsOfRoomsAreRowsTurnedRound(t *testing.T) {
	for balls := 1; balls <= 6; balls++ {
		for _, row := range roomRows(balls) {
			if !impl.RoomRowOk(balls, row) || !impl.RoomRowOk(balls, turned(row)) {
				t.Fatal(balls, row)
			}
		}
	}
}

func TestOthersAreNoRowsOfRooms(t *testing.T) {
	withoutRoomRows(func(balls int, row []int) {
		if impl.RoomRowOk(balls, row) || impl.RoomRowOk(balls, turned(row)) {
			t.Error(balls, row)
		}
	})
}

func TestRowsOfJustTheMostWaysAndOneMore(t *testing.T) {
	withNumbersOfRooms(func(balls, number int) {
		for _, others := range []int{0, 1, 10000000} {
			row := slices.Repeat([]int{others}, balls+1)
			for ways, want := range map[int]bool{-1: false, 0: true, 9999999: true, 10000000: true, 10000001: false} {
				row[number] = ways
				if got := impl.RoomRowOk(balls, row); got != want {
					t.Error(balls, row, got)
				}
			}
		}
	})
}

func TestRowsAreOfJustAsManyBalls(t *testing.T) {
	for balls := -2; balls <= 9; balls++ {
		for length := range 12 {
			want := balls >= 1 && balls <= 6 && length == balls+1
			if got := impl.RoomRowOk(balls, slices.Repeat([]int{1}, length)); got != want {
				t.Error(balls, length, got)
			}
		}
	}
}

// Promise 43.

func TestRoomStep(t *testing.T) {
	cases := []struct {
		balls     int
		row, want []int
	}{
		{1, []int{1, 0}, []int{0, 1}}, {1, []int{0, 1}, []int{1, 0}}, {1, []int{3, 8}, []int{8, 3}}, {1, []int{10000000, 10000000}, []int{10000000, 10000000}},
		{2, []int{0, 1, 0}, []int{1, 0, 1}}, {2, []int{1, 0, 0}, []int{0, 2, 0}}, {2, []int{0, 0, 1}, []int{0, 2, 0}}, {2, []int{1, 2, 1}, []int{2, 4, 2}}, {2, []int{0, 0, 0}, []int{0, 0, 0}},
		{3, []int{1, 0, 0, 0}, []int{0, 3, 0, 0}}, {3, []int{0, 3, 0, 0}, []int{3, 0, 6, 0}}, {3, []int{1, 2, 4, 8}, []int{2, 11, 28, 4}},
		{6, []int{1, 0, 0, 0, 0, 0, 0}, []int{0, 6, 0, 0, 0, 0, 0}}, {6, []int{0, 0, 0, 1, 0, 0, 0}, []int{0, 0, 3, 0, 3, 0, 0}}, {6, []int{0, 0, 0, 0, 0, 0, 1}, []int{0, 0, 0, 0, 0, 6, 0}},
		{2, []int{0, 10000000, 0}, []int{10000000, 0, 10000000}}, {2, []int{5000000, 0, 0}, []int{0, 10000000, 0}}, {2, []int{5000000, 0, 1}, nil}, {2, []int{5000001, 0, 0}, nil}, {2, []int{10000000, 0, 10000000}, nil},
		// 2 * 1 + 3 * 3333333 is one more than the most, 2 * 2 + 3 * 3333332 just the most.
		{3, []int{3333332, 0, 2, 0}, []int{0, 10000000, 0, 2}}, {3, []int{3333333, 0, 1, 0}, nil}, {3, []int{0, 2, 0, 3333332}, []int{2, 0, 10000000, 0}}, {3, []int{0, 1, 0, 3333333}, nil},
		{0, []int{0}, nil}, {0, nil, nil}, {-1, nil, nil}, {7, make([]int, 8), nil}, {2, nil, nil}, {2, []int{1, 2}, nil}, {2, []int{1, 2, 1, 0}, nil}, {2, []int{0, -1, 0}, nil}, {1, []int{10000001, 0}, nil},
	}
	for _, c := range cases {
		if got := impl.RoomStep(c.balls, c.row); !slices.Equal(got, c.want) {
			t.Error(c, got)
		}
	}
}

func TestEachStepHasAsManyWaysAsBalls(t *testing.T) {
	steps := 0
	for balls := 1; balls <= 6; balls++ {
		for _, row := range roomRows(balls) {
			got := impl.RoomStep(balls, row)
			if got == nil {
				continue
			}
			steps++
			if sumOf(got) != balls*sumOf(row) || !impl.RoomRowOk(balls, got) {
				t.Fatal(balls, row, got)
			}
		}
	}
	if steps < 3000 {
		t.Fatal(steps)
	}
}

func TestStepsOfRowsTurnedRound(t *testing.T) {
	for balls := 1; balls <= 6; balls++ {
		for _, row := range roomRows(balls) {
			if got, other := turned(impl.RoomStep(balls, row)), impl.RoomStep(balls, turned(row)); !slices.Equal(got, other) {
				t.Fatal(balls, row, got, other)
			}
		}
	}
}

// asMoved checks that the step of a row is that of its balls, moved one by one, or nil if that is no row, and returns whether it is one.
func asMoved(t *testing.T, balls int, row []int) bool {
	t.Helper()
	want := stepOfBalls(balls, row)
	if slices.Max(want) > 10000000 {
		want = nil
	}
	if got := impl.RoomStep(balls, row); !slices.Equal(got, want) {
		t.Fatal(balls, row, got, want)
	}
	return want != nil
}

func TestStepsOfBallsThatCanBeToldApart(t *testing.T) {
	for balls := 1; balls <= 6; balls++ {
		for _, row := range roomRows(balls) {
			asMoved(t, balls, row)
		}
	}
}

// rowThatLeadsTo returns a row with ways above a number, and as many below it as lead to so many ways of it after one step more, if there are such.
func rowThatLeadsTo(balls, number, above, target int) ([]int, bool) {
	row := single(balls, number+1, above)
	rest, share := target-above*(number+1), balls-number+1
	row[number-1] = rest / share
	return row, rest%share == 0
}

func TestStepsOfJustTheMostWaysAndOneMore(t *testing.T) {
	just, more := map[int]int{}, map[int]int{}
	withNumbersOfRooms(func(balls, number int) {
		if number == 0 || number == balls {
			return
		}
		for above := range 20 {
			if row, may := rowThatLeadsTo(balls, number, above, 10000000); may && asMoved(t, balls, row) && asMoved(t, balls, turned(row)) {
				just[balls]++
			}
			if row, may := rowThatLeadsTo(balls, number, above, 10000001); may && !asMoved(t, balls, row) && !asMoved(t, balls, turned(row)) {
				more[balls]++
			}
		}
	})
	// One ball just changes rooms, and of 2 and 4 balls no step leads to one more than the most, but to two more.
	for balls := 2; balls <= 6; balls++ {
		if just[balls] == 0 || (more[balls] == 0) != (balls == 2 || balls == 4) {
			t.Error(balls, just, more)
		}
	}
	for _, row := range [][]int{{0, 3333334, 0, 0, 0}, {2500000, 0, 1, 0, 0}} {
		if asMoved(t, 4, row) || asMoved(t, 4, turned(row)) {
			t.Error(row)
		}
	}
}

func TestTheMostWaysOfASingleNumberInAStep(t *testing.T) {
	withNumbersOfRooms(func(balls, number int) {
		most := 10000000 / max(number, balls-number)
		if !asMoved(t, balls, single(balls, number, most)) {
			t.Error(balls, number, most)
		}
		if balls > 1 && asMoved(t, balls, single(balls, number, most+1)) {
			t.Error(balls, number, most+1)
		}
	})
}

func TestNoRoomStep(t *testing.T) {
	withoutRoomRows(func(balls int, row []int) {
		if got := impl.RoomStep(balls, row); got != nil {
			t.Error(balls, row, got)
		}
	})
}

// Promise 44.

func TestRoomAfter(t *testing.T) {
	cases := []struct {
		balls, first, steps int
		want                []int
	}{
		{1, 0, 0, []int{1, 0}}, {1, 1, 0, []int{0, 1}}, {1, 0, 1, []int{0, 1}}, {1, 1, 1, []int{1, 0}}, {1, 0, 5, []int{0, 1}}, {1, 0, 6, []int{1, 0}},
		{2, 1, 0, []int{0, 1, 0}}, {2, 1, 1, []int{1, 0, 1}}, {2, 1, 2, []int{0, 4, 0}}, {2, 0, 6, []int{32, 0, 32}}, {2, 2, 5, []int{0, 32, 0}},
		{3, 0, 2, []int{3, 0, 6, 0}}, {3, 3, 2, []int{0, 6, 0, 3}}, {4, 2, 1, []int{0, 2, 0, 2, 0}}, {4, 2, 2, []int{2, 0, 12, 0, 2}},
		{6, 3, 0, []int{0, 0, 0, 1, 0, 0, 0}}, {6, 0, 6, []int{2256, 0, 25680, 0, 18000, 0, 720}}, {6, 6, 6, []int{720, 0, 18000, 0, 25680, 0, 2256}},
		{0, 0, 0, nil}, {7, 0, 0, nil}, {3, -1, 0, nil}, {3, 4, 0, nil}, {3, 0, -1, nil}, {3, 0, 7, nil}, {-1, -1, 0, nil}, {math.MaxInt, math.MaxInt, 6, nil},
	}
	for _, c := range cases {
		if got := impl.RoomAfter(c.balls, c.first, c.steps); !slices.Equal(got, c.want) {
			t.Error(c, got)
		}
	}
}

func TestAllWaysOfRoomsAreAPower(t *testing.T) {
	withRooms(func(balls, first, steps int) {
		row := impl.RoomAfter(balls, first, steps)
		if len(row) != balls+1 || sumOf(row) != power(balls, steps) {
			t.Fatal(balls, first, steps, row)
		}
	})
}

func TestAfterEvenStepsOnlyEvenDifferencesAreComeTo(t *testing.T) {
	withRooms(func(balls, first, steps int) {
		for number, ways := range impl.RoomAfter(balls, first, steps) {
			apart := max(number-first, first-number)
			// A number is come to by as many steps as it is apart from the first one, and by two more each time, which go there and back.
			if may := apart <= steps && (steps-apart)%2 == 0; (ways > 0) != may || ways < 0 {
				t.Fatal(balls, first, steps, number, ways)
			}
		}
	})
}

func TestWaysThereAndBackAreBalancedAtRest(t *testing.T) {
	withRooms(func(balls, first, steps int) {
		rest, there := impl.RestRow(balls), impl.RoomAfter(balls, first, steps)
		for number := range balls + 1 {
			back := impl.RoomAfter(balls, number, steps)
			if there[number]*rest[first] != back[first]*rest[number] {
				t.Fatal(balls, first, steps, number, there, back)
			}
		}
	})
}

func TestRoomsTurnedRound(t *testing.T) {
	withRooms(func(balls, first, steps int) {
		if row, other := impl.RoomAfter(balls, first, steps), impl.RoomAfter(balls, balls-first, steps); !slices.Equal(turned(row), other) {
			t.Fatal(balls, first, steps, row, other)
		}
	})
}

func TestWaysOfBallsThatWalk(t *testing.T) {
	withRooms(func(balls, first, steps int) {
		// The first of the balls, and the last of them, as many: which ones does not matter.
		places := []uint{1<<first - 1, (1<<first - 1) << (balls - first)}
		for _, place := range places {
			if row, want := impl.RoomAfter(balls, first, steps), walksOfBalls(balls, place, steps); !slices.Equal(row, want) {
				t.Fatal(balls, first, steps, row, want)
			}
		}
	})
}

func TestNoStepsAreTheFirstNumberAlone(t *testing.T) {
	withNumbersOfRooms(func(balls, first int) {
		if row := impl.RoomAfter(balls, first, 0); !slices.Equal(row, single(balls, first, 1)) {
			t.Error(balls, first, row)
		}
	})
}

func TestStepsFollowOneAnother(t *testing.T) {
	withRooms(func(balls, first, steps int) {
		if steps == 0 {
			return
		}
		if row, want := impl.RoomAfter(balls, first, steps), impl.RoomStep(balls, impl.RoomAfter(balls, first, steps-1)); !slices.Equal(row, want) {
			t.Fatal(balls, first, steps, row, want)
		}
	})
}

func TestNoRoomAfter(t *testing.T) {
	withoutRooms(func(balls, first, steps int) {
		if got := impl.RoomAfter(balls, first, steps); got != nil {
			t.Error(balls, first, steps, got)
		}
	})
}

// Promise 45.

func TestRestRow(t *testing.T) {
	rows := [][]int{nil, {1, 1}, {1, 2, 1}, {1, 3, 3, 1}, {1, 4, 6, 4, 1}, {1, 5, 10, 10, 5, 1}, {1, 6, 15, 20, 15, 6, 1}, nil}
	for balls, want := range rows {
		if got := impl.RestRow(balls); !slices.Equal(got, want) {
			t.Error(balls, got)
		}
	}
}

func TestRestRowsCountChoicesOfBalls(t *testing.T) {
	for balls := 1; balls <= 6; balls++ {
		choices := make([]int, balls+1)
		for place := range uint(1) << balls {
			choices[bits.OnesCount(place)]++
		}
		if row := impl.RestRow(balls); !slices.Equal(row, choices) || !slices.Equal(row, turned(choices)) {
			t.Error(balls, row, choices)
		}
	}
}

func TestAtRestNothingChanges(t *testing.T) {
	for balls := 1; balls <= 6; balls++ {
		row := impl.RestRow(balls)
		stepped := impl.RoomStep(balls, row)
		if len(row) != balls+1 || len(stepped) != balls+1 || sumOf(row) != power(2, balls) {
			t.Fatal(balls, row, stepped)
		}
		for number, ways := range row {
			if stepped[number] != balls*ways {
				t.Error(balls, number, row, stepped)
			}
		}
	}
}

func TestAtRestAsMuchGoesUpAsDown(t *testing.T) {
	for balls := 1; balls <= 6; balls++ {
		row := impl.RestRow(balls)
		for number := range balls {
			up := impl.RoomStep(balls, single(balls, number, row[number]))[number+1]
			down := impl.RoomStep(balls, single(balls, number+1, row[number+1]))[number]
			if up != down || up != row[number]*(balls-number) || down != row[number+1]*(number+1) {
				t.Error(balls, number, row, up, down)
			}
		}
	}
}

func TestNoRestRow(t *testing.T) {
	for _, balls := range wrongRooms() {
		if got := impl.RestRow(balls); got != nil {
			t.Error(balls, got)
		}
	}
}

// Promise 46.

func TestLeanAfter(t *testing.T) {
	cases := []struct{ balls, first, steps, want int }{
		{1, 0, 0, -1}, {1, 1, 0, 1}, {1, 0, 1, 1}, {1, 1, 1, -1}, {1, 0, 5, 1}, {1, 0, 6, -1},
		// Of two balls the lean is gone after one step, but not before.
		{2, 0, 0, -2}, {2, 1, 0, 0}, {2, 2, 0, 2}, {2, 0, 1, 0}, {2, 2, 1, 0}, {2, 2, 6, 0},
		{3, 0, 2, -3}, {3, 3, 6, 3}, {3, 2, 1, 1}, {4, 4, 3, 32}, {4, 2, 6, 0}, {5, 2, 2, -9},
		{6, 6, 0, 6}, {6, 6, 6, 24576}, {6, 0, 6, -24576}, {6, 3, 6, 0}, {6, 4, 1, 8},
		{3, 4, 1, 0}, {3, -1, 1, 0}, {0, 0, 0, 0}, {7, 0, 0, 0}, {3, 0, -1, 0}, {3, 0, 7, 0}, {1, 1, 7, 0}, {-1, -1, 0, 0},
	}
	for _, c := range cases {
		if got := impl.LeanAfter(c.balls, c.first, c.steps); got != c.want {
			t.Error(c, got)
		}
	}
}

func TestTheLeanShrinksByTheSameFactor(t *testing.T) {
	withRooms(func(balls, first, steps int) {
		if got := impl.LeanAfter(balls, first, steps); got != (2*first-balls)*power(balls-2, steps) {
			t.Error(balls, first, steps, got)
		}
	})
}

func TestLeansAreThoseOfAllWays(t *testing.T) {
	withRooms(func(balls, first, steps int) {
		got := impl.LeanAfter(balls, first, steps)
		if got != leanOf(impl.RoomAfter(balls, first, steps)) || got != leanOf(walksOfBalls(balls, 1<<first-1, steps)) {
			t.Error(balls, first, steps, got)
		}
	})
}

func TestLeansOfBothRoomsAreTogetherNothing(t *testing.T) {
	withRooms(func(balls, first, steps int) {
		if got, other := impl.LeanAfter(balls, first, steps), impl.LeanAfter(balls, balls-first, steps); got+other != 0 {
			t.Error(balls, first, steps, got, other)
		}
	})
}

func TestNoLeanAfter(t *testing.T) {
	withoutRooms(func(balls, first, steps int) {
		if got := impl.LeanAfter(balls, first, steps); got != 0 {
			t.Error(balls, first, steps, got)
		}
	})
}

// Promise 47.

func TestStepsArePutTogether(t *testing.T) {
	withRooms(func(balls, first, steps int) {
		all := impl.RoomAfter(balls, first, steps)
		for part := range steps + 1 {
			together := make([]int, balls+1)
			for between, ways := range impl.RoomAfter(balls, first, part) {
				for number, further := range impl.RoomAfter(balls, between, steps-part) {
					together[number] += ways * further
				}
			}
			if !slices.Equal(all, together) {
				t.Fatal(balls, first, steps, part, all, together)
			}
		}
	})
}

func TestOneStepAndAllOthersArePutTogether(t *testing.T) {
	withRooms(func(balls, first, steps int) {
		if steps == 0 {
			return
		}
		for number, ways := range impl.RoomAfter(balls, first, steps) {
			// A ball of the first room moves away, or one of the others comes to it.
			together := 0
			if first > 0 {
				together += first * impl.RoomAfter(balls, first-1, steps-1)[number]
			}
			if first < balls {
				together += (balls - first) * impl.RoomAfter(balls, first+1, steps-1)[number]
			}
			if ways != together {
				t.Fatal(balls, first, steps, number, ways, together)
			}
		}
	})
}

// Promise 48.

func TestAtRestTheLeanSquaredIsAsGreatAsTheBalls(t *testing.T) {
	for balls := 1; balls <= 6; balls++ {
		row := impl.RestRow(balls)
		squares, leans := 0, 0
		for number, ways := range row {
			lean := 2*number - balls
			squares += ways * lean * lean
			leans += ways * lean
		}
		if squares != sumOf(row)*balls || squares != power(2, balls)*balls || leans != 0 {
			t.Error(balls, row, squares, leans)
		}
	}
}

func TestLeansSquaredOfBallsThatCanBeToldApart(t *testing.T) {
	for balls := 1; balls <= 6; balls++ {
		squares, fromRow := map[int]int{}, map[int]int{}
		for place := range uint(1) << balls {
			lean := 2*bits.OnesCount(place) - balls
			squares[lean*lean]++
		}
		for number, ways := range impl.RestRow(balls) {
			lean := 2*number - balls
			fromRow[lean*lean] += ways
		}
		for square, many := range squares {
			if fromRow[square] != many || len(fromRow) != len(squares) {
				t.Error(balls, squares, fromRow)
			}
		}
	}
}

// The general rules: results share no memory, arguments are not written to, nothing is kept.

func TestRowsAfterStepsAreNewMemory(t *testing.T) {
	withRooms(func(balls, first, steps int) {
		newEachTime(t, func() []int { return impl.RoomAfter(balls, first, steps) })
	})
}

func TestRestRowsAreNewMemory(t *testing.T) {
	for balls := 1; balls <= 6; balls++ {
		newEachTime(t, func() []int { return impl.RestRow(balls) })
	}
}

func TestStepsAreNewMemoryAndRowsAreNotWritten(t *testing.T) {
	for balls := 1; balls <= 6; balls++ {
		for _, want := range roomRows(balls) {
			row := roomy(want)
			impl.RoomRowOk(balls, row)
			first, second := impl.RoomStep(balls, row), impl.RoomStep(balls, row)
			unwritten(t, want, row)
			stepped := slices.Clone(second)
			spareTouched(first)
			unwritten(t, want, row)
			if !slices.Equal(second, stepped) || !slices.Equal(impl.RoomStep(balls, row), stepped) {
				t.Fatal(balls, want, second)
			}
			spareTouched(row)
			if !slices.Equal(second, stepped) {
				t.Fatal(balls, want, second)
			}
		}
	}
}

func TestRowsThatAreNoneAreNotWritten(t *testing.T) {
	withoutRoomRows(func(balls int, want []int) {
		row := roomy(want)
		impl.RoomRowOk(balls, row)
		impl.RoomStep(balls, row)
		unwritten(t, want, row)
	})
}

func TestRoomResultsAreNotKept(t *testing.T) {
	for range 3 {
		if row := impl.RoomAfter(3, 0, 2); !slices.Equal(row, []int{3, 0, 6, 0}) {
			t.Fatal(row)
		}
		if lean, row := impl.LeanAfter(3, 0, 2), impl.RoomStep(2, []int{0, 1, 0}); lean != -3 || !slices.Equal(row, []int{1, 0, 1}) {
			t.Fatal(lean, row)
		}
		if row := impl.RestRow(4); !slices.Equal(row, []int{1, 4, 6, 4, 1}) {
			t.Fatal(row)
		}
		impl.RoomAfter(6, 6, 6)
		impl.LeanAfter(math.MaxInt, math.MinInt, math.MaxInt)
		impl.RoomStep(2, []int{10000000, 0, 10000000})
		impl.RestRow(6)
	}
}
