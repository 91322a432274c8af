package tests

import (
	"math"
	"testing"

	"loop.example/urnsandballs/impl"
)

// withFalls visits all numbers of balls that fall with all numbers of boxes.
func withFalls(visit func(balls, boxes int)) {
	for balls := 0; balls <= 7; balls++ {
		for boxes := 1; boxes <= 6; boxes++ {
			visit(balls, boxes)
		}
	}
}

// withEmptyBoxes visits all numbers of balls that fall and of boxes with all numbers of empty ones.
func withEmptyBoxes(visit func(balls, boxes, empty int)) {
	withFalls(func(balls, boxes int) {
		for empty := 0; empty <= boxes; empty++ {
			visit(balls, boxes, empty)
		}
	})
}

// withGroups visits all numbers of balls with all numbers of groups.
func withGroups(visit func(balls, groups int)) {
	for balls := 0; balls <= 7; balls++ {
		for groups := 0; groups <= 6; groups++ {
			visit(balls, groups)
		}
	}
}

// withoutFalls visits numbers of balls and of boxes of which one at least may not be.
func withoutFalls(visit func(balls, boxes int)) {
	withoutPairsOf(withFalls, visit)
}

// withoutGroups visits numbers of balls and of groups of which one at least may not be.
func withoutGroups(visit func(balls, groups int)) {
	withoutPairsOf(withGroups, visit)
}

// withoutEmptyBoxes visits numbers of balls, of boxes and of empty ones of which one at least may not be.
func withoutEmptyBoxes(visit func(balls, boxes, empty int)) {
	may := map[[3]int]bool{}
	withEmptyBoxes(func(balls, boxes, empty int) { may[[3]int{balls, boxes, empty}] = true })
	for _, row := range rowsOf(3, wrongAndRight()) {
		if !may[[3]int(row)] {
			visit(row[0], row[1], row[2])
		}
	}
}

// letFall visits all ways in which so many balls fall into so many boxes, one ball after the other, as the box of each ball; the row is lent for the call only.
func letFall(balls, boxes int, visit func(boxOf []int)) {
	boxOf := make([]int, 0, balls)
	var next func()
	next = func() {
		if len(boxOf) == balls {
			visit(boxOf)
			return
		}
		for box := range boxes {
			boxOf = append(boxOf, box)
			next()
			boxOf = boxOf[:len(boxOf)-1]
		}
	}
	next()
}

// countFalls counts the ways in which so many balls fall into so many boxes and which are as asked.
func countFalls(balls, boxes int, asked func(boxOf []int) bool) int {
	ways := 0
	letFall(balls, boxes, func(boxOf []int) {
		if asked(boxOf) {
			ways++
		}
	})
	return ways
}

// emptyOf returns how many of so many boxes have none of the balls.
func emptyOf(boxes int, boxOf []int) int {
	var has [10]bool
	for _, box := range boxOf {
		has[box] = true
	}
	empty := 0
	for box := range boxes {
		if !has[box] {
			empty++
		}
	}
	return empty
}

// hasPair reports whether two balls are in the same box.
func hasPair(boxOf []int) bool {
	for ball, box := range boxOf {
		for _, other := range boxOf[:ball] {
			if box == other {
				return true
			}
		}
	}
	return false
}

// endsWaiting reports whether so many of the balls, from 1 on, leave none of the boxes empty, and one fewer do.
func endsWaiting(boxes int, boxOf []int, balls int) bool {
	return emptyOf(boxes, boxOf[:balls]) == 0 && emptyOf(boxes, boxOf[:balls-1]) > 0
}

// groupings counts in how many ways balls are put into groups of one at least, by the groups as numbered by their first balls.
func groupings(balls, groups int) int {
	found := map[[7]int]bool{}
	letFall(balls, groups, func(boxOf []int) {
		if emptyOf(groups, boxOf) > 0 {
			return
		}
		var grouped, number [7]int
		for ball, box := range boxOf {
			if number[box] == 0 {
				number[box] = ball + 1
			}
			grouped[ball] = number[box]
		}
		found[grouped] = true
	})
	return len(found)
}

// asTabled checks what is told of all numbers of balls and of boxes, from one box on.
func asTabled(t *testing.T, told func(balls, boxes int) int, table [8][6]int) {
	t.Helper()
	withFalls(func(balls, boxes int) {
		if got, want := told(balls, boxes), table[balls][boxes-1]; got != want {
			t.Error(balls, boxes, got, want)
		}
	})
}

// asCounted checks what is told of all numbers of balls and of boxes against the ways in which they fall and which are as asked.
func asCounted(t *testing.T, told func(balls, boxes int) int, asked func(boxes int, boxOf []int) bool) {
	t.Helper()
	withFalls(func(balls, boxes int) {
		want := countFalls(balls, boxes, func(boxOf []int) bool { return asked(boxes, boxOf) })
		if got := told(balls, boxes); got != want {
			t.Error(balls, boxes, got, want)
		}
	})
}

// toldNothing checks that of balls or boxes that may not be -1 is told.
func toldNothing(t *testing.T, told func(balls, boxes int) int) {
	t.Helper()
	withoutFalls(func(balls, boxes int) {
		if got := told(balls, boxes); got != -1 {
			t.Error(balls, boxes, got)
		}
	})
	for _, c := range [][2]int{{-1, 1}, {8, 1}, {8, 6}, {0, 0}, {7, 0}, {0, 7}, {7, 7}, {3, -1}, {-1, -1}, {8, 7}, {math.MaxInt, math.MaxInt}, {math.MinInt, math.MinInt}, {math.MaxInt, 1}, {1, math.MinInt}} {
		if got := told(c[0], c[1]); got != -1 {
			t.Error(c, got)
		}
	}
}

// Promise 49.

func TestFullWays(t *testing.T) {
	if impl.MaxBalls != 7 || impl.MaxBoxes != 6 {
		t.Fatal(impl.MaxBalls, impl.MaxBoxes)
	}
	asTabled(t, impl.FullWays, [8][6]int{
		{},
		{1},
		{1, 2},
		{1, 6, 6},
		{1, 14, 36, 24},
		{1, 30, 150, 240, 120},
		{1, 62, 540, 1560, 1800, 720},
		{1, 126, 1806, 8400, 16800, 15120},
	})
}

func TestFullBoxesOfBallsThatFall(t *testing.T) {
	asCounted(t, impl.FullWays, func(boxes int, boxOf []int) bool { return emptyOf(boxes, boxOf) == 0 })
}

func TestFullBoxesAreGroupsThatCanBeToldApart(t *testing.T) {
	withFalls(func(balls, boxes int) {
		if got, groups := impl.FullWays(balls, boxes), impl.GroupsOf(balls, boxes); got != groups*factorial(boxes) {
			t.Error(balls, boxes, got, groups)
		}
	})
}

func TestFewerBallsThanBoxesNeverFillThem(t *testing.T) {
	withFalls(func(balls, boxes int) {
		if got := impl.FullWays(balls, boxes); got < 0 || (got == 0) != (balls < boxes) {
			t.Error(balls, boxes, got)
		}
	})
}

func TestAsManyBallsAsBoxesAndOneMoreFillThem(t *testing.T) {
	for boxes := 1; boxes <= 6; boxes++ {
		if got := impl.FullWays(boxes, boxes); got != factorial(boxes) {
			t.Error(boxes, got)
		}
		// Some two balls are together, and fall like one.
		if got := impl.FullWays(boxes+1, boxes); got != factorial(boxes)*(boxes+1)*boxes/2 {
			t.Error(boxes, got)
		}
	}
}

func TestNoFullWays(t *testing.T) {
	toldNothing(t, impl.FullWays)
}

// Promise 50.

func TestEmptyWays(t *testing.T) {
	cases := []struct{ balls, boxes, empty, want int }{
		{0, 1, 0, 0}, {0, 1, 1, 1}, {0, 2, 0, 0}, {0, 2, 1, 0}, {0, 2, 2, 1}, {0, 6, 5, 0}, {0, 6, 6, 1},
		{1, 1, 0, 1}, {1, 1, 1, 0}, {1, 6, 4, 0}, {1, 6, 5, 6}, {1, 6, 6, 0}, {7, 1, 0, 1}, {7, 1, 1, 0},
		{2, 4, 1, 0}, {2, 4, 2, 12}, {2, 4, 3, 4}, {2, 4, 4, 0}, {3, 3, 0, 6}, {3, 3, 1, 18}, {3, 3, 2, 3}, {3, 3, 3, 0}, {5, 4, 0, 240}, {5, 4, 1, 600},
		{7, 6, 0, 15120}, {7, 6, 1, 100800}, {7, 6, 2, 126000}, {7, 6, 3, 36120}, {7, 6, 4, 1890}, {7, 6, 5, 6}, {7, 6, 6, 0},
		{3, 3, 4, -1}, {3, 3, -1, -1}, {0, 1, 2, -1}, {0, 1, -1, -1}, {7, 6, 7, -1}, {8, 6, 0, -1}, {-1, 6, 6, -1}, {7, 7, 0, -1}, {0, 0, 0, -1}, {0, -1, -1, -1},
	}
	for _, c := range cases {
		if got := impl.EmptyWays(c.balls, c.boxes, c.empty); got != c.want {
			t.Error(c, got)
		}
	}
}

func TestEmptyBoxesOfBallsThatFall(t *testing.T) {
	withEmptyBoxes(func(balls, boxes, empty int) {
		want := countFalls(balls, boxes, func(boxOf []int) bool { return emptyOf(boxes, boxOf) == empty })
		if got := impl.EmptyWays(balls, boxes, empty); got != want {
			t.Error(balls, boxes, empty, got, want)
		}
	})
}

// emptyRow returns EmptyWays of all numbers of empty boxes.
func emptyRow(balls, boxes int) []int {
	var row []int
	for empty := range boxes + 1 {
		row = append(row, impl.EmptyWays(balls, boxes, empty))
	}
	return row
}

func TestAllWaysAreByHowManyBoxesStayEmpty(t *testing.T) {
	withFalls(func(balls, boxes int) {
		if row := emptyRow(balls, boxes); sumOf(row) != power(boxes, balls) {
			t.Error(balls, boxes, row)
		}
	})
}

func TestEachBoxStaysEmptyByTheSameShare(t *testing.T) {
	withFalls(func(balls, boxes int) {
		if row := emptyRow(balls, boxes); sumByNumber(row) != boxes*power(boxes-1, balls) {
			t.Error(balls, boxes, row)
		}
	})
}

func TestNoBoxStaysEmptyIfAllAreFull(t *testing.T) {
	withFalls(func(balls, boxes int) {
		if got, full := impl.EmptyWays(balls, boxes, 0), impl.FullWays(balls, boxes); got != full {
			t.Error(balls, boxes, got, full)
		}
	})
}

func TestAllBoxesStayEmptyOfNoBallsAlone(t *testing.T) {
	withFalls(func(balls, boxes int) {
		all, allButOne := 0, boxes
		if balls == 0 {
			all, allButOne = 1, 0
		}
		if got := impl.EmptyWays(balls, boxes, boxes); got != all {
			t.Error(balls, boxes, got)
		}
		if got := impl.EmptyWays(balls, boxes, boxes-1); got != allButOne {
			t.Error(balls, boxes, got)
		}
	})
}

func TestTheEmptyBoxIsAnyOne(t *testing.T) {
	withFalls(func(balls, boxes int) {
		if boxes == 1 {
			return
		}
		if got, full := impl.EmptyWays(balls, boxes, 1), impl.FullWays(balls, boxes-1); got != boxes*full {
			t.Error(balls, boxes, got, full)
		}
	})
}

func TestNoEmptyWays(t *testing.T) {
	withoutEmptyBoxes(func(balls, boxes, empty int) {
		if got := impl.EmptyWays(balls, boxes, empty); got != -1 {
			t.Error(balls, boxes, empty, got)
		}
	})
	for empty := range 7 {
		toldNothing(t, func(balls, boxes int) int { return impl.EmptyWays(balls, boxes, empty) })
	}
}

func TestEmptyBoxesFromNoneUpToAll(t *testing.T) {
	withFalls(func(balls, boxes int) {
		for _, empty := range []int{-boxes, -1, boxes + 1, boxes + 2, math.MinInt, math.MinInt + boxes, math.MaxInt, math.MaxInt - boxes} {
			if got := impl.EmptyWays(balls, boxes, empty); got != -1 {
				t.Error(balls, boxes, empty, got)
			}
		}
	})
}

// Promise 51.

func TestApartWays(t *testing.T) {
	asTabled(t, impl.ApartWays, [8][6]int{
		{1, 1, 1, 1, 1, 1},
		{1, 2, 3, 4, 5, 6},
		{0, 2, 6, 12, 20, 30},
		{0, 0, 6, 24, 60, 120},
		{0, 0, 0, 24, 120, 360},
		{0, 0, 0, 0, 120, 720},
		{0, 0, 0, 0, 0, 720},
		{},
	})
}

func TestBallsApartOfBallsThatFall(t *testing.T) {
	asCounted(t, impl.ApartWays, func(_ int, boxOf []int) bool { return !hasPair(boxOf) })
}

func TestBallsApartLeaveTheOtherBoxesEmpty(t *testing.T) {
	withFalls(func(balls, boxes int) {
		want := 0
		if boxes >= balls {
			want = impl.EmptyWays(balls, boxes, boxes-balls)
		}
		if got := impl.ApartWays(balls, boxes); got != want {
			t.Error(balls, boxes, got, want)
		}
	})
}

func TestAsManyBallsApartAsBoxesAndOneMore(t *testing.T) {
	for boxes := 1; boxes <= 6; boxes++ {
		if just, more := impl.ApartWays(boxes, boxes), impl.ApartWays(boxes+1, boxes); just != factorial(boxes) || more != 0 {
			t.Error(boxes, just, more)
		}
	}
}

func TestNoApartWays(t *testing.T) {
	toldNothing(t, impl.ApartWays)
}

// Promise 52.

func TestGroups(t *testing.T) {
	table := [8][7]int{
		{1},
		{0, 1},
		{0, 1, 1},
		{0, 1, 3, 1},
		{0, 1, 7, 6, 1},
		{0, 1, 15, 25, 10, 1},
		{0, 1, 31, 90, 65, 15, 1},
		{0, 1, 63, 301, 350, 140, 21},
	}
	withGroups(func(balls, groups int) {
		if got, want := impl.GroupsOf(balls, groups), table[balls][groups]; got != want {
			t.Error(balls, groups, got, want)
		}
	})
}

func TestGroupsCannotBeToldApart(t *testing.T) {
	withGroups(func(balls, groups int) {
		if got, want := impl.GroupsOf(balls, groups), groupings(balls, groups); got != want {
			t.Error(balls, groups, got, want)
		}
	})
}

func TestAFurtherBallJoinsAGroupOrIsOne(t *testing.T) {
	withGroups(func(balls, groups int) {
		if balls == 7 {
			return
		}
		want := groups * impl.GroupsOf(balls, groups)
		if groups > 0 {
			want += impl.GroupsOf(balls, groups-1)
		}
		if got := impl.GroupsOf(balls+1, groups); got != want {
			t.Error(balls, groups, got, want)
		}
	})
}

func TestAsManyGroupsAsBalls(t *testing.T) {
	withGroups(func(balls, groups int) {
		got := impl.GroupsOf(balls, groups)
		if balls == groups && got != 1 || balls < groups && got != 0 {
			t.Error(balls, groups, got)
		}
		// No groups hold no balls alone, and no balls make no groups alone.
		if groups == 0 && (got == 0) != (balls > 0) || balls == 0 && (got == 0) != (groups > 0) {
			t.Error(balls, groups, got)
		}
	})
}

func TestNoGroups(t *testing.T) {
	withoutGroups(func(balls, groups int) {
		if got := impl.GroupsOf(balls, groups); got != -1 {
			t.Error(balls, groups, got)
		}
	})
	for _, c := range [][2]int{{-1, 0}, {0, -1}, {-1, -1}, {8, 0}, {8, 6}, {0, 7}, {7, 7}, {8, 8}, {math.MaxInt, 0}, {math.MinInt, 0}, {0, math.MaxInt}, {0, math.MinInt}, {math.MaxInt, math.MaxInt}} {
		if got := impl.GroupsOf(c[0], c[1]); got != -1 {
			t.Error(c, got)
		}
	}
}

// Promise 53.

func TestWaitWays(t *testing.T) {
	asTabled(t, impl.WaitWays, [8][6]int{
		{},
		{1},
		{0, 2},
		{0, 2, 6},
		{0, 2, 18, 24},
		{0, 2, 42, 144, 120},
		{0, 2, 90, 600, 1200, 720},
		{0, 2, 186, 2160, 7800, 10800},
	})
}

func TestWaitingOfBallsThatFall(t *testing.T) {
	asCounted(t, impl.WaitWays, func(boxes int, boxOf []int) bool {
		return len(boxOf) > 0 && endsWaiting(boxes, boxOf, len(boxOf))
	})
}

func TestWaitingEndsWithTheLastEmptyBox(t *testing.T) {
	withFalls(func(balls, boxes int) {
		if balls == 0 || boxes == 1 {
			return
		}
		if got, full := impl.WaitWays(balls, boxes), impl.FullWays(balls-1, boxes-1); got != boxes*full {
			t.Error(balls, boxes, got, full)
		}
	})
}

func TestWaitingForOneBoxEndsWithTheFirstBall(t *testing.T) {
	for balls := range 8 {
		if got := impl.WaitWays(balls, 1); (got == 1) != (balls == 1) || (got == 0) != (balls != 1) {
			t.Error(balls, got)
		}
	}
}

func TestWaitingHasEndedBeforeOrEndsNow(t *testing.T) {
	withFalls(func(balls, boxes int) {
		if balls == 0 {
			return
		}
		full, before, now := impl.FullWays(balls, boxes), impl.FullWays(balls-1, boxes), impl.WaitWays(balls, boxes)
		if full != before*boxes+now {
			t.Error(balls, boxes, full, before, now)
		}
	})
}

func TestNoWaitingEndsWithoutBalls(t *testing.T) {
	for boxes := 1; boxes <= 6; boxes++ {
		if got := impl.WaitWays(0, boxes); got != 0 {
			t.Error(boxes, got)
		}
	}
}

func TestNoWaitWays(t *testing.T) {
	toldNothing(t, impl.WaitWays)
}

// Promise 54.

func TestWaitingEndsAtLast(t *testing.T) {
	withFalls(func(balls, boxes int) {
		ended := 0
		for last := range balls + 1 {
			ended += impl.WaitWays(last, boxes) * power(boxes, balls-last)
		}
		if full := impl.FullWays(balls, boxes); ended != full {
			t.Error(balls, boxes, ended, full)
		}
	})
}

func TestWaitingEndsWithOneBallAlone(t *testing.T) {
	withFalls(func(balls, boxes int) {
		for last := 1; last <= balls; last++ {
			ended := countFalls(balls, boxes, func(boxOf []int) bool { return endsWaiting(boxes, boxOf, last) })
			if want := impl.WaitWays(last, boxes) * power(boxes, balls-last); ended != want {
				t.Error(balls, boxes, last, ended, want)
			}
		}
	})
}

// Promise 55.

func TestPowersAreGroupsApart(t *testing.T) {
	withFalls(func(balls, boxes int) {
		all := 0
		// Seven groups may not be asked for, but of seven balls as many never fall apart into six boxes.
		for groups := range min(balls, 6) + 1 {
			all += impl.GroupsOf(balls, groups) * impl.ApartWays(groups, boxes)
		}
		if all != power(boxes, balls) {
			t.Error(balls, boxes, all)
		}
	})
}

func TestGroupsApartLeaveTheOtherBoxesEmpty(t *testing.T) {
	withFalls(func(balls, boxes int) {
		for groups := range boxes + 1 {
			apart := impl.GroupsOf(balls, groups) * impl.ApartWays(groups, boxes)
			if got := impl.EmptyWays(balls, boxes, boxes-groups); got != apart {
				t.Error(balls, boxes, groups, got, apart)
			}
		}
	})
}

// Promise 56.

func TestPairWays(t *testing.T) {
	asTabled(t, impl.PairWays, [8][6]int{
		{},
		{},
		{1, 2, 3, 4, 5, 6},
		{1, 8, 21, 40, 65, 96},
		{1, 16, 81, 232, 505, 936},
		{1, 32, 243, 1024, 3005, 7056},
		{1, 64, 729, 4096, 15625, 45936},
		{1, 128, 2187, 16384, 78125, 279936},
	})
}

func TestPairsOfBallsThatFall(t *testing.T) {
	asCounted(t, impl.PairWays, func(_ int, boxOf []int) bool { return hasPair(boxOf) })
}

func TestPairsAndBallsApartAreAllWays(t *testing.T) {
	withFalls(func(balls, boxes int) {
		if pairs, apart := impl.PairWays(balls, boxes), impl.ApartWays(balls, boxes); pairs+apart != power(boxes, balls) {
			t.Error(balls, boxes, pairs, apart)
		}
	})
}

func TestMoreBallsThanBoxesAlwaysMakeAPair(t *testing.T) {
	withFalls(func(balls, boxes int) {
		got := impl.PairWays(balls, boxes)
		if (got == power(boxes, balls)) != (balls > boxes) || (got == 0) != (balls < 2) {
			t.Error(balls, boxes, got)
		}
	})
}

func TestAFurtherBallLeavesPairsAsTheyAre(t *testing.T) {
	withFalls(func(balls, boxes int) {
		if balls == 7 {
			return
		}
		if got, more := impl.PairWays(balls, boxes), impl.PairWays(balls+1, boxes); more < got*boxes {
			t.Error(balls, boxes, got, more)
		}
	})
}

func TestNoPairWays(t *testing.T) {
	toldNothing(t, impl.PairWays)
}

// The general rules: nothing is kept.

func TestFallsAreNotKept(t *testing.T) {
	for range 3 {
		asked := []int{impl.FullWays(4, 2), impl.EmptyWays(3, 3, 1), impl.ApartWays(2, 4), impl.GroupsOf(4, 2), impl.WaitWays(3, 2), impl.PairWays(3, 2)}
		for i, want := range []int{14, 18, 12, 7, 2, 8} {
			if asked[i] != want {
				t.Fatal(i, asked)
			}
		}
		impl.FullWays(7, 6)
		impl.EmptyWays(7, 6, 3)
		impl.EmptyWays(math.MaxInt, math.MinInt, math.MaxInt)
		impl.ApartWays(7, 1)
		impl.GroupsOf(7, 6)
		impl.WaitWays(0, 6)
		impl.PairWays(math.MinInt, math.MaxInt)
	}
}
