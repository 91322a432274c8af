package tests

import (
	"math"
	"slices"
	"testing"

	"loop.example/urnsandballs/impl"
)

// withBoxes visits all boxes with all numbers of balls of both colours that may have been drawn of them.
func withBoxes(visit func(many, first, second int)) {
	for many := 1; many <= 8; many++ {
		for first := 0; first <= many; first++ {
			for second := 0; second <= many-first; second++ {
				visit(many, first, second)
			}
		}
	}
}

// withBoxNumbers visits all boxes that may be, and many that may not, with whether they may.
func withBoxNumbers(visit func(many, first, second int, may bool)) {
	boxes := map[[3]int]bool{}
	withBoxes(func(many, first, second int) { boxes[[3]int{many, first, second}] = true })
	numbers := append(extremes(), -16, -9, -8, -3, -2, -1, 16, 17, 40, math.MinInt/2, math.MaxInt/2, math.MaxInt/2+1, math.MaxInt-8, math.MinInt+8)
	numbers = append(numbers, numbersTo(13)...)
	for _, row := range rowsOf(3, numbers) {
		visit(row[0], row[1], row[2], boxes[[3]int(row)])
	}
}

// withoutBoxes visits numbers of balls of which one at least may not be.
func withoutBoxes(visit func(many, first, second int)) {
	withBoxNumbers(func(many, first, second int, may bool) {
		if !may {
			visit(many, first, second)
		}
	})
}

// wordsWithBoth returns words with so many draws of two colours: in the order of these, from behind, and with both in turn.
func wordsWithBoth(first, second int) [][]int {
	inOrder := wordInOrder([]int{first, second})
	var inTurn []int
	for i := range max(first, second) {
		if i < second {
			inTurn = append(inTurn, 1)
		}
		if i < first {
			inTurn = append(inTurn, 0)
		}
	}
	return [][]int{inOrder, turned(inOrder), inTurn}
}

// boxWays counts, ball by ball, in how many ways a word comes out of a box, of which the first balls, so many, are of the colour 0, and those that are taken are gone.
func boxWays(many, number int, word []int, taken [8]bool) int {
	if len(word) == 0 {
		return 1
	}
	ways := 0
	for ball := range many {
		isFirst, wantFirst := ball < number, word[0] == 0
		if !taken[ball] && isFirst == wantFirst {
			after := taken
			after[ball] = true
			ways += boxWays(many, number, word[1:], after)
		}
	}
	return ways
}

// waysOfBoxes returns in how many ways a word comes out of a box, for each number of balls of the colour 0.
func waysOfBoxes(many int, word []int) []int {
	var ways []int
	for number := range many + 1 {
		ways = append(ways, boxWays(many, number, word, [8]bool{}))
	}
	return ways
}

// isFraction reports whether two numbers from 0 on are a fraction in least terms, 0 and 1 for none.
func isFraction(gotOver, gotUnder, over, under int) bool {
	return gotOver >= 0 && gotUnder > 0 && gotOver*under == over*gotUnder && lowestTerms(gotOver, gotUnder)
}

// Promise 35.

func TestBoxes(t *testing.T) {
	if impl.MaxBox != 8 {
		t.Fatal(impl.MaxBox)
	}
	cases := []struct {
		many, first, second int
		want                bool
	}{
		{1, 0, 0, true}, {1, 1, 0, true}, {1, 0, 1, true}, {1, 1, 1, false}, {1, 2, 0, false}, {1, 0, 2, false},
		{4, 2, 2, true}, {4, 3, 2, false}, {4, 2, 3, false}, {4, 4, 0, true}, {4, 0, 4, true}, {4, 5, 0, false}, {4, 0, 5, false}, {4, 5, -1, false}, {4, -1, 5, false},
		{8, 0, 0, true}, {8, 8, 0, true}, {8, 0, 8, true}, {8, 3, 5, true}, {8, 4, 5, false}, {8, 9, 0, false}, {8, 0, 9, false}, {8, 8, 8, false},
		{0, 0, 0, false}, {9, 0, 0, false}, {9, 4, 5, false}, {-1, 0, 0, false}, {-1, -1, 0, false}, {8, -1, 0, false}, {8, 0, -1, false}, {8, -1, -1, false},
	}
	for _, c := range cases {
		if got := impl.BoxOk(c.many, c.first, c.second); got != c.want {
			t.Error(c, got)
		}
	}
}

func TestAllBoxesAndNoOthers(t *testing.T) {
	withBoxNumbers(func(many, first, second int, may bool) {
		if impl.BoxOk(many, first, second) != may {
			t.Error(many, first, second, may)
		}
	})
}

func TestBoxesWhoseSumsWrapAroundAreNone(t *testing.T) {
	none := func(many, first, second int) {
		if impl.BoxOk(many, first, second) || impl.BoxOk(many, second, first) {
			t.Error(many, first, second)
		}
	}
	for many := 1; many <= impl.MaxBox; many++ {
		for drawn := 0; drawn <= many; drawn++ {
			// Both together wrap around to a number below 0.
			none(many, math.MaxInt, math.MaxInt-drawn)
			none(many, math.MaxInt/2+1, math.MaxInt/2+1+drawn)
			none(many, math.MaxInt-drawn, drawn+1)
			// Both together wrap around to just as many as may be drawn.
			none(many, math.MinInt, math.MinInt+drawn)
		}
	}
}

func TestBothColoursAreAlike(t *testing.T) {
	withBoxNumbers(func(many, first, second int, _ bool) {
		if impl.BoxOk(many, first, second) != impl.BoxOk(many, second, first) {
			t.Error(many, first, second)
		}
	})
}

func TestOfBoxesMayBeDrawnOneLess(t *testing.T) {
	withBoxes(func(many, first, second int) {
		if first > 0 && !impl.BoxOk(many, first-1, second) || second > 0 && !impl.BoxOk(many, first, second-1) {
			t.Error(many, first, second)
		}
	})
}

// Promise 36.

func TestBoxWeights(t *testing.T) {
	cases := []struct {
		many, first, second int
		want                []int
	}{
		{1, 0, 0, []int{1, 1}}, {1, 1, 0, []int{0, 1}}, {1, 0, 1, []int{1, 0}},
		{2, 1, 1, []int{0, 1, 0}}, {2, 2, 0, []int{0, 0, 2}}, {2, 0, 2, []int{2, 0, 0}}, {2, 1, 0, []int{0, 1, 2}},
		{3, 1, 1, []int{0, 2, 2, 0}}, {3, 0, 0, []int{1, 1, 1, 1}}, {4, 2, 1, []int{0, 0, 4, 6, 0}}, {4, 1, 2, []int{0, 6, 4, 0, 0}}, {5, 2, 2, []int{0, 0, 2 * 6, 6 * 2, 0, 0}},
		{8, 0, 0, []int{1, 1, 1, 1, 1, 1, 1, 1, 1}}, {8, 1, 0, []int{0, 1, 2, 3, 4, 5, 6, 7, 8}}, {8, 0, 2, []int{56, 42, 30, 20, 12, 6, 2, 0, 0}},
		{8, 8, 0, []int{0, 0, 0, 0, 0, 0, 0, 0, 40320}}, {8, 0, 8, []int{40320, 0, 0, 0, 0, 0, 0, 0, 0}}, {8, 3, 5, []int{0, 0, 0, 6 * 120, 0, 0, 0, 0, 0}}, {8, 7, 0, []int{0, 0, 0, 0, 0, 0, 0, 5040, 40320}},
		{0, 0, 0, nil}, {9, 0, 0, nil}, {3, 2, 2, nil}, {3, -1, 0, nil}, {3, 0, -1, nil}, {3, 4, 0, nil},
	}
	for _, c := range cases {
		if got := impl.BoxWeights(c.many, c.first, c.second); !slices.Equal(got, c.want) {
			t.Error(c, got)
		}
	}
}

func TestWeightsAreTheWaysOfBallsThatCanBeToldApart(t *testing.T) {
	withBoxes(func(many, first, second int) {
		got := impl.BoxWeights(many, first, second)
		for _, word := range wordsWithBoth(first, second) {
			if want := waysOfBoxes(many, word); !slices.Equal(got, want) {
				t.Fatal(many, first, second, word, got, want)
			}
		}
	})
}

func TestWeightsAreMirrored(t *testing.T) {
	withBoxes(func(many, first, second int) {
		got, other := impl.BoxWeights(many, first, second), impl.BoxWeights(many, second, first)
		if len(got) != many+1 || !slices.Equal(got, turned(other)) {
			t.Fatal(many, first, second, got, other)
		}
	})
}

func TestNumbersBelowThoseDrawnHaveNoWeight(t *testing.T) {
	withBoxes(func(many, first, second int) {
		for number, weight := range impl.BoxWeights(many, first, second) {
			none := number < first || number > many-second
			if weight < 0 || (weight == 0) != none {
				t.Fatal(many, first, second, number, weight)
			}
		}
	})
}

func TestNoBoxWeights(t *testing.T) {
	withoutBoxes(func(many, first, second int) {
		if got := impl.BoxWeights(many, first, second); len(got) != 0 {
			t.Error(many, first, second, got)
		}
	})
}

// Promise 37.

func TestBoxSum(t *testing.T) {
	cases := []struct{ many, first, second, want int }{
		{1, 0, 0, 2}, {1, 1, 0, 1}, {1, 0, 1, 1}, {2, 0, 0, 3}, {2, 1, 1, 1}, {2, 2, 0, 2}, {2, 1, 0, 3}, {3, 1, 1, 4}, {4, 2, 1, 10}, {5, 2, 2, 24},
		{8, 0, 0, 9}, {8, 1, 0, 36}, {8, 0, 2, 168}, {8, 8, 0, 40320}, {8, 0, 8, 40320}, {8, 3, 5, 720}, {8, 4, 4, 576}, {8, 7, 0, 45360},
		{0, 0, 0, -1}, {9, 0, 0, -1}, {3, 2, 2, -1}, {3, -1, 0, -1}, {3, 0, -1, -1}, {3, 4, 0, -1},
	}
	for _, c := range cases {
		if got := impl.BoxSum(c.many, c.first, c.second); got != c.want {
			t.Error(c, got)
		}
	}
}

func TestBoxSumsAreAllWeightsTogether(t *testing.T) {
	withBoxes(func(many, first, second int) {
		if got, want := impl.BoxSum(many, first, second), sumOf(impl.BoxWeights(many, first, second)); got != want || got <= 0 {
			t.Error(many, first, second, got, want)
		}
	})
}

func TestAllWeightsTogetherGoStepByStep(t *testing.T) {
	withBoxes(func(many, first, second int) {
		got, came := impl.BoxSum(many, first, second), first+second
		if came == 0 && got != many+1 {
			t.Error(many, got)
		}
		if first > 0 {
			if before := impl.BoxSum(many, first-1, second); got*(came+1) != before*first*(many-came+1) {
				t.Error(many, first, second, got, before)
			}
		}
		if second > 0 {
			if before := impl.BoxSum(many, first, second-1); got*(came+1) != before*second*(many-came+1) {
				t.Error(many, first, second, got, before)
			}
		}
	})
}

func TestNoBoxSum(t *testing.T) {
	withoutBoxes(func(many, first, second int) {
		if got := impl.BoxSum(many, first, second); got != -1 {
			t.Error(many, first, second, got)
		}
	})
}

// Promise 38.

func TestNextChance(t *testing.T) {
	cases := []struct {
		many, first, second, over, under int
		ok                               bool
	}{
		{1, 0, 0, 1, 2, true}, {2, 0, 0, 1, 2, true}, {8, 0, 0, 1, 2, true}, {2, 1, 0, 2, 3, true}, {2, 0, 1, 1, 3, true}, {8, 1, 0, 2, 3, true},
		{5, 2, 1, 3, 5, true}, {4, 2, 1, 3, 5, true}, {3, 1, 1, 1, 2, true}, {8, 3, 3, 1, 2, true}, {8, 5, 2, 2, 3, true}, {8, 2, 5, 1, 3, true},
		// However many came of one colour alone, the next ball is never sure.
		{8, 7, 0, 8, 9, true}, {8, 0, 7, 1, 9, true}, {3, 2, 0, 3, 4, true}, {3, 0, 2, 1, 4, true},
		// Nothing is left to be drawn.
		{1, 1, 0, 0, 0, false}, {1, 0, 1, 0, 0, false}, {3, 2, 1, 0, 0, false}, {8, 8, 0, 0, 0, false}, {8, 0, 8, 0, 0, false}, {8, 4, 4, 0, 0, false},
		{0, 0, 0, 0, 0, false}, {9, 0, 0, 0, 0, false}, {3, 2, 2, 0, 0, false}, {3, -1, 0, 0, 0, false}, {3, 0, -1, 0, 0, false}, {3, 4, 0, 0, 0, false},
	}
	for _, c := range cases {
		if over, under, ok := impl.NextChance(c.many, c.first, c.second); over != c.over || under != c.under || ok != c.ok {
			t.Error(c, over, under, ok)
		}
	}
}

func TestOneMoreThanCameOverTwoMoreThanAll(t *testing.T) {
	withBoxes(func(many, first, second int) {
		over, under, ok := impl.NextChance(many, first, second)
		if ok != (first+second < many) {
			t.Fatal(many, first, second, ok)
		}
		if !ok {
			return
		}
		if !isFraction(over, under, first+1, first+second+2) || over <= 0 || over >= under {
			t.Fatal(many, first, second, over, under)
		}
		urnOver, urnUnder, told := impl.ChanceOf([]int{1 + first, 1 + second}, 0)
		if !told || over != urnOver || under != urnUnder {
			t.Fatal(many, first, second, over, under, urnOver, urnUnder, told)
		}
	})
}

func TestNextChancesAreTheSameWhateverTheBox(t *testing.T) {
	chances := map[[2]int][2]int{}
	withBoxes(func(many, first, second int) {
		over, under, ok := impl.NextChance(many, first, second)
		if !ok {
			return
		}
		came, chance := [2]int{first, second}, [2]int{over, under}
		if before, known := chances[came]; known && before != chance {
			t.Error(many, came, chance, before)
		}
		chances[came] = chance
	})
	if len(chances) != 36 {
		t.Fatal(len(chances))
	}
}

func TestNextChancesOfBallsThatCanBeToldApart(t *testing.T) {
	withBoxes(func(many, first, second int) {
		if first+second == many {
			return
		}
		over, under, ok := impl.NextChance(many, first, second)
		for _, word := range wordsWithBoth(first, second) {
			firstNext := sumOf(waysOfBoxes(many, append(slices.Clone(word), 0)))
			secondNext := sumOf(waysOfBoxes(many, append(slices.Clone(word), 1)))
			if !ok || !isFraction(over, under, firstNext, firstNext+secondNext) {
				t.Fatal(many, first, second, over, under, ok, firstNext, secondNext)
			}
		}
	})
}

func noNextChance(t *testing.T, many, first, second int) {
	t.Helper()
	if over, under, ok := impl.NextChance(many, first, second); over != 0 || under != 0 || ok {
		t.Error(many, first, second, over, under, ok)
	}
}

func TestNoNextChance(t *testing.T) {
	withoutBoxes(func(many, first, second int) { noNextChance(t, many, first, second) })
}

func TestNoNextChanceOfBoxesThatAreDrawnEmpty(t *testing.T) {
	for many := 1; many <= impl.MaxBox; many++ {
		for first := 0; first <= many; first++ {
			noNextChance(t, many, first, many-first)
		}
	}
}

// Promise 39.

func TestLikeliestBox(t *testing.T) {
	cases := []struct{ many, first, second, want int }{
		{1, 0, 0, 0}, {1, 1, 0, 1}, {1, 0, 1, 0}, {8, 0, 0, 0}, {4, 1, 0, 4}, {4, 0, 1, 0}, {8, 1, 0, 8}, {8, 0, 7, 0}, {8, 8, 0, 8}, {8, 0, 8, 0}, {8, 3, 5, 3},
		// Several numbers have the same greatest weight.
		{3, 1, 1, 1}, {5, 1, 1, 2}, {7, 1, 1, 3}, {5, 2, 2, 2}, {5, 2, 1, 3}, {5, 1, 2, 1}, {8, 2, 1, 5}, {8, 1, 2, 2}, {7, 3, 3, 3},
		{4, 2, 1, 3}, {4, 1, 2, 1}, {8, 1, 1, 4}, {8, 3, 1, 6}, {8, 3, 3, 4}, {4, 1, 1, 2},
		{0, 0, 0, -1}, {9, 0, 0, -1}, {4, 5, 0, -1}, {3, 2, 2, -1}, {3, -1, 0, -1}, {3, 0, -1, -1},
	}
	for _, c := range cases {
		if got := impl.LikeliestBox(c.many, c.first, c.second); got != c.want {
			t.Error(c, got)
		}
	}
}

func TestTheLikeliestBoxIsAsWhatCame(t *testing.T) {
	ties := 0
	withBoxes(func(many, first, second int) {
		got, weights := impl.LikeliestBox(many, first, second), impl.BoxWeights(many, first, second)
		if got < first || got > many-second || first+second == 0 && got != 0 {
			t.Fatal(many, first, second, got)
		}
		for number, weight := range weights {
			if weight > weights[got] || number < got && weight == weights[got] {
				t.Fatal(many, first, second, got, number, weights)
			}
			if number > got && weight == weights[got] {
				ties++
			}
		}
	})
	if ties == 0 {
		t.Fatal("no two numbers had the same greatest weight")
	}
}

func TestTheLikeliestBoxOfOneColourAlone(t *testing.T) {
	for many := 1; many <= impl.MaxBox; many++ {
		for came := 1; came <= many; came++ {
			if first, second := impl.LikeliestBox(many, came, 0), impl.LikeliestBox(many, 0, came); first != many || second != 0 {
				t.Error(many, came, first, second)
			}
		}
	}
}

func TestNoLikeliestBox(t *testing.T) {
	withoutBoxes(func(many, first, second int) {
		if got := impl.LikeliestBox(many, first, second); got != -1 {
			t.Error(many, first, second, got)
		}
	})
}

// Promise 40.

func TestBoxMean(t *testing.T) {
	cases := []struct {
		many, first, second, over, under int
		ok                               bool
	}{
		{1, 0, 0, 1, 2, true}, {2, 0, 0, 1, 1, true}, {3, 0, 0, 3, 2, true}, {8, 0, 0, 4, 1, true}, {3, 1, 0, 7, 3, true}, {3, 0, 1, 2, 3, true}, {4, 1, 1, 2, 1, true}, {5, 2, 1, 16, 5, true},
		{8, 1, 0, 17, 3, true}, {8, 7, 0, 71, 9, true}, {8, 0, 7, 1, 9, true},
		// Drawn empty: what came is all, none of the first colour among it.
		{1, 1, 0, 1, 1, true}, {1, 0, 1, 0, 1, true}, {8, 8, 0, 8, 1, true}, {8, 0, 8, 0, 1, true}, {5, 0, 5, 0, 1, true}, {8, 3, 5, 3, 1, true}, {3, 2, 1, 2, 1, true},
		{0, 0, 0, 0, 0, false}, {9, 0, 0, 0, 0, false}, {3, 2, 2, 0, 0, false}, {3, -1, 0, 0, 0, false}, {3, 0, -1, 0, 0, false}, {3, 4, 0, 0, 0, false},
	}
	for _, c := range cases {
		if over, under, ok := impl.BoxMean(c.many, c.first, c.second); over != c.over || under != c.under || ok != c.ok {
			t.Error(c, over, under, ok)
		}
	}
}

func TestWhatIsLeftGoesByTheChanceOfTheNextOne(t *testing.T) {
	withBoxes(func(many, first, second int) {
		over, under, ok := impl.BoxMean(many, first, second)
		if !ok {
			t.Fatal(many, first, second)
		}
		left := many - first - second
		nextOver, nextUnder, some := impl.NextChance(many, first, second)
		if some && !isFraction(over, under, first*nextUnder+left*nextOver, nextUnder) {
			t.Fatal(many, first, second, over, under, nextOver, nextUnder)
		}
		if !some && (left != 0 || over != first || under != 1) {
			t.Fatal(many, first, second, over, under)
		}
	})
}

func TestMeansOfBothColoursAreTogetherAll(t *testing.T) {
	withBoxes(func(many, first, second int) {
		over, under, ok := impl.BoxMean(many, first, second)
		otherOver, otherUnder, otherOk := impl.BoxMean(many, second, first)
		if !ok || !otherOk || over*otherUnder+otherOver*under != many*under*otherUnder {
			t.Fatal(many, first, second, over, under, otherOver, otherUnder)
		}
	})
}

func TestMeansOfBallsThatCanBeToldApart(t *testing.T) {
	withBoxes(func(many, first, second int) {
		over, under, ok := impl.BoxMean(many, first, second)
		for _, word := range wordsWithBoth(first, second) {
			ways := waysOfBoxes(many, word)
			if !ok || !isFraction(over, under, sumByNumber(ways), sumOf(ways)) {
				t.Fatal(many, first, second, over, under, ok, ways)
			}
		}
	})
}

func TestNoBoxMean(t *testing.T) {
	withoutBoxes(func(many, first, second int) {
		if over, under, ok := impl.BoxMean(many, first, second); over != 0 || under != 0 || ok {
			t.Error(many, first, second, over, under, ok)
		}
	})
}

// Promise 41.

func TestAnUnknownBoxIsAnUrnWithMoreOfTheSame(t *testing.T) {
	urn, rule := []int{1, 1}, impl.SameRule(2, 1)
	withBoxes(func(many, first, second int) {
		came := first + second
		if came > impl.MaxDraws {
			return
		}
		left := impl.BoxSum(many, first, second) * impl.RuleAll(urn, rule, came)
		for _, word := range wordsWithBoth(first, second) {
			right := impl.RuleWays(urn, rule, word) * (many + 1)
			for i := range came {
				right *= many - i
			}
			if left != right || left <= 0 {
				t.Fatal(many, first, second, word, left, right)
			}
		}
	})
}

// More than MaxDraws are no word, but the products of the urn with more of the same are told by themselves: 1 to as many of each colour, and 2 to one more than all.
func TestUnknownBoxesOfWhichMoreThanMaxDrawsCame(t *testing.T) {
	boxes := 0
	withBoxes(func(many, first, second int) {
		came := first + second
		if impl.BoxSum(many, first, second)*factorial(came+1)*factorial(many-came) != factorial(first)*factorial(second)*factorial(many+1) {
			t.Error(many, first, second)
		}
		if came > impl.MaxDraws {
			boxes++
			if impl.RuleAll([]int{1, 1}, impl.SameRule(2, 1), came) != -1 {
				t.Error(came)
			}
		}
	})
	if boxes != 8+8+9 {
		t.Fatal(boxes)
	}
}

// The general rules: results share no memory, nothing is kept.

func TestBoxWeightsAreNewMemory(t *testing.T) {
	withBoxes(func(many, first, second int) {
		newEachTime(t, func() []int { return impl.BoxWeights(many, first, second) })
	})
}

func TestBoxResultsAreNotKept(t *testing.T) {
	for range 3 {
		over, under, _ := impl.NextChance(5, 2, 1)
		meanOver, meanUnder, _ := impl.BoxMean(3, 1, 0)
		got := []int{over, under, meanOver, meanUnder, impl.BoxSum(3, 1, 1), impl.LikeliestBox(4, 1, 0)}
		if !slices.Equal(got, []int{3, 5, 7, 3, 4, 4}) || !slices.Equal(impl.BoxWeights(3, 1, 1), []int{0, 2, 2, 0}) {
			t.Fatal(got)
		}
		spareTouched(impl.BoxWeights(3, 1, 1))
		impl.NextChance(8, 0, 7)
		impl.BoxMean(8, 8, 0)
		impl.BoxSum(8, 4, 4)
		impl.LikeliestBox(math.MaxInt, math.MaxInt, math.MinInt)
	}
}
