package tests

import (
	"math"
	"slices"
	"testing"

	"loop.example/urnsandballs/impl"
)

func TestRuleConstants(t *testing.T) {
	if impl.MaxStart != 10 || impl.MaxAdd != 3 {
		t.Fatal(impl.MaxStart, impl.MaxAdd)
	}
}

// Promise 20.

func TestRulesThatPutInNothingAreRules(t *testing.T) {
	for colours := 1; colours <= 3; colours++ {
		if !impl.RuleOk(colours, plainRule(colours, 0, 0)) || !impl.RuleOk(colours, plainRule(colours, -1, 0)) {
			t.Error(colours)
		}
	}
}

func TestRules(t *testing.T) {
	own := []int{-1, 0, 1, 2, 3}
	for _, rules := range [][][][]int{rulesOf(1, own, nil), rulesOf(2, own, numbersTo(4)), rulesOf(3, own, []int{0, 3}), rulesOf(3, []int{-1, 3}, []int{1, 2})} {
		for _, rule := range rules {
			if !impl.RuleOk(len(rule), rule) {
				t.Fatal(rule)
			}
		}
	}
}

func TestRulesWithMaxAddEverywhereAndOneMore(t *testing.T) {
	for colours := 1; colours <= 3; colours++ {
		if !impl.RuleOk(colours, plainRule(colours, impl.MaxAdd, impl.MaxAdd)) {
			t.Error(colours)
		}
		if impl.RuleOk(colours, plainRule(colours, impl.MaxAdd+1, 0)) || colours > 1 && impl.RuleOk(colours, plainRule(colours, 0, impl.MaxAdd+1)) {
			t.Error("one more", colours)
		}
	}
}

func TestOnlyTheDrawnBallIsTakenOut(t *testing.T) {
	for colours := 1; colours <= 3; colours++ {
		for place := range colours * colours {
			rule := plainRule(colours, 0, 2)
			rule[place/colours][place%colours] = -1
			if impl.RuleOk(colours, rule) != (place/colours == place%colours) {
				t.Error(rule)
			}
		}
	}
}

func TestOthersAreNoRules(t *testing.T) {
	for colours := 1; colours <= 3; colours++ {
		for _, rule := range noRules(colours) {
			if impl.RuleOk(colours, rule) {
				t.Error(colours, rule)
			}
		}
	}
}

func TestNoRulesOfNoSuchColours(t *testing.T) {
	for _, colours := range wrongColours() {
		for length := range 8 {
			if impl.RuleOk(colours, plainRule(length, 0, 0)) || impl.RuleOk(colours, make([][]int, length)) {
				t.Error(colours, length)
			}
		}
		if impl.RuleOk(colours, nil) {
			t.Error(colours)
		}
	}
}

// Promise 21.

func TestStarts(t *testing.T) {
	for _, row := range append(urnsWith(-1, 0, 1, 9, 10, 11, 40, 41), rowsOf(4, []int{0, 10})...) {
		start := impl.StartOk(row)
		if want := len(row) <= 3 && slices.Min(row) >= 0 && slices.Max(row) <= 10; start != want {
			t.Fatal(row, start)
		}
		if start && !impl.UrnOk(row) {
			t.Fatal("no urn", row)
		}
		without := slices.Clone(row)
		without[0] = 0
		if start && !impl.StartOk(without) {
			t.Fatal(row, without)
		}
	}
}

func TestStartsOfJustMaxStartAndOneMore(t *testing.T) {
	for colours := 1; colours <= 3; colours++ {
		for place := range colours {
			urn := slices.Repeat([]int{impl.MaxStart}, colours)
			if !impl.StartOk(urn) {
				t.Error(urn)
			}
			urn[place]++
			if impl.StartOk(urn) || !impl.UrnOk(urn) {
				t.Error(urn)
			}
		}
	}
}

func TestUrnsWithoutBallsAreStarts(t *testing.T) {
	for colours := 1; colours <= 3; colours++ {
		if !impl.StartOk(make([]int, colours)) {
			t.Error(colours)
		}
	}
}

func TestOthersAreNoStarts(t *testing.T) {
	for _, row := range noStarts() {
		if impl.StartOk(row) {
			t.Error(row)
		}
	}
}

// Promise 22.

func TestAfterWord(t *testing.T) {
	turn, more := [][]int{{-1, 1}, {1, -1}}, [][]int{{-1, 2, 1}, {0, 3, 0}, {1, 1, 0}}
	cases := []struct {
		urn  []int
		rule [][]int
		word []int
		want []int
	}{
		{[]int{0}, [][]int{{-1}}, nil, []int{0}}, {[]int{0, 0, 0}, more, []int{}, []int{0, 0, 0}}, {[]int{10, 10}, turn, nil, []int{10, 10}},
		{[]int{0}, [][]int{{3}}, []int{0}, nil}, {[]int{0, 0, 0}, more, []int{2}, nil},
		{[]int{1}, [][]int{{-1}}, []int{0}, []int{0}}, {[]int{1}, [][]int{{-1}}, []int{0, 0}, nil}, {[]int{6}, [][]int{{-1}}, make([]int, 6), []int{0}}, {[]int{5}, [][]int{{-1}}, make([]int, 6), nil},
		{[]int{1}, [][]int{{0}}, make([]int, 6), []int{1}}, {[]int{10}, [][]int{{3}}, make([]int, 6), []int{28}},
		{[]int{2, 1}, turn, []int{0, 0}, []int{0, 3}}, {[]int{2, 1}, turn, []int{0, 0, 0}, nil}, {[]int{2, 1}, turn, []int{1, 1}, nil}, {[]int{2, 1}, turn, []int{1, 0, 1}, []int{3, 0}},
		{[]int{2, 0}, turn, []int{1}, nil}, {[]int{2, 0}, turn, []int{0, 1}, []int{2, 0}}, {[]int{0, 1}, turn, []int{1, 0, 1, 0, 1, 0}, []int{0, 1}},
		// What has run out stays so, even if its row would put balls in again.
		{[]int{1, 1}, [][]int{{-1, 0}, {3, 0}}, []int{0, 0, 1}, nil}, {[]int{1, 1}, [][]int{{-1, 0}, {3, 0}}, []int{0, 1, 0}, []int{2, 1}}, {[]int{0, 1}, [][]int{{3, 3}, {3, 3}}, []int{0, 1}, nil},
		{[]int{1, 0, 0}, more, []int{0, 1, 2}, []int{1, 6, 1}}, {[]int{1, 0, 0}, more, []int{0, 2, 0, 2}, []int{1, 6, 2}}, {[]int{1, 0, 0}, more, []int{0, 0}, nil},
		{[]int{10, 10, 10}, plainRule(3, 3, 3), []int{0, 1, 2, 2, 1, 0}, []int{28, 28, 28}}, {[]int{10, 10, 10}, plainRule(3, 3, 0), []int{1, 1, 1, 1, 1, 1}, []int{10, 28, 10}},
	}
	for _, c := range cases {
		got, ok := impl.AfterWord(c.urn, c.rule, c.word)
		if ok != (c.want != nil) || !slices.Equal(got, c.want) {
			t.Error(c, got, ok)
		}
		if !ok && got != nil {
			t.Error("not nil", c)
		}
	}
}

// outcome has in how many ways a word came out, and the balls of each colour behind it.
type outcome struct {
	ways   int
	behind [3]int
}

// wordsByRule counts each word that is drawn by a rule if all balls can be told apart, by drawing each ball.
func wordsByRule(urn []int, rule [][]int, many int) map[[6]int]outcome {
	var balls []int
	for colour, n := range urn {
		balls = append(balls, slices.Repeat([]int{colour}, n)...)
	}
	outcomes := map[[6]int]outcome{}
	word := [6]int{}
	var draw func(balls []int, at int)
	draw = func(balls []int, at int) {
		if at == many {
			behind := [3]int{}
			for _, colour := range balls {
				behind[colour]++
			}
			outcomes[word] = outcome{outcomes[word].ways + 1, behind}
			return
		}
		for drawn, colour := range balls {
			word[at] = colour
			draw(ballsChanged(balls, drawn, rule[colour]), at+1)
			word[at] = 0
		}
	}
	draw(balls, 0)
	return outcomes
}

// ballsChanged returns the balls after one of them was drawn: with those put in that the row of its colour tells, and without it if the row tells so.
func ballsChanged(balls []int, drawn int, row []int) []int {
	changed := slices.Clone(balls)
	for colour, many := range row {
		if many == -1 {
			changed = slices.Delete(changed, drawn, drawn+1)
		} else {
			changed = append(changed, slices.Repeat([]int{colour}, many)...)
		}
	}
	return changed
}

func TestWordsByRulesOfBallsThatCanBeToldApart(t *testing.T) {
	for _, urn := range append(urnsWith(0, 1, 2), []int{3}, []int{10}, []int{3, 1}, []int{0, 4}) {
		for _, rule := range someRules(len(urn)) {
			draws := 3
			if sumOf(urn) <= 2 && slices.ContainsFunc(rule, func(row []int) bool { return sumOf(row) <= 1 }) {
				draws = 5
			}
			for draws := range draws + 1 {
				asToldApart(t, urn, rule, draws)
			}
		}
	}
}

func asToldApart(t *testing.T, urn []int, rule [][]int, draws int) {
	t.Helper()
	outcomes := wordsByRule(urn, rule, draws)
	all, sums := 0, [3]int{}
	for _, word := range wordsOf(len(urn), draws) {
		want := outcomes[[6]int(append(word, 0, 0, 0, 0, 0, 0)[:6])]
		if got := impl.RuleWays(urn, rule, word); got != want.ways {
			t.Fatal(urn, rule, word, got, want)
		}
		behind, ok := impl.AfterWord(urn, rule, word)
		if ok != (want.ways > 0) || ok && !slices.Equal(behind, want.behind[:len(urn)]) || !ok && behind != nil {
			t.Fatal(urn, rule, word, behind, ok, want)
		}
		all += want.ways
		for colour, balls := range want.behind {
			sums[colour] += want.ways * balls
		}
	}
	if got := impl.RuleAll(urn, rule, draws); got != all {
		t.Fatal(urn, rule, draws, got, all)
	}
	for colour := range urn {
		if got := impl.BallSum(urn, rule, draws, colour); got != sums[colour] {
			t.Fatal(urn, rule, draws, colour, got, sums)
		}
	}
}

// withWords visits urns with rules and all words of them.
func withWords(urns [][]int, visit func(urn []int, rule [][]int, word []int)) {
	for _, urn := range urns {
		words := allWords(len(urn))
		for _, rule := range someRules(len(urn)) {
			for _, word := range words {
				visit(urn, rule, word)
			}
		}
	}
}

func TestUrnsBehindWords(t *testing.T) {
	withWords(append(urnsWith(0, 1, 10), []int{2, 5, 3}), func(urn []int, rule [][]int, word []int) {
		behind, ok := impl.AfterWord(urn, rule, word)
		if ok != (impl.RuleWays(urn, rule, word) > 0) || ok != impl.UrnOk(behind) {
			t.Fatal(urn, rule, word, behind, ok)
		}
		if many, even := impl.EvenRule(len(urn), rule); ok && even && impl.TotalOf(behind) != sumOf(urn)+many*len(word) {
			t.Fatal(urn, rule, word, behind, many)
		}
		if want, told := rowsAdded(urn, rule, word); ok != told || !slices.Equal(behind, want) {
			t.Fatal(urn, rule, word, behind, want)
		}
	})
}

// rowsAdded returns the urn with the rows of all draws added, and whether none was of a colour without balls.
func rowsAdded(urn []int, rule [][]int, word []int) ([]int, bool) {
	after := slices.Clone(urn)
	for _, drawn := range word {
		if after[drawn] == 0 {
			return nil, false
		}
		for colour, many := range rule[drawn] {
			after[colour] += many
		}
	}
	return after, true
}

func nothingAfter(t *testing.T, urn []int, rule [][]int, word []int) {
	t.Helper()
	if got, ok := impl.AfterWord(urn, rule, word); got != nil || ok {
		t.Error(urn, rule, word, got, ok)
	}
}

func TestNothingAfterWord(t *testing.T) {
	withoutWords(func(urn, word []int) {
		nothingAfter(t, urn, plainRule(len(urn), 3, 3), word)
		nothingAfter(t, urn, plainRule(len(urn), 0, 0), word)
	})
	withoutRules(func(urn []int, rule [][]int) {
		for _, word := range [][]int{nil, {0}, {0, 0}} {
			nothingAfter(t, urn, rule, word)
		}
	})
}

func TestWordsOfJustMaxDrawsByRulesAndOneMore(t *testing.T) {
	for colours := 1; colours <= 3; colours++ {
		urn, rule := slices.Repeat([]int{10}, colours), plainRule(colours, 0, 0)
		for colour := range colours {
			word := slices.Repeat([]int{colour}, impl.MaxDraws)
			if got, ok := impl.AfterWord(urn, rule, word); !ok || !slices.Equal(got, urn) || impl.RuleWays(urn, rule, word) != 1000000 {
				t.Error(colours, got, ok)
			}
			nothingAfter(t, urn, rule, append(word, colour))
			if got := impl.RuleWays(urn, rule, append(word, colour)); got != -1 {
				t.Error(colours, got)
			}
		}
	}
}

// Promise 23.

func TestRuleWays(t *testing.T) {
	turn := [][]int{{-1, 1}, {1, -1}}
	cases := []struct {
		urn  []int
		rule [][]int
		word []int
		want int
	}{
		{[]int{0}, [][]int{{-1}}, nil, 1}, {[]int{0, 0, 0}, plainRule(3, 3, 3), []int{}, 1}, {[]int{10, 10}, turn, nil, 1},
		{[]int{0}, [][]int{{3}}, []int{0}, 0}, {[]int{0, 0, 0}, plainRule(3, 3, 3), make([]int, 6), 0},
		{[]int{1}, [][]int{{-1}}, []int{0}, 1}, {[]int{1}, [][]int{{-1}}, []int{0, 0}, 0}, {[]int{6}, [][]int{{-1}}, make([]int, 6), 720}, {[]int{5}, [][]int{{-1}}, make([]int, 6), 0},
		{[]int{2}, [][]int{{0}}, make([]int, 6), 64}, {[]int{1}, [][]int{{1}}, make([]int, 6), 720}, {[]int{10}, [][]int{{3}}, make([]int, 6), 10 * 13 * 16 * 19 * 22 * 25},
		{[]int{2, 1}, turn, []int{0, 0, 1}, 6}, {[]int{2, 1}, turn, []int{0, 0, 0}, 0}, {[]int{2, 1}, turn, []int{1, 0, 1}, 3}, {[]int{2, 0}, turn, []int{1, 0}, 0},
		// A second time below no balls does not make the ways more than none again.
		{[]int{1, 1}, [][]int{{-1, 0}, {3, 0}}, []int{0, 0, 1, 0}, 0}, {[]int{1, 1}, plainRule(2, -1, 0), []int{0, 0, 0, 1}, 0}, {[]int{1, 1}, plainRule(2, -1, 0), []int{0, 0, 1, 1, 1}, 0}, {[]int{0, 1}, plainRule(2, 3, 3), []int{0, 0}, 0},
		{[]int{1, 0, 0}, [][]int{{-1, 2, 1}, {0, 3, 0}, {1, 1, 0}}, []int{0, 2, 1, 1, 0, 1}, 1 * 1 * 3 * 6 * 1 * 11},
		{[]int{10, 10, 10}, plainRule(3, 3, 3), []int{0, 1, 2, 2, 1, 0}, 10 * 13 * 16 * 19 * 22 * 25},
	}
	for _, c := range cases {
		if got := impl.RuleWays(c.urn, c.rule, c.word); got != c.want {
			t.Error(c, got)
		}
	}
}

func TestPutBackAndNotPutBackAreRules(t *testing.T) {
	for _, urn := range append(urnsWith(0, 1, 2, 5, 10), []int{3, 4, 6}) {
		for _, word := range allWords(len(urn)) {
			if got, want := impl.RuleWays(urn, plainRule(len(urn), 0, 0), word), impl.BackWays(urn, word); got != want {
				t.Fatal("put back", urn, word, got, want)
			}
			if got, want := impl.RuleWays(urn, plainRule(len(urn), -1, 0), word), impl.WordWays(urn, word); got != want {
				t.Fatal("not put back", urn, word, got, want)
			}
		}
	}
}

func TestNoRuleWays(t *testing.T) {
	none := func(urn []int, rule [][]int, word []int) {
		if got := impl.RuleWays(urn, rule, word); got != -1 {
			t.Error(urn, rule, word, got)
		}
	}
	withoutWords(func(urn, word []int) {
		none(urn, plainRule(len(urn), 3, 3), word)
		none(urn, plainRule(len(urn), -1, 0), word)
	})
	withoutRules(func(urn []int, rule [][]int) {
		for _, word := range [][]int{nil, {0}, {0, 0}, {-1}, {3}, make([]int, 7)} {
			none(urn, rule, word)
		}
	})
}

// Promise 24.

func TestRuleAll(t *testing.T) {
	turn := [][]int{{-1, 1}, {1, -1}}
	cases := []struct {
		urn        []int
		rule       [][]int
		many, want int
	}{
		{[]int{0}, [][]int{{-1}}, 0, 1}, {[]int{0, 0, 0}, plainRule(3, 3, 3), 0, 1}, {[]int{10, 10}, turn, 0, 1},
		{[]int{0}, [][]int{{3}}, 1, 0}, {[]int{0, 0, 0}, plainRule(3, 3, 3), 6, 0},
		{[]int{6}, [][]int{{-1}}, 6, 720}, {[]int{5}, [][]int{{-1}}, 6, 0}, {[]int{1, 1}, plainRule(2, -1, 0), 2, 2}, {[]int{1, 1}, plainRule(2, -1, 0), 3, 0}, {[]int{1, 1}, plainRule(2, -1, 0), 5, 0},
		{[]int{2, 1}, turn, 3, 27}, {[]int{2, 1}, turn, 6, 729}, {[]int{2, 1}, plainRule(2, 1, 0), 2, 12}, {[]int{3, 2}, plainRule(2, 0, 0), 3, 125},
		// Uneven: 2 * 3 + 1 * 5, then 1 * 2 + 1 * 1.
		{[]int{2, 1}, [][]int{{0, 0}, {2, 0}}, 2, 11}, {[]int{1, 1}, [][]int{{-1, 2}, {0, -1}}, 2, 4},
		{[]int{10, 10, 10}, plainRule(3, 3, 3), 6, 30 * 39 * 48 * 57 * 66 * 75}, {[]int{10, 10, 10}, plainRule(3, 3, 0), 6, 30 * 33 * 36 * 39 * 42 * 45},
	}
	for _, c := range cases {
		if got := impl.RuleAll(c.urn, c.rule, c.many); got != c.want {
			t.Error(c, got)
		}
	}
}

func TestAllWordsByARuleHaveTogetherAllWays(t *testing.T) {
	for _, urn := range append(urnsWith(0, 1, 10), []int{2, 5, 3}, []int{7, 0, 4}) {
		for _, rule := range someRules(len(urn)) {
			for draws := 0; draws <= 6; draws++ {
				want := 0
				for _, word := range wordsOf(len(urn), draws) {
					want += impl.RuleWays(urn, rule, word)
				}
				if got := impl.RuleAll(urn, rule, draws); got != want {
					t.Fatal(urn, rule, draws, got, want)
				}
			}
		}
	}
}

func TestAllWaysOfEvenRulesAreAProduct(t *testing.T) {
	for _, urn := range urnsWith(0, 1, 4, 10) {
		for _, rule := range someRules(len(urn)) {
			many, even := impl.EvenRule(len(urn), rule)
			if !even {
				continue
			}
			want := 1
			for draws := 0; draws <= 6; draws++ {
				if got := impl.RuleAll(urn, rule, draws); got != want {
					t.Fatal(urn, rule, draws, got, want)
				}
				want *= max(sumOf(urn)+many*draws, 0)
			}
		}
	}
}

func TestNoRuleAll(t *testing.T) {
	none := func(urn []int, rule [][]int, many int) {
		if got := impl.RuleAll(urn, rule, many); got != -1 {
			t.Error(urn, rule, many, got)
		}
	}
	withoutDraws(func(urn []int, many int) {
		none(urn, plainRule(len(urn), 0, 0), many)
		none(urn, plainRule(len(urn), 3, 3), many)
	})
	withoutRules(func(urn []int, rule [][]int) {
		for _, many := range []int{0, 1, 3, 6, 7, -1, math.MaxInt, math.MinInt} {
			none(urn, rule, many)
		}
	})
}

// Promise 25.

func TestEvenRules(t *testing.T) {
	cases := []struct {
		rule [][]int
		many int
		ok   bool
	}{
		{[][]int{{-1}}, -1, true}, {[][]int{{0}}, 0, true}, {[][]int{{3}}, 3, true},
		{[][]int{{-1, 1}, {1, -1}}, 0, true}, {[][]int{{0, 0}, {1, -1}}, 0, true}, {[][]int{{-1, 3}, {0, 2}}, 2, true}, {[][]int{{1, 2}, {2, 1}}, 3, true}, {[][]int{{3, 3}, {3, 3}}, 6, true},
		{[][]int{{1, 0}, {0, 2}}, 0, false}, {[][]int{{-1, 0}, {0, 0}}, 0, false}, {[][]int{{0, 0}, {0, -1}}, 0, false}, {[][]int{{3, 3}, {3, 2}}, 0, false},
		{[][]int{{-1, 0, 0}, {0, -1, 0}, {0, 0, -1}}, -1, true}, {[][]int{{-1, 1, 0}, {0, 0, 0}, {0, 1, -1}}, 0, true}, {[][]int{{3, 3, 3}, {3, 3, 3}, {3, 3, 3}}, 9, true}, {[][]int{{-1, 2, 1}, {0, 2, 0}, {1, 1, 0}}, 2, true},
		{[][]int{{1, 0, 0}, {0, 1, 0}, {0, 0, 2}}, 0, false}, {[][]int{{1, 0, 0}, {0, 2, 0}, {0, 0, 1}}, 0, false}, {[][]int{{2, 0, 0}, {0, 1, 0}, {0, 0, 1}}, 0, false}, {[][]int{{0, 0, 0}, {0, 0, 0}, {0, 0, -1}}, 0, false},
		// Even by columns, but not by rows.
		{[][]int{{0, 2}, {1, -1}}, 0, false},
	}
	for _, c := range cases {
		if many, ok := impl.EvenRule(len(c.rule), c.rule); many != c.many || ok != c.ok {
			t.Error(c, many, ok)
		}
	}
}

func TestEvenRulesPutInAsMuchAfterEachColour(t *testing.T) {
	own := []int{-1, 0, 1, 2, 3}
	for _, rules := range [][][][]int{rulesOf(1, own, nil), rulesOf(2, own, numbersTo(4)), rulesOf(3, own, []int{0, 1}), rulesOf(3, []int{-1, 2}, []int{0, 3})} {
		for _, rule := range rules {
			many, ok := impl.EvenRule(len(rule), rule)
			uneven := slices.ContainsFunc(rule, func(row []int) bool { return sumOf(row) != sumOf(rule[0]) })
			if ok == uneven || ok && (many != sumOf(rule[0]) || many < -1) || !ok && many != 0 {
				t.Fatal(rule, many, ok)
			}
		}
	}
}

func TestOthersAreNotEven(t *testing.T) {
	none := func(colours int, rule [][]int) {
		if many, ok := impl.EvenRule(colours, rule); many != 0 || ok {
			t.Error(colours, rule, many, ok)
		}
	}
	for colours := 1; colours <= 3; colours++ {
		for _, rule := range noRules(colours) {
			none(colours, rule)
		}
	}
	for _, colours := range wrongColours() {
		for length := range 8 {
			none(colours, plainRule(length, 0, 0))
			none(colours, make([][]int, length))
		}
		none(colours, nil)
	}
}

// Promise 26.

func TestBallSum(t *testing.T) {
	turn := [][]int{{-1, 1}, {1, -1}}
	cases := []struct {
		urn                []int
		rule               [][]int
		many, colour, want int
	}{
		{[]int{0}, [][]int{{3}}, 0, 0, 0}, {[]int{7}, [][]int{{3}}, 0, 0, 7}, {[]int{2, 0, 9}, plainRule(3, 3, 3), 0, 2, 9}, {[]int{2, 0, 9}, plainRule(3, 3, 3), 0, 1, 0},
		{[]int{0}, [][]int{{3}}, 1, 0, 0}, {[]int{0, 0, 0}, plainRule(3, 3, 3), 6, 1, 0}, {[]int{1}, [][]int{{-1}}, 1, 0, 0}, {[]int{6}, [][]int{{-1}}, 5, 0, 720}, {[]int{5}, [][]int{{-1}}, 6, 0, 0},
		{[]int{2, 1}, turn, 1, 0, 5}, {[]int{2, 1}, turn, 1, 1, 4}, {[]int{2, 1}, turn, 2, 0, 2*(1*0+2*2) + 1*(3*2)},
		{[]int{1, 0}, [][]int{{-1, 3}, {0, 0}}, 1, 0, 0}, {[]int{1, 0}, [][]int{{-1, 3}, {0, 0}}, 1, 1, 3}, {[]int{1, 0}, [][]int{{-1, 3}, {0, 0}}, 6, 1, 729},
		{[]int{10}, [][]int{{3}}, 6, 0, 10 * 13 * 16 * 19 * 22 * 25 * 28}, {[]int{10, 10, 10}, plainRule(3, 3, 3), 6, 2, 30 * 39 * 48 * 57 * 66 * 75 * 28},
	}
	for _, c := range cases {
		if got := impl.BallSum(c.urn, c.rule, c.many, c.colour); got != c.want {
			t.Error(c, got)
		}
	}
}

func TestWhatIsDrawnIsWhatThereIs(t *testing.T) {
	for _, urn := range append(urnsWith(0, 1, 10), []int{2, 5, 3}) {
		for _, rule := range someRules(len(urn)) {
			for draws := 0; draws <= 6; draws++ {
				ballsBehind(t, urn, rule, draws)
			}
		}
	}
}

// sumsOverWords returns for each colour its balls behind each word of so many draws, times the ways of the word, word by word.
func sumsOverWords(urn []int, rule [][]int, draws int) []int {
	sums := make([]int, len(urn))
	for _, word := range wordsOf(len(urn), draws) {
		ways := impl.RuleWays(urn, rule, word)
		behind, _ := impl.AfterWord(urn, rule, word)
		for colour, balls := range behind {
			sums[colour] += ways * balls
		}
	}
	return sums
}

func ballsBehind(t *testing.T, urn []int, rule [][]int, draws int) {
	t.Helper()
	want, together := sumsOverWords(urn, rule, draws), 0
	for colour := range urn {
		got := impl.BallSum(urn, rule, draws, colour)
		if got != want[colour] || draws == 0 && got != urn[colour] {
			t.Fatal(urn, rule, draws, colour, got, want)
		}
		together += got
	}
	if many, even := impl.EvenRule(len(urn), rule); even && together != (sumOf(urn)+many*draws)*impl.RuleAll(urn, rule, draws) {
		t.Fatal(urn, rule, draws, together)
	}
}

func TestNoBallSum(t *testing.T) {
	none := func(urn []int, rule [][]int, many, colour int) {
		if got := impl.BallSum(urn, rule, many, colour); got != -1 {
			t.Error(urn, rule, many, colour, got)
		}
	}
	withoutDraws(func(urn []int, many int) {
		for colour := -1; colour <= 3; colour++ {
			none(urn, plainRule(len(urn), 0, 0), many, colour)
			none(urn, plainRule(len(urn), 3, 3), many, colour)
		}
	})
	withoutRules(func(urn []int, rule [][]int) {
		for _, many := range []int{0, 1, 3, math.MaxInt} {
			for _, colour := range []int{0, 1, 2, -1, 3, math.MinInt, math.MaxInt} {
				none(urn, rule, many, colour)
			}
		}
	})
	for _, urn := range urnsWith(0, 1, 10) {
		for _, colour := range append(extremes(), -1, len(urn), len(urn)+1) {
			for _, many := range append(extremes(), -1, 0, 1, 6, 7) {
				none(urn, plainRule(len(urn), 1, 0), many, colour)
			}
		}
	}
}

// Promise 27.

func TestOneDrawMoreIsOneMoreFactor(t *testing.T) {
	for _, urn := range append(urnsWith(0, 1, 4, 10), []int{2, 5, 3}) {
		for _, rule := range someRules(len(urn)) {
			for draws := 0; draws < 6; draws++ {
				sum := 0
				for colour := range urn {
					sum += impl.BallSum(urn, rule, draws, colour)
				}
				if all := impl.RuleAll(urn, rule, draws+1); all != sum {
					t.Fatal(urn, rule, draws, all, sum)
				}
			}
		}
	}
}

func TestDrawsByRulesOfJustMaxDrawsAndOneMore(t *testing.T) {
	for colours := 1; colours <= 3; colours++ {
		urn, rule := slices.Repeat([]int{10}, colours), plainRule(colours, 3, 3)
		if impl.RuleAll(urn, rule, impl.MaxDraws) <= 0 || impl.RuleAll(urn, rule, impl.MaxDraws+1) != -1 {
			t.Error(colours)
		}
		for colour := range colours {
			if impl.BallSum(urn, rule, impl.MaxDraws, colour) <= 0 || impl.BallSum(urn, rule, impl.MaxDraws+1, colour) != -1 {
				t.Error(colours, colour)
			}
		}
	}
}

// Promise 28.

func TestWordsByRulesAreDrawnInParts(t *testing.T) {
	parts := 0
	withWords(append(urnsWith(0, 1, 3), []int{2, 5, 3}, []int{10, 10, 10}), func(urn []int, rule [][]int, word []int) {
		ways := impl.RuleWays(urn, rule, word)
		for cut := range len(word) + 1 {
			first := impl.RuleWays(urn, rule, word[:cut])
			behind, ok := impl.AfterWord(urn, rule, word[:cut])
			if !ok && (first != 0 || ways != 0) {
				t.Fatal(urn, rule, word, cut, first, ways)
			}
			if !ok || !impl.StartOk(behind) {
				continue
			}
			parts++
			if second := impl.RuleWays(behind, rule, word[cut:]); ways != first*second {
				t.Fatal(urn, rule, word, cut, ways, first, second)
			}
			end, toEnd := impl.AfterWord(urn, rule, word)
			if again, ok := impl.AfterWord(behind, rule, word[cut:]); ok != toEnd || !slices.Equal(again, end) {
				t.Fatal(urn, rule, word, cut, again, ok, end, toEnd)
			}
		}
	})
	if parts < 10000 {
		t.Fatal("hardly any word was in parts", parts)
	}
}

// The general rules: results share no memory with arguments, arguments are not written to, nothing is kept.

// roomyRule returns a rule of which each row, and all rows, have spare capacity.
func roomyRule(rule [][]int) [][]int {
	copied := make([][]int, 0, len(rule)+4)
	for _, row := range rule {
		copied = append(copied, roomy(row))
	}
	return copied
}

// unwrittenRule checks that a rule, made by roomyRule, is as it was.
func unwrittenRule(t *testing.T, want, rule [][]int) {
	t.Helper()
	if len(rule) != len(want) {
		t.Fatal(want, rule)
	}
	for place, row := range rule {
		unwritten(t, want[place], row)
	}
	for _, row := range rule[len(rule):cap(rule)] {
		if row != nil {
			t.Fatal(want, rule[:cap(rule)])
		}
	}
}

func TestUrnsBehindWordsAreNewMemory(t *testing.T) {
	for _, word := range [][]int{nil, {1}, {1, 1, 1}} {
		for _, rule := range someRules(2) {
			urn, given, drawn := append(make([]int, 0, 16), 0, 10), roomyRule(rule), append(make([]int, 0, 16), word...)
			want, _ := rowsAdded(urn, rule, word)
			for range 2 {
				behind, ok := impl.AfterWord(urn, given, drawn)
				other, okToo := impl.AfterWord(urn, given, drawn)
				if !ok || !okToo || !slices.Equal(behind, want) {
					t.Fatal(rule, word, behind, want)
				}
				spareTouched(behind)
				if !slices.Equal(other, want) {
					t.Fatal("both results share memory", rule, word)
				}
				spareTouched(other)
			}
			unwritten(t, []int{0, 10}, urn)
			unwritten(t, word, drawn)
			unwrittenRule(t, rule, given)
		}
	}
}

func TestRuleArgumentsAreNotWritten(t *testing.T) {
	rules := slices.Concat(someRules(1), someRules(2), someRules(3), rulesOfWrongLength(2), rulesThatWrap(2))
	for _, rule := range rules {
		for _, row := range append(urnsWith(0, 2, 10), nil, []int{11, 1}, []int{-1, math.MaxInt}) {
			for _, word := range [][]int{nil, {0}, {0, 1, 0}, {2, 2, 2}, {1, -1}} {
				urn := roomy(row)
				drawn, given := roomy(word), roomyRule(rule)
				impl.RuleOk(len(rule), given)
				impl.StartOk(urn)
				impl.AfterWord(urn, given, drawn)
				impl.RuleWays(urn, given, drawn)
				impl.RuleAll(urn, given, 3)
				impl.EvenRule(len(rule), given)
				impl.BallSum(urn, given, 3, 0)
				unwritten(t, row, urn)
				unwritten(t, word, drawn)
				unwrittenRule(t, rule, given)
			}
		}
	}
}

// Rows of a rule, the urn and the word may be the same memory.
func TestRuleArgumentsMayShareMemory(t *testing.T) {
	row := []int{1, 1}
	rule := [][]int{row, row}
	for range 2 {
		behind, ok := impl.AfterWord(row, rule, row)
		if !ok || !slices.Equal(behind, []int{3, 3}) || impl.RuleWays(row, rule, row) != 2 || impl.RuleAll(row, rule, 2) != 8 || impl.BallSum(row, rule, 2, 0) != 24 {
			t.Fatal(behind, ok)
		}
		if many, ok := impl.EvenRule(2, rule); !ok || many != 2 || !slices.Equal(row, []int{1, 1}) {
			t.Fatal(many, ok, row)
		}
	}
}

func TestRuleResultsAreNotKept(t *testing.T) {
	urn, rule, word := []int{2, 1}, [][]int{{-1, 1}, {1, -1}}, []int{0, 0, 1}
	for range 3 {
		many, _ := impl.EvenRule(2, rule)
		got := []int{impl.RuleWays(urn, rule, word), impl.RuleAll(urn, rule, 3), impl.BallSum(urn, rule, 1, 0), many}
		if !slices.Equal(got, []int{6, 27, 5, 0}) {
			t.Fatal(got)
		}
		behind, ok := impl.AfterWord(urn, rule, word)
		if !ok || !slices.Equal(behind, []int{1, 2}) {
			t.Fatal(behind, ok)
		}
		other := [][]int{{3, 3}, {3, 3}}
		impl.AfterWord([]int{10, 10}, other, []int{1, 1})
		impl.RuleWays([]int{10, 10}, other, []int{1, 1})
		impl.RuleAll([]int{10, 10}, other, 6)
		impl.BallSum([]int{10, 10}, other, 6, 1)
		impl.EvenRule(2, other)
	}
}
