package tests

import (
	"fmt"
	"math"
	"regexp"
	"slices"
	"strconv"
	"strings"
	"testing"

	"loop.example/urnsandballs/impl"
)

// placeOf returns what a text tells of a place, whether that is one or not: its numbers and letters are taken as they are.
func placeOf(text string) impl.Place {
	parts := strings.Split(text, " ")
	var place impl.Place
	for number := range strings.SplitSeq(parts[0], ",") {
		balls, _ := strconv.Atoi(number)
		place.Start = append(place.Start, balls)
	}
	place.Step, _ = strconv.Atoi(parts[1])
	if parts[2] != "." {
		place.Word = wordOfText(strings.ToUpper(parts[2]))
	}
	return place
}

// writtenPlace writes down what a place has, whether it is one or not.
func writtenPlace(p impl.Place) string {
	word := "."
	if len(p.Word) > 0 {
		word = strings.ToLower(wordText(p.Word))
	}
	return fmt.Sprintf("%s %d %s", writtenRow(p.Start), p.Step, word)
}

// writtenRow writes down all numbers of a row with commas between them.
func writtenRow(row []int) string {
	return strings.ReplaceAll(strings.Trim(fmt.Sprint(row), "[]"), " ", ",")
}

// writtenDesk writes down all places of a desk, that of now last.
func writtenDesk(d impl.Desk) string {
	var texts []string
	for _, before := range d.Past {
		texts = append(texts, writtenPlace(before))
	}
	return strings.Join(append(texts, writtenPlace(d.Now)), "; ")
}

// sameDesk reports whether both desks have the same places.
func sameDesk(a, b impl.Desk) bool {
	return writtenDesk(a) == writtenDesk(b)
}

// noPlace reports whether a place is the zero value.
func noPlace(p impl.Place) bool {
	return len(p.Start) == 0 && p.Step == 0 && len(p.Word) == 0
}

// noDesk reports whether a desk is the zero value.
func noDesk(d impl.Desk) bool {
	return noPlace(d.Now) && len(d.Past) == 0
}

// drawnOneByOne draws the word of a place, and returns the urn behind it, and its ways, 0 if it cannot be drawn.
func drawnOneByOne(p impl.Place) ([]int, int) {
	urn, ways := slices.Clone(p.Start), 1
	for _, colour := range p.Word {
		ways *= urn[colour]
		urn[colour] += p.Step
	}
	return urn, ways
}

// withPlaceRows visits urns, steps and words that a place may have, whether the word can be drawn or not.
func withPlaceRows(visit func(p impl.Place)) {
	for colours := 1; colours <= 3; colours++ {
		numbers := [][]int{numbersTo(11), {0, 1, 2, 3, 10}, {0, 2, 10}}[colours-1]
		words := slices.DeleteFunc(allWords(colours), func(word []int) bool {
			// Of the many words of three colours just short ones, and those that end as they begin.
			return colours == 3 && len(word) > 3 && !slices.Equal(word, turned(word))
		})
		for _, urn := range rowsOf(colours, numbers) {
			for _, step := range steps() {
				for _, word := range words {
					visit(impl.Place{Start: urn, Step: step, Word: word})
				}
			}
		}
	}
}

// withPlaces visits places, those without draws, with MaxDraws of them, and with MaxStart balls of a colour among them.
func withPlaces(visit func(p impl.Place)) {
	withPlaceRows(func(p impl.Place) {
		if _, ways := drawnOneByOne(p); ways > 0 {
			visit(p)
		}
	})
}

// placeTexts returns texts of places of each number of colours and each step, without draws and with up to MaxDraws of them, and without balls.
func placeTexts() []string {
	return []string{
		"2,1 1 ab", "2,1 1 .", "0 0 .", "3 -1 .", "0,0,0 3 .", "10 -1 aaaaaa", "10,10,10 3 abcabc", "1,2,3 -1 cbc", "1,1 -1 ba", "0,1 1 .", "10,0 0 aaa", "0,10,1 2 bbbcb",
		"5 3 aaaaa", "6 -1 aaaaaa", "1,0,0 -1 a", "9,9 2 bababa", "4,5,6 0 .", "10,10 -1 .", "0,0 -1 .", "2,3 -1 bbaba", "7,0,2 0 ccc", "1 0 a", "10 3 .", "1,1,1 1 acab",
	}
}

// noPlaces returns what is no place: no urn to begin with, or with too many balls, a step out of range, and a word that is none, or that cannot be drawn.
func noPlaces() []impl.Place {
	places := []impl.Place{{}, {Step: 1}, {Word: []int{0}}}
	for _, start := range noStarts() {
		places = append(places, impl.Place{Start: start}, impl.Place{Start: start, Step: -1, Word: []int{0}})
	}
	for colours := 1; colours <= 3; colours++ {
		urn := slices.Repeat([]int{10}, colours)
		for _, word := range noWords(colours) {
			places = append(places, impl.Place{Start: urn, Step: 1, Word: word}, impl.Place{Start: urn, Step: -1, Word: word})
		}
		for _, step := range wrongSteps() {
			places = append(places, impl.Place{Start: urn, Step: step}, impl.Place{Start: urn, Step: step, Word: make([]int, colours)}, impl.Place{Start: make([]int, colours), Step: step})
		}
	}
	for _, text := range []string{"0 0 a", "0 3 a", "0,1 1 a", "0,1 0 ba", "1,0 3 ab", "1 -1 aa", "2,1 -1 bb", "2,1 -1 abb", "2,1 -1 aaba", "2,2,0 1 abc", "5 -1 aaaaaa", "10,0,10 2 acaccb", "0,10,10 -1 a", "3,1,1 -1 caabc", "11 1 .", "10,11 0 b", "40,40,40 0 .", "2,1 -2 .", "2,1 4 .", "1,2,3,4 1 .", "1 0 b", "1,1 1 c", "1,1,1 1 d", "1 1 aaaaaaa"} {
		places = append(places, placeOf(text))
	}
	return places
}

// deskOf returns a desk with the places of texts, that of now first, and then those of before.
func deskOf(now string, past ...string) impl.Desk {
	desk := impl.Desk{Now: placeOf(now)}
	for _, text := range past {
		desk.Past = append(desk.Past, placeOf(text))
	}
	return desk
}

// someDesks returns desks of all kinds of places with no place of before up to MaxPast of them.
func someDesks() []impl.Desk {
	var desks []impl.Desk
	texts := placeTexts()
	for i, text := range texts {
		for _, many := range []int{0, 1, 2, 7, 8} {
			var past []string
			for k := range many {
				past = append(past, texts[(i+5*k+1)%len(texts)])
			}
			desks = append(desks, deskOf(text, past...))
		}
	}
	return desks
}

// noDesks returns what is no desk: with a place of now or of before that is none, or with too many of these.
func noDesks() []impl.Desk {
	good := placeOf("2,1 1 ab")
	var desks []impl.Desk
	for i, place := range noPlaces() {
		past := slices.Repeat([]impl.Place{good}, 8)
		past[i%8] = place
		desks = append(desks, impl.Desk{Now: place}, impl.Desk{Now: good, Past: []impl.Place{place}}, impl.Desk{Now: good, Past: past})
	}
	for _, many := range []int{9, 10, 16, 1000} {
		desks = append(desks, impl.Desk{Now: good, Past: slices.Repeat([]impl.Place{good}, many)}, impl.Desk{Now: good, Past: make([]impl.Place, many)})
	}
	return append(desks, impl.Desk{Past: []impl.Place{good}}, impl.Desk{Now: good, Past: make([]impl.Place, 1)})
}

// doneByHand returns a desk after a deed, and whether it can be done; the desk must be one.
func doneByHand(d impl.Desk, a impl.Deed) (impl.Desk, bool) {
	after := impl.Place{Start: slices.Clone(d.Now.Start), Step: d.Now.Step, Word: slices.Clone(d.Now.Word)}
	undrawn, ofColour, alone, can := len(after.Word) == 0, a.A >= 0 && a.A < len(after.Start), a.A == 0 && a.B == 0, false
	switch a.Kind {
	case impl.DkPut:
		if can = undrawn && ofColour && a.B != 0 && a.B >= -10 && a.B <= 10; can {
			after.Start[a.A] += a.B
			can = after.Start[a.A] >= 0 && after.Start[a.A] <= 10
		}
	case impl.DkStep:
		can = undrawn && a.B == 0 && a.A != after.Step && slices.Contains(steps(), a.A)
		after.Step = a.A
	case impl.DkDraw:
		behind, _ := drawnOneByOne(after)
		can = a.B == 0 && ofColour && len(after.Word) < 6 && behind[a.A] > 0
		after.Word = append(after.Word, a.A)
	case impl.DkAgain:
		can = alone && !undrawn
		after.Word = nil
	case impl.DkBack:
		if last := len(d.Past) - 1; alone && last >= 0 {
			return impl.Desk{Now: d.Past[last], Past: d.Past[:last]}, true
		}
	}
	if !can {
		return d, false
	}
	past := append(slices.Clone(d.Past), d.Now)
	return impl.Desk{Now: after, Past: past[max(0, len(past)-8):]}, true
}

// allByHand returns a desk after deeds, without those that cannot be done, and how many were done.
func allByHand(d impl.Desk, list []impl.Deed) (impl.Desk, int) {
	many := 0
	for _, deed := range list {
		after, ok := doneByHand(d, deed)
		if ok {
			many++
		}
		d = after
	}
	return d, many
}

// someDeeds returns deeds of all kinds, with right and wrong numbers, and of other kinds.
func someDeeds() []impl.Deed {
	var deeds []impl.Deed
	around := []int{math.MinInt, -100, -99, -1, 0, 1, 2, 3, 4, 99, 100, math.MaxInt}
	for kind := range 5 {
		for _, a := range around {
			for _, b := range append([]int{-12, -11, -10, -9, -3, -2, 5, 9, 10, 11, 12, math.MinInt + 1, math.MaxInt - 1}, around...) {
				deeds = append(deeds, impl.Deed{Kind: kind, A: a, B: b})
			}
		}
	}
	return append(deeds, otherKinds()...)
}

// otherKinds returns deeds of kinds that there are not.
func otherKinds() []impl.Deed {
	var deeds []impl.Deed
	for _, kind := range append(extremes(), -5, -2, -1, 5, 6, 7, 256) {
		deeds = append(deeds, impl.Deed{Kind: kind}, impl.Deed{Kind: kind, A: 1}, impl.Deed{Kind: kind, A: 1, B: 1})
	}
	return deeds
}

// deedOf returns the deed of a text, which must be one.
func deedOf(text string) impl.Deed {
	parts := append(strings.Split(text, " "), "0", "0")
	first, _ := strconv.Atoi(parts[1])
	second, _ := strconv.Atoi(parts[2])
	return impl.Deed{Kind: slices.Index([]string{"put", "step", "draw", "again", "back"}, parts[0]), A: first, B: second}
}

// deedsOf returns the deeds of texts with commas between them, none for no text.
func deedsOf(texts string) []impl.Deed {
	var list []impl.Deed
	for _, text := range strings.FieldsFunc(texts, func(sign rune) bool { return sign == ',' }) {
		list = append(list, deedOf(strings.TrimSpace(text)))
	}
	return list
}

// writtenDeed writes down a deed, "" for one that has no text.
func writtenDeed(a impl.Deed) string {
	small := a.A >= -99 && a.A <= 99 && a.B >= -99 && a.B <= 99
	switch {
	case a.Kind == impl.DkPut && small:
		return fmt.Sprintf("put %d %d", a.A, a.B)
	case a.Kind == impl.DkStep && small && a.B == 0:
		return fmt.Sprintf("step %d", a.A)
	case a.Kind == impl.DkDraw && small && a.B == 0:
		return fmt.Sprintf("draw %d", a.A)
	case a == impl.Deed{Kind: impl.DkAgain}:
		return "again"
	case a == impl.Deed{Kind: impl.DkBack}:
		return "back"
	}
	return ""
}

// writtenJournal writes down deeds that have texts, each with a newline.
func writtenJournal(list []impl.Deed) string {
	text := ""
	for _, deed := range list {
		text += writtenDeed(deed) + "\n"
	}
	return text
}

// mixedDeeds returns deeds of all kinds in an order that a number makes; all of them have texts, and some can never be done.
func mixedDeeds(number, many int) []impl.Deed {
	from := deedsOf("put 0 1, put 1 -1, put 0 -2, put 2 3, put 1 2, step -1, step 2, step 0, step 3, draw 0, draw 1, draw 2, draw 0, draw 1, draw 0, again, again, again, back, back, back, put 0 0, draw 3, draw -1, step 9, put -99 99")
	var list []impl.Deed
	for range many {
		number = (number*1103515245 + 12345) % (1 << 31)
		list = append(list, from[(number>>16)%len(from)])
	}
	return list
}

// journals returns lists of deeds that have texts, from none up to more than MaxLines of them.
func journals() [][]impl.Deed {
	lists := [][]impl.Deed{nil, deedsOf("put 0 0, put -99 -99, put 99 99, put -99 99, put 99 -99, step -99, step 0, step 99, draw -99, draw 0, draw 99, again, back"), deedsOf("back, back, back"), deedsOf("again"), deedsOf("put 0 -9")}
	for many := 1; many <= 20; many++ {
		lists = append(lists, mixedDeeds(many, many))
	}
	return append(lists, mixedDeeds(39, 39), mixedDeeds(40, 40), mixedDeeds(41, 41), mixedDeeds(100, 100))
}

// spoiled returns texts with a byte left out, put in, or written over, or a byte twice, at each place, and in capitals; the text itself may be among them.
func spoiled(text string) []string {
	texts := []string{strings.ToUpper(text), text + "\n", "\n" + text, text + text, text + " " + text, strings.ReplaceAll(text, " ", ""), strings.ReplaceAll(text, " ", "  ")}
	for at := range len(text) + 1 {
		for _, sign := range []byte(" ,.-+_|/'0123489abcdk\x00\t\n\r\x7f\x80\xc3\xff") {
			texts = append(texts, text[:at]+string([]byte{sign})+text[at:])
			if at < len(text) {
				texts = append(texts, text[:at]+string([]byte{sign})+text[at+1:])
			}
		}
		if at < len(text) {
			texts = append(texts, text[:at]+text[at+1:], text[:at], text[at:], text[:at+1]+text[at:])
		}
	}
	return texts
}

// longTexts returns texts of very many bytes, and with numbers too large for any int.
func longTexts() []string {
	var texts []string
	for _, many := range []int{20, 100, 1000, 1 << 18} {
		for _, part := range []string{"0", "1", "9", "a", "b", " ", ",", ".", "-", "\n", "\x00", "\xff", "1,", "a ", "put 0 1 ", "draw 0 ", "back "} {
			long := strings.Repeat(part, many)
			texts = append(texts, long, "2,1 1 "+long, "2,1 "+long+" .", long+" 1 .", "2,"+long+" 1 .", "put "+long+" 1", "put 1 "+long, "put 1 -"+long, "step "+long, "draw "+long, "draw 0"+long, "again"+long, "chance "+long, "share "+long, "term "+long)
		}
	}
	for _, number := range []string{"9223372036854775807", "9223372036854775808", "-9223372036854775808", "-9223372036854775809", "18446744073709551616", "18446744073709551617", "4294967296", "-18446744073709551615"} {
		texts = append(texts, number+" 1 .", "1,"+number+" 1 .", "1 "+number+" .", "put "+number+" 1", "put 0 "+number, "step "+number, "draw "+number, "chance "+number, "share "+number)
	}
	return texts
}

var placeForm = regexp.MustCompile(`^(?:\d|10)(?:,(?:\d|10)){0,2} (?:-1|[0-3]) (?:\.|[abc]{1,6})$`)

// isPlaceText reports whether a text is that of a place.
func isPlaceText(text string) bool {
	if !placeForm.MatchString(text) {
		return false
	}
	place := placeOf(text)
	if len(place.Word) > 0 && slices.Max(place.Word) >= len(place.Start) {
		return false
	}
	_, ways := drawnOneByOne(place)
	return ways > 0
}

var deedForm = regexp.MustCompile(`^(?:put (?:0|-?[1-9]\d?) (?:0|-?[1-9]\d?)|(?:step|draw) (?:0|-?[1-9]\d?)|again|back)$`)

// isDeedText reports whether a text is that of a deed.
func isDeedText(text string) bool {
	return deedForm.MatchString(text)
}

// readByHand returns the deeds of the lines with which a text begins, and how many bytes these have.
func readByHand(text string) ([]impl.Deed, int) {
	var list []impl.Deed
	bytes := 0
	for line := range strings.SplitAfterSeq(text, "\n") {
		if !strings.HasSuffix(line, "\n") || !isDeedText(line[:len(line)-1]) {
			break
		}
		list = append(list, deedOf(line[:len(line)-1]))
		bytes += len(line)
	}
	return list, bytes
}

var colourQuestion = regexp.MustCompile(`^(chance|share) (0|[1-9]\d{0,5})$`)

// answerByHand returns the answer to a line that is no deed, from the chapters before.
func answerByHand(p impl.Place, line string) string {
	rule := impl.SameRule(len(p.Start), p.Step)
	behind, _ := impl.AfterWord(p.Start, rule, p.Word)
	counts := impl.CountsOf(len(p.Start), p.Word)
	switch line {
	case "place":
		return writtenPlace(p)
	case "urn":
		return writtenRow(behind)
	case "ways":
		return fmt.Sprint(impl.RuleWays(p.Start, rule, p.Word))
	case "all":
		return fmt.Sprint(impl.RuleAll(p.Start, rule, len(p.Word)))
	case "counts":
		return writtenRow(counts)
	case "same":
		return fmt.Sprint(impl.SameCounts(p.Start, p.Step, counts))
	case "runs":
		return fmt.Sprint(impl.RunsOf(len(p.Start), p.Word))
	case "longest":
		return fmt.Sprint(impl.LongestRun(len(p.Start), p.Word))
	}
	if parts := colourQuestion.FindStringSubmatch(line); parts != nil {
		colour, _ := strconv.Atoi(parts[2])
		if parts[1] == "chance" {
			over, under, ok := impl.ChanceOf(behind, colour)
			return toldOrNone(fmt.Sprintf("%d/%d", over, under), ok)
		}
		sum := impl.ShareSum(p.Start, p.Step, len(p.Word), colour)
		return toldOrNone(fmt.Sprint(sum), sum != -1)
	}
	text, isTerm := strings.CutPrefix(line, "term ")
	if term, ok := impl.ReadTerm(len(p.Start), text); isTerm && ok {
		return fmt.Sprint(impl.TermWays(p.Start, rule, term))
	}
	return "what"
}

// toldOrNone returns an answer, or the word none if it is not told.
func toldOrNone(answer string, told bool) string {
	if told {
		return answer
	}
	return "none"
}

// questionLines returns a line for each question, for colours and terms that there are, and for others.
func questionLines() []string {
	lines := []string{"place", "urn", "ways", "all", "counts", "same", "runs", "longest", "chance 3", "chance 9", "chance 10", "chance 999999", "share 3", "share 10", "share 100000", "share 999999"}
	for _, colour := range []string{"0", "1", "2"} {
		lines = append(lines, "chance "+colour, "share "+colour)
	}
	for _, text := range []string{"a", "b", "c", ".", "ab", "a|b", "..", "ab|ba", "(a|b)c", "a(b|.)", "...", "a.a", "ab(c.)", "......"} {
		lines = append(lines, "term "+text)
	}
	return lines
}

// otherLines returns lines that are neither deeds nor questions.
func otherLines() []string {
	return []string{
		"", " ", "x", "ok", "not", "none", "what", "Place", "PLACE", "place ", " place", "place\n", "placeplace", "place urn", "place 0", "urn ", "urn 0", "ways 1", "all 2", "counts 0", "same 0", "runs 0", "longest ", "longes", "longestt", "ur", "u", "\x00", "\xff", "urn\x00", "urn\xff", "\tall", "7", "a", ".", "ab|ba", "2,1 1 ab",
		"chance", "chance ", "chance  0", "chance 0 ", " chance 0", "chance 0 1", "chance 0,1", "chance 0.", "chance 00", "chance 01", "chance 000000", "chance -0", "chance -1", "chance +0", "chance +1", "chance 1000000", "chance 0000000", "chance 9999999", "chance a", "chance .", "chance 0x1", "chance 1_0", "chance 1e1", "Chance 0", "CHANCE 0", "chance0", "chance\t0", "chance 0\n", "chance \xff", "chance 0\x00", "chance ０", "chance 9223372036854775808", "chance 18446744073709551616",
		"share", "share ", "share  0", "share 0 ", "share 00", "share 07", "share -1", "share -0", "share +1", "share 1000000", "share 1234567", "share 0 0", "share b", "share ,", "Share 0", "share0", "share 1/2", "share 4294967296", "share -9223372036854775808",
		"term", "term ", "term  a", "term a ", " term a", "term a b", "term A", "term (a)", "term (ab)", "term a|", "term |a", "term a|bb", "term aaaaaaa", "term .......", "term ()", "term d", "term 0", "term a(b)", "term a\n", "Term a", "terma", "term\ta", "term term a",
		"put", "put 0", "put 0 01", "put 0 +1", "put 0 100", "put -100 0", "put 0 1 ", "step", "step 01", "step 1 0", "step 100", "draw", "draw 01", "draw -100", "draw 0 0", "draw a", "again 0", "again ", "Again", "back 0", "back ", "BACK", "back\n",
	}
}

// Promise 87.

func TestPlaceTexts(t *testing.T) {
	for _, c := range []struct {
		place impl.Place
		want  string
	}{
		{impl.Place{Start: []int{2, 1}, Step: 1, Word: []int{0, 1}}, "2,1 1 ab"}, {impl.Place{Start: []int{3}, Step: -1}, "3 -1 ."}, {impl.Place{Start: []int{0}}, "0 0 ."}, {impl.Place{Start: []int{0, 0, 0}, Step: 3, Word: []int{}}, "0,0,0 3 ."},
		{impl.Place{Start: []int{10, 10, 10}, Step: -1, Word: []int{0, 1, 2, 2, 1, 0}}, "10,10,10 -1 abccba"}, {impl.Place{Start: []int{10}, Step: 2, Word: []int{0, 0, 0, 0, 0, 0}}, "10 2 aaaaaa"}, {impl.Place{Start: []int{1, 0, 9}, Step: 0, Word: []int{2}}, "1,0,9 0 c"},
		{impl.Place{}, ""}, {impl.Place{Start: []int{}}, ""}, {impl.Place{Start: []int{11}, Step: 1}, ""}, {impl.Place{Start: []int{-1}, Step: 1}, ""}, {impl.Place{Start: []int{1, 2, 3, 4}, Step: 1}, ""}, {impl.Place{Start: []int{2, 1}, Step: 4}, ""}, {impl.Place{Start: []int{2, 1}, Step: -2}, ""},
		{impl.Place{Start: []int{2, 1}, Word: []int{2}}, ""}, {impl.Place{Start: []int{2, 1}, Word: []int{-1}}, ""}, {impl.Place{Start: []int{0, 1}, Step: 1, Word: []int{0}}, ""}, {impl.Place{Start: []int{2, 1}, Step: -1, Word: []int{1, 1}}, ""}, {impl.Place{Start: []int{9}, Step: 1, Word: make([]int, 7)}, ""},
		{impl.Place{Start: []int{math.MaxInt}}, ""}, {impl.Place{Start: []int{math.MinInt}}, ""}, {impl.Place{Start: []int{1}, Step: math.MaxInt}, ""}, {impl.Place{Start: []int{1}, Step: math.MinInt}, ""}, {impl.Place{Start: []int{1}, Word: []int{math.MaxInt}}, ""}, {impl.Place{Start: []int{1}, Word: []int{math.MinInt}}, ""},
	} {
		if got := impl.PlaceText(c.place); got != c.want {
			t.Error(c, got)
		}
	}
}

func TestTextsOfPlacesAreRead(t *testing.T) {
	withPlaces(func(p impl.Place) {
		text := impl.PlaceText(p)
		got, ok := impl.ReadPlace(text)
		if text != writtenPlace(p) || !ok || writtenPlace(got) != text || len(got.Start) != len(p.Start) || len(got.Word) != len(p.Word) {
			t.Error(p, text, got, ok)
		}
	})
}

func TestNoTextsOfNoPlaces(t *testing.T) {
	for _, place := range noPlaces() {
		if got := impl.PlaceText(place); got != "" {
			t.Error(place, got)
		}
	}
}

// Promise 88.

func TestReadPlaces(t *testing.T) {
	for _, text := range placeTexts() {
		if got, ok := impl.ReadPlace(text); !ok || writtenPlace(got) != text || !impl.PlaceOk(got) {
			t.Error(text, got, ok)
		}
	}
	got, ok := impl.ReadPlace("2,0,10 -1 ccac")
	if !ok || !slices.Equal(got.Start, []int{2, 0, 10}) || got.Step != -1 || !slices.Equal(got.Word, []int{2, 2, 0, 2}) {
		t.Error(got, ok)
	}
}

// unreadPlaces checks that texts are read as places just if they are texts of such.
func unreadPlaces(t *testing.T, texts []string) {
	t.Helper()
	for _, text := range texts {
		got, ok := impl.ReadPlace(text)
		if ok != isPlaceText(text) || ok && (impl.PlaceText(got) != text || writtenPlace(got) != text) || !ok && !noPlace(got) {
			t.Errorf("%.60q %v %v", text, got, ok)
		}
	}
}

func TestOtherTextsAreNoPlaces(t *testing.T) {
	texts := []string{
		"", " ", "  ", ".", " . ", "a", "2", "2,1", "2,1 1", "2,1 1 ", "2,1  .", " 1 .", "2,1 1.", "2,11 .", "2,1 1 abd", "2,1 1 c", "2 1 b", "11 1 .", "2,1 4 .", "2,1 -2 .", "0,1 1 a", "2,1 -0 .", "2,1 1 ..", "2,1 01 .", "2,1 +1 .", "2,1 -01 .", "2,,1 1 .", ",2,1 1 .", "2,1, 1 .", ", 1 .",
		"2,1 1 . ", " 2,1 1 .", "2,1  1 .", "2,1 1  .", "2, 1 1 .", "2 ,1 1 .", "02,1 1 .", "2,01 1 .", "00 1 .", "-0 1 .", "+2 1 .", "-1 1 .", "2,-1 1 .", "10,010 1 .", "1,2,3,4 1 .", "1,2,3,4 1 a", "2,1 1 aaaaaaa", "2,1 1 A", "2,1 1 AB", "2,1 1 a.", "2,1 1 .a", "2,1 1 a b", "2,1 1 0", "2,1 1 01", "2.1 1 .", "2;1 1 .", "2,1 1\n.", "2,1\t1 .", "2,1 1 .\n", "2,1 1 a\n", "2,1 1 .\x00", "2,1 1 \xff", "2,1 1 a\xcc\x81", "2,1 1 ab ab", "2,1 1 . .",
		"2,1 -1 bb", "1 -1 aa", "2,1 -1 abba", "0 0 a", "0,0,0 3 c", "5 -1 aaaaaa", "2,1 1 -", "2,1 - .", "- 1 .", "2,- 1 .", "2,1 a ab", "a,b 1 .", "2,1 1,1 .", "2,1 . 1", ". 1 2,1", "0x2,1 1 .", "1_0 1 .", "1e1 1 .", "2,1 1 α", "２,1 1 .",
	}
	for _, text := range texts {
		if got, ok := impl.ReadPlace(text); ok || !noPlace(got) {
			t.Errorf("%q %v", text, got)
		}
	}
	unreadPlaces(t, texts)
	unreadPlaces(t, longTexts())
}

func TestReadPlacesAreCanonical(t *testing.T) {
	for _, text := range placeTexts() {
		unreadPlaces(t, spoiled(text))
		for _, spaced := range []string{text + " ", " " + text} {
			if got, ok := impl.ReadPlace(spaced); ok || !noPlace(got) {
				t.Error(spaced, got)
			}
		}
	}
}

func TestTextsOfPlacesBySignsAreReadIfTheyAreThoseOfPlaces(t *testing.T) {
	for _, start := range []string{"", "0", "1", "10", "11", "0,1", "1,", ",1", "1,2,0", "1,1,1,1", "01", "-1"} {
		for _, step := range []string{"", "-2", "-1", "-0", "0", "00", "1", "3", "4", "+1", "1.0", "a"} {
			for _, word := range []string{"", ".", "..", "a", "b", "c", "d", "ab", "aa", "aaa", "abc", "aaaaaa", "aaaaaaa", "a.", "ba", "B", "0"} {
				unreadPlaces(t, []string{start + " " + step + " " + word})
			}
		}
	}
}

// Promise 89.

func TestDeskRun(t *testing.T) {
	for _, c := range []struct {
		now, deeds, want string
		many             int
	}{
		{"2,1 1 ab", "", "2,1 1 ab", 0}, {"2,1 1 ab", "draw 1", "2,1 1 ab; 2,1 1 abb", 1}, {"2,1 1 ab", "step 2, again, step 2, draw 0", "2,1 1 ab; 2,1 1 .; 2,1 2 .; 2,1 2 a", 3}, {"2,1 1 ab", "back, put 0 1, step 1, draw 2, again", "2,1 1 ab; 2,1 1 .", 1},
		{"2,1 1 ab", "again, back, back", "2,1 1 ab", 2}, {"0,0 -1 .", "draw 0, draw 1, again, back, step -1, put 0 0", "0,0 -1 .", 0}, {"1 -1 .", "draw 0, draw 0, again, draw 0, back", "1 -1 .; 1 -1 a; 1 -1 .", 4}, {"0 0 .", "put 0 11, put 0 10, put 0 1, put 0 -10, put 0 -1", "0 0 .; 10 0 .; 0 0 .", 2},
		{"0 0 .", "put 0 1, put 0 1, put 0 1, put 0 1, put 0 1, put 0 1, put 0 1, put 0 1, put 0 1, put 0 1, put 0 1", "2 0 .; 3 0 .; 4 0 .; 5 0 .; 6 0 .; 7 0 .; 8 0 .; 9 0 .; 10 0 .", 10}, {"5 1 .", "draw 0, draw 0, draw 0, draw 0, draw 0, draw 0, draw 0", "5 1 .; 5 1 a; 5 1 aa; 5 1 aaa; 5 1 aaaa; 5 1 aaaaa; 5 1 aaaaaa", 6},
	} {
		got, many := impl.DeskRun(deskOf(c.now), deedsOf(c.deeds))
		if writtenDesk(got) != c.want || many != c.many {
			t.Error(c, writtenDesk(got), many)
		}
	}
}

func TestWhateverIsDoneItIsAPlace(t *testing.T) {
	for i, desk := range someDesks() {
		for _, many := range []int{0, 1, 2, 5, 12, 39, 40} {
			list := mixedDeeds(i, many)
			got, done := impl.DeskRun(desk, list)
			if want, wantDone := allByHand(desk, list); !impl.DeskOk(got) || !sameDesk(got, want) || done != wantDone {
				t.Fatal(desk, list, got, done)
			}
			for cut := range list {
				first, doneFirst := impl.DeskRun(desk, list[:cut])
				second, doneSecond := impl.DeskRun(first, list[cut:])
				if !sameDesk(second, got) || doneFirst+doneSecond != done {
					t.Fatal(desk, list, cut, second, got)
				}
			}
		}
	}
}

func TestDeedsThatCannotBeDoneAreLeftOut(t *testing.T) {
	wrong := slices.DeleteFunc(someDeeds(), func(a impl.Deed) bool { return writtenDeed(a) != "" })
	for i, desk := range someDesks() {
		list := slices.Clone(wrong[i%len(wrong):])[:min(40, len(wrong)-i%len(wrong))]
		if got, many := impl.DeskRun(desk, list); !sameDesk(got, desk) || many != 0 {
			t.Error(desk, list, got, many)
		}
	}
}

func TestNoDeskRun(t *testing.T) {
	for _, desk := range noDesks() {
		for _, list := range [][]impl.Deed{nil, deedsOf("draw 0"), deedsOf("back, again"), mixedDeeds(1, 40), mixedDeeds(1, 41)} {
			if got, many := impl.DeskRun(desk, list); !noDesk(got) || many != 0 {
				t.Error(desk, list, got, many)
			}
		}
	}
	for _, desk := range someDesks() {
		for _, many := range []int{41, 42, 1000, 1 << 16} {
			if got, done := impl.DeskRun(desk, make([]impl.Deed, many)); !noDesk(got) || done != 0 {
				t.Error(desk, many, got, done)
			}
		}
	}
}

// Promise 90.

func TestReadJournals(t *testing.T) {
	for _, c := range []struct {
		text, want string
		bytes      int
	}{
		{"", "", 0}, {"\n", "", 0}, {"again", "", 0}, {"again\n", "again", 6}, {"again\nback", "again", 6}, {"again\nback\n", "again, back", 11}, {"draw 1\nagain\nba", "draw 1, again", 13}, {"draw 1\n\nagain\n", "draw 1", 7}, {"\nagain\n", "", 0}, {"again\n\n", "again", 6}, {" again\n", "", 0}, {"again \nback\n", "", 0},
		{"put 0 -99\nstep -1\nx\nback\n", "put 0 -99, step -1", 18}, {"put 0 100\n", "", 0}, {"draw 1\ndraw 01\ndraw 1\n", "draw 1", 7}, {"back\r\nback\n", "", 0}, {"back\nback\r\n", "back", 5}, {"back\nback\r", "back", 5}, {"BACK\n", "", 0}, {"back\n\x00\n", "back", 5}, {"back\n\xff\nback\n", "back", 5}, {"place\nback\n", "", 0}, {"draw 1\nplace\n", "draw 1", 7}, {"draw 1\tagain\n", "", 0}, {"back back\n", "", 0}, {"draw\n1\n", "", 0},
	} {
		if got, bytes := impl.ReadJournal(c.text); !slices.Equal(got, deedsOf(c.want)) || bytes != c.bytes {
			t.Errorf("%q %v %d", c.text, got, bytes)
		}
	}
}

func TestWhereverAJournalIsCutADeskOfBeforeIsFound(t *testing.T) {
	for i, list := range journals() {
		text := writtenJournal(list)
		desk := someDesks()[i]
		for cut := range len(text) + 1 {
			want, wantBytes := readByHand(text[:cut])
			got, bytes := impl.ReadJournal(text[:cut])
			if !slices.Equal(got, want) || bytes != wantBytes || !slices.Equal(got, list[:len(got)]) || impl.JournalText(got) != text[:bytes] || strings.Contains(text[bytes:cut], "\n") {
				t.Fatalf("%q %v %d", text[:cut], got, bytes)
			}
			if len(got) > 40 || cut > 0 && text[cut-1] != '\n' {
				continue
			}
			run, _ := impl.DeskRun(desk, got)
			if said, _ := impl.DeskSay(desk, strings.Split(text[:max(0, cut-1)], "\n")); !sameDesk(said, run) {
				t.Fatalf("%q %v %v", text[:cut], said, run)
			}
		}
	}
}

func TestJournalsEndWithTheFirstLineThatIsNone(t *testing.T) {
	for _, line := range []string{"put 0 1", "put -99 99", "step -1", "draw 2", "again", "back"} {
		for _, other := range append(spoiled(line), longTexts()...) {
			if len(other) > 1<<12 {
				continue
			}
			for _, text := range []string{other + "\n", "draw 1\n" + other + "\nback\n", "again\nback\n" + other} {
				want, wantBytes := readByHand(text)
				if got, bytes := impl.ReadJournal(text); !slices.Equal(got, want) || bytes != wantBytes {
					t.Fatalf("%q %v %d", text, got, bytes)
				}
			}
		}
	}
}

func TestVeryLongJournals(t *testing.T) {
	text := strings.Repeat("put -99 -99\nback\n", 50000)
	if got, bytes := impl.ReadJournal(text); len(got) != 100000 || bytes != len(text) || impl.JournalText(got) != text {
		t.Error(len(got), bytes)
	}
	if got, bytes := impl.ReadJournal(text + strings.Repeat("9", 1<<20)); len(got) != 100000 || bytes != len(text) {
		t.Error(len(got), bytes)
	}
	for _, long := range longTexts() {
		want, wantBytes := readByHand(long)
		if got, bytes := impl.ReadJournal(long); !slices.Equal(got, want) || bytes != wantBytes {
			t.Errorf("%.60q %v %d", long, got, bytes)
		}
	}
}

// Promise 91.

// exampleLines returns the lines of the document's examples, and their answers.
func exampleLines() ([]string, []string) {
	lines := []string{"urn", "ways", "all", "same", "chance 0", "share 0", "term ab|ba", "put 0 1", "draw 1", "chance 1", "again", "put 0 -2", "place"}
	return lines, []string{"3,2", "2", "12", "4", "3/5", "40", "4", "not", "ok", "1/2", "ok", "ok", "0,1 1 ."}
}

func TestExamples(t *testing.T) {
	place, ok := impl.ReadPlace("2,1 1 ab")
	desk, isDesk := impl.DeskNew(place)
	lines, want := exampleLines()
	after, answers := impl.DeskSay(desk, lines)
	if !ok || !isDesk || !slices.Equal(answers, want) || writtenDesk(after) != "2,1 1 ab; 2,1 1 abb; 2,1 1 .; 0,1 1 ." {
		t.Error(writtenDesk(after), answers)
	}
}

// someLines returns lines of all kinds in an order that a number makes.
func someLines(number, many int) []string {
	from := []string{"place", "urn", "ways", "all", "counts", "same", "runs", "longest", "chance 0", "chance 1", "chance 2", "share 0", "share 2", "term a", "term ..", "term ab|ba", "term c", "x", "", "back", "again", "chance 00"}
	var lines []string
	for i, deed := range mixedDeeds(number, many) {
		line := from[(number+i*i)%len(from)]
		if i%2 == 0 {
			line = writtenDeed(deed)
		}
		lines = append(lines, line)
	}
	return lines
}

func TestWhateverIsSaidThePlaceIsTold(t *testing.T) {
	for i, desk := range someDesks() {
		for _, many := range []int{0, 1, 2, 9, 39, 40} {
			lines := someLines(i, many)
			got, answers := impl.DeskSay(desk, lines)
			if !impl.DeskOk(got) || len(answers) != len(lines) || slices.Contains(answers, "") {
				t.Fatal(desk, lines, got, answers)
			}
			for cut := range lines {
				first, before := impl.DeskSay(desk, lines[:cut])
				second, behind := impl.DeskSay(first, lines[cut:])
				if !sameDesk(second, got) || !slices.Equal(slices.Concat(before, behind), answers) {
					t.Fatal(desk, lines, cut, second, got)
				}
			}
			if many == 40 {
				continue
			}
			_, answers = impl.DeskSay(desk, append(lines, "place"))
			if place, ok := impl.ReadPlace(answers[many]); !ok || writtenPlace(place) != writtenPlace(got.Now) {
				t.Fatal(desk, lines, answers, got)
			}
		}
	}
}

func TestLinesAreSaidOneAfterTheOther(t *testing.T) {
	for i, desk := range someDesks() {
		lines := someLines(i+1, 40)
		got, answers := impl.DeskSay(desk, lines)
		for place, line := range lines {
			after, answer := impl.DeskLine(desk, line)
			if answer != answers[place] {
				t.Fatal(lines, place, answer, answers)
			}
			desk = after
		}
		if !sameDesk(got, desk) {
			t.Fatal(lines, got, desk)
		}
	}
}

func TestNothingIsSaid(t *testing.T) {
	for _, desk := range noDesks() {
		for _, lines := range [][]string{nil, {"place"}, {"draw 0", "x"}, make([]string, 40), make([]string, 41)} {
			if got, answers := impl.DeskSay(desk, lines); !noDesk(got) || len(answers) != 0 {
				t.Error(desk, lines, got, answers)
			}
		}
	}
	for _, desk := range someDesks() {
		for _, many := range []int{41, 42, 1000, 1 << 16} {
			if got, answers := impl.DeskSay(desk, make([]string, many)); !noDesk(got) || len(answers) != 0 {
				t.Error(desk, many, got, len(answers))
			}
		}
		if got, answers := impl.DeskSay(desk, make([]string, 40)); !sameDesk(got, desk) || !slices.Equal(answers, slices.Repeat([]string{"what"}, 40)) {
			t.Error(desk, got, answers)
		}
	}
}

// Promise 102.

func TestPlaces(t *testing.T) {
	for _, c := range []struct {
		place impl.Place
		want  bool
	}{
		{impl.Place{Start: []int{2, 1}, Step: 1, Word: []int{0, 1}}, true}, {impl.Place{Start: []int{0, 1}, Word: []int{0}}, false}, {impl.Place{Start: []int{0, 1}, Step: 3, Word: []int{1}}, true}, {impl.Place{Start: []int{0, 1}, Step: 3, Word: []int{1, 0}}, false}, {impl.Place{Start: []int{0}}, true}, {impl.Place{Start: []int{0, 0, 0}, Step: -1}, true}, {impl.Place{}, false},
		{impl.Place{Start: []int{10}, Step: 3, Word: make([]int, 6)}, true}, {impl.Place{Start: []int{10}, Step: 3, Word: make([]int, 7)}, false}, {impl.Place{Start: []int{11}}, false}, {impl.Place{Start: []int{10, 10, 10}}, true}, {impl.Place{Start: []int{10, 10, 11}}, false}, {impl.Place{Start: []int{1, 1, 1, 1}}, false}, {impl.Place{Start: []int{-1}}, false},
		{impl.Place{Start: []int{1}, Step: -1}, true}, {impl.Place{Start: []int{1}, Step: -2}, false}, {impl.Place{Start: []int{1}, Step: 3}, true}, {impl.Place{Start: []int{1}, Step: 4}, false}, {impl.Place{Start: []int{1}, Step: math.MaxInt}, false}, {impl.Place{Start: []int{1}, Step: math.MinInt}, false},
		{impl.Place{Start: []int{6}, Step: -1, Word: make([]int, 6)}, true}, {impl.Place{Start: []int{5}, Step: -1, Word: make([]int, 6)}, false}, {impl.Place{Start: []int{1}, Step: 0, Word: make([]int, 6)}, true}, {impl.Place{Start: []int{1, 1}, Word: []int{2}}, false}, {impl.Place{Start: []int{1, 1}, Word: []int{-1}}, false}, {impl.Place{Start: []int{1, 1}, Word: []int{math.MaxInt}}, false},
	} {
		if got := impl.PlaceOk(c.place); got != c.want {
			t.Error(c, got)
		}
	}
}

func TestWhatIsDrawnCanBeDrawnInAnyOrder(t *testing.T) {
	withPlaceRows(func(p impl.Place) {
		_, ways := drawnOneByOne(p)
		back := impl.PlaceOk(impl.Place{Start: p.Start, Step: p.Step, Word: turned(p.Word)})
		if got := impl.PlaceOk(p); got != (ways > 0) || got != back {
			t.Error(p, got, back)
		}
		if !impl.PlaceOk(impl.Place{Start: p.Start, Step: p.Step}) {
			t.Error(p)
		}
	})
}

func TestOthersAreNoPlaces(t *testing.T) {
	for _, place := range noPlaces() {
		back := place
		back.Word = turned(place.Word)
		if impl.PlaceOk(place) || impl.PlaceOk(back) {
			t.Error(place)
		}
	}
}

// Promise 103.

func TestDeskDo(t *testing.T) {
	for _, c := range []struct {
		now, past, deed, want string
		ok                    bool
	}{
		{"2,1 1 .", "", "put 0 1", "2,1 1 .; 3,1 1 .", true}, {"2,1 1 .", "", "put 1 -1", "2,1 1 .; 2,0 1 .", true}, {"2,1 1 .", "", "put 1 -2", "2,1 1 .", false}, {"2,1 1 .", "", "put 0 8", "2,1 1 .; 10,1 1 .", true}, {"2,1 1 .", "", "put 0 9", "2,1 1 .", false}, {"2,1 1 .", "", "put 0 38", "2,1 1 .", false}, {"2,1 1 .", "", "put 0 0", "2,1 1 .", false}, {"2,1 1 .", "", "put 2 1", "2,1 1 .", false}, {"2,1 1 .", "", "put -1 1", "2,1 1 .", false}, {"2,1 1 a", "", "put 0 1", "2,1 1 a", false},
		{"2,1 1 .", "", "step 3", "2,1 1 .; 2,1 3 .", true}, {"2,1 1 .", "", "step -1", "2,1 1 .; 2,1 -1 .", true}, {"2,1 1 .", "", "step 1", "2,1 1 .", false}, {"2,1 1 .", "", "step 4", "2,1 1 .", false}, {"2,1 1 .", "", "step -2", "2,1 1 .", false}, {"2,1 1 a", "", "step 2", "2,1 1 a", false},
		{"2,1 1 .", "", "draw 0", "2,1 1 .; 2,1 1 a", true}, {"2,1 1 ab", "", "draw 1", "2,1 1 ab; 2,1 1 abb", true}, {"2,1 1 ab", "", "draw 2", "2,1 1 ab", false}, {"2,1 1 ab", "", "draw -1", "2,1 1 ab", false}, {"2,1 -1 ab", "", "draw 1", "2,1 -1 ab", false}, {"2,1 -1 ab", "", "draw 0", "2,1 -1 ab; 2,1 -1 aba", true}, {"0,1 1 .", "", "draw 0", "0,1 1 .", false}, {"1 0 aaaaa", "", "draw 0", "1 0 aaaaa; 1 0 aaaaaa", true}, {"1 0 aaaaaa", "", "draw 0", "1 0 aaaaaa", false},
		{"2,1 1 ab", "", "again", "2,1 1 ab; 2,1 1 .", true}, {"2,1 1 .", "", "again", "2,1 1 .", false}, {"2,1 1 ab", "", "back", "2,1 1 ab", false}, {"2,1 1 ab", "3 -1 .", "back", "3 -1 .", true}, {"2,1 1 ab", "0 0 .,1 0 .", "back", "0 0 .; 1 0 .", true}, {"2,1 1 ab", "2,1 1 ab", "back", "2,1 1 ab", true},
		{"2,1 1 ab", "0 0 .,1 0 .,2 0 .,3 0 .,4 0 .,5 0 .,6 0 .", "draw 0", "0 0 .; 1 0 .; 2 0 .; 3 0 .; 4 0 .; 5 0 .; 6 0 .; 2,1 1 ab; 2,1 1 aba", true}, {"2,1 1 ab", "0 0 .,1 0 .,2 0 .,3 0 .,4 0 .,5 0 .,6 0 .,7 0 .", "draw 0", "1 0 .; 2 0 .; 3 0 .; 4 0 .; 5 0 .; 6 0 .; 7 0 .; 2,1 1 ab; 2,1 1 aba", true}, {"2,1 1 ab", "0 0 .,1 0 .,2 0 .,3 0 .,4 0 .,5 0 .,6 0 .,7 0 .", "draw 2", "0 0 .; 1 0 .; 2 0 .; 3 0 .; 4 0 .; 5 0 .; 6 0 .; 7 0 .; 2,1 1 ab", false},
	} {
		var past []string
		for text := range strings.SplitSeq(strings.ReplaceAll(c.past, ".,", ".;"), ";") {
			if text != "" {
				past = append(past, text)
			}
		}
		if got, ok := impl.DeskDo(deskOf(c.now, past...), deedOf(c.deed)); writtenDesk(got) != c.want || ok != c.ok {
			t.Error(c, writtenDesk(got), ok)
		}
	}
}

func TestNumbersThatAreNotNamedAreNothing(t *testing.T) {
	desk := deskOf("2,1 1 .", "2,1 1 ab")
	for _, other := range append(extremes(), -99, -1, 1, 2, 99) {
		for _, deed := range []impl.Deed{{Kind: impl.DkStep, A: 2, B: other}, {Kind: impl.DkDraw, A: 1, B: other}, {Kind: impl.DkBack, A: other}, {Kind: impl.DkBack, B: other}, {Kind: impl.DkBack, A: other, B: other}} {
			if got, ok := impl.DeskDo(desk, deed); ok || !sameDesk(got, desk) {
				t.Error(deed, got, ok)
			}
		}
		drawnDesk := deskOf("2,1 1 ab", "2,1 1 .")
		for _, deed := range []impl.Deed{{Kind: impl.DkAgain, A: other}, {Kind: impl.DkAgain, B: other}, {Kind: impl.DkAgain, A: other, B: -other}} {
			if got, ok := impl.DeskDo(drawnDesk, deed); ok || !sameDesk(got, drawnDesk) {
				t.Error(deed, got, ok)
			}
		}
	}
}

func TestWhatWasDoneCanBeUndone(t *testing.T) {
	done := 0
	for _, desk := range someDesks() {
		for _, deed := range someDeeds() {
			want, wantOk := doneByHand(desk, deed)
			got, ok := impl.DeskDo(desk, deed)
			if ok != wantOk || !sameDesk(got, want) || !impl.DeskOk(got) || !ok && !sameDesk(got, desk) {
				t.Fatal(desk, deed, got, ok)
			}
			if !ok || deed.Kind == impl.DkBack {
				continue
			}
			done++
			back, isBack := impl.DeskDo(got, impl.Deed{Kind: impl.DkBack})
			if !isBack || writtenPlace(back.Now) != writtenPlace(desk.Now) || len(desk.Past) < 8 && !sameDesk(back, desk) {
				t.Fatal(desk, deed, back)
			}
		}
	}
	if done == 0 {
		t.Error("none")
	}
}

func TestADrawHasTheWaysOfBeforeTimesItsBalls(t *testing.T) {
	withPlaces(func(p impl.Place) {
		desk := impl.Desk{Now: p}
		rule := impl.SameRule(len(p.Start), p.Step)
		behind, _ := impl.AfterWord(p.Start, rule, p.Word)
		for colour := range p.Start {
			got, ok := impl.DeskDo(desk, impl.Deed{Kind: impl.DkDraw, A: colour})
			if ok != (behind[colour] > 0 && len(p.Word) < 6) {
				t.Fatal(p, colour, got)
			}
			if ok && impl.RuleWays(p.Start, rule, got.Now.Word) != impl.RuleWays(p.Start, rule, p.Word)*behind[colour] {
				t.Fatal(p, colour, got)
			}
		}
	})
}

func TestOtherKindsOfDeedsCannotBeDone(t *testing.T) {
	for _, desk := range someDesks() {
		for _, deed := range otherKinds() {
			if got, ok := impl.DeskDo(desk, deed); ok || !sameDesk(got, desk) {
				t.Error(desk, deed, got, ok)
			}
		}
	}
}

func TestNoDeskDo(t *testing.T) {
	for _, desk := range noDesks() {
		for _, deed := range append(deedsOf("put 0 1, step 2, draw 0, again, back"), impl.Deed{Kind: 5}, impl.Deed{Kind: -1, B: 1}) {
			if got, ok := impl.DeskDo(desk, deed); ok || !noDesk(got) {
				t.Error(desk, deed, got, ok)
			}
		}
	}
}

// Promise 105.

func TestDesksCanForget(t *testing.T) {
	for _, desk := range someDesks() {
		if !impl.DeskOk(desk) || !impl.DeskOk(impl.Desk{Now: desk.Now}) || !impl.DeskOk(impl.Desk{Now: desk.Now, Past: []impl.Place{}}) {
			t.Error(desk)
		}
		for at := range desk.Past {
			if !impl.DeskOk(impl.Desk{Now: desk.Past[at], Past: desk.Past[:at]}) {
				t.Error(desk, at)
			}
		}
	}
}

func TestDesksOfJustMaxPastPlacesAndOneMore(t *testing.T) {
	for _, text := range placeTexts() {
		place := placeOf(text)
		for many := range 20 {
			if got := impl.DeskOk(impl.Desk{Now: place, Past: slices.Repeat([]impl.Place{place}, many)}); got != (many <= 8) {
				t.Error(text, many, got)
			}
		}
	}
}

func TestOthersAreNoDesks(t *testing.T) {
	for _, desk := range noDesks() {
		if impl.DeskOk(desk) {
			t.Error(desk)
		}
	}
	good, wrong := placeOf("2,1 1 ab"), placeOf("2,1 -1 bb")
	for many := 1; many <= 8; many++ {
		for at := range many {
			past := slices.Repeat([]impl.Place{good}, many)
			past[at] = wrong
			if impl.DeskOk(impl.Desk{Now: good, Past: past}) {
				t.Error(many, at)
			}
		}
	}
}

// Promise 106.

func TestNewDesksHaveOnePlace(t *testing.T) {
	withPlaces(func(p impl.Place) {
		got, ok := impl.DeskNew(p)
		if !ok || !impl.DeskOk(got) || len(got.Past) != 0 || writtenPlace(got.Now) != writtenPlace(p) {
			t.Error(p, got, ok)
		}
	})
}

func TestNoNewDesks(t *testing.T) {
	for _, place := range noPlaces() {
		if got, ok := impl.DeskNew(place); ok || !noDesk(got) {
			t.Error(place, got, ok)
		}
	}
}

// Promise 107.

func TestDeedTexts(t *testing.T) {
	for _, c := range []struct {
		deed impl.Deed
		want string
	}{
		{impl.Deed{}, "put 0 0"}, {impl.Deed{Kind: impl.DkPut, A: 1, B: -3}, "put 1 -3"}, {impl.Deed{Kind: impl.DkPut, A: -99, B: 99}, "put -99 99"}, {impl.Deed{Kind: impl.DkPut, A: 99, B: -99}, "put 99 -99"}, {impl.Deed{Kind: impl.DkPut, A: 100}, ""}, {impl.Deed{Kind: impl.DkPut, A: -100}, ""}, {impl.Deed{Kind: impl.DkPut, B: 100}, ""}, {impl.Deed{Kind: impl.DkPut, B: -100}, ""}, {impl.Deed{Kind: impl.DkPut, A: 10, B: 40}, "put 10 40"},
		{impl.Deed{Kind: impl.DkStep, A: -1}, "step -1"}, {impl.Deed{Kind: impl.DkStep}, "step 0"}, {impl.Deed{Kind: impl.DkStep, A: 99}, "step 99"}, {impl.Deed{Kind: impl.DkStep, A: -99}, "step -99"}, {impl.Deed{Kind: impl.DkStep, A: 100}, ""}, {impl.Deed{Kind: impl.DkStep, A: -100}, ""}, {impl.Deed{Kind: impl.DkStep, A: 1, B: 1}, ""}, {impl.Deed{Kind: impl.DkStep, B: -1}, ""},
		{impl.Deed{Kind: impl.DkDraw, A: 2}, "draw 2"}, {impl.Deed{Kind: impl.DkDraw}, "draw 0"}, {impl.Deed{Kind: impl.DkDraw, A: -99}, "draw -99"}, {impl.Deed{Kind: impl.DkDraw, A: 99}, "draw 99"}, {impl.Deed{Kind: impl.DkDraw, A: 100}, ""}, {impl.Deed{Kind: impl.DkDraw, A: -100}, ""}, {impl.Deed{Kind: impl.DkDraw, A: 2, B: 2}, ""},
		{impl.Deed{Kind: impl.DkAgain}, "again"}, {impl.Deed{Kind: impl.DkAgain, A: 1}, ""}, {impl.Deed{Kind: impl.DkAgain, B: 1}, ""}, {impl.Deed{Kind: impl.DkAgain, A: 1, B: -1}, ""}, {impl.Deed{Kind: impl.DkBack}, "back"}, {impl.Deed{Kind: impl.DkBack, A: -1}, ""}, {impl.Deed{Kind: impl.DkBack, B: 99}, ""},
		{impl.Deed{Kind: 5}, ""}, {impl.Deed{Kind: -1}, ""}, {impl.Deed{Kind: math.MaxInt}, ""}, {impl.Deed{Kind: math.MinInt}, ""}, {impl.Deed{A: math.MaxInt}, ""}, {impl.Deed{A: math.MinInt}, ""}, {impl.Deed{B: math.MaxInt}, ""}, {impl.Deed{B: math.MinInt}, ""}, {impl.Deed{Kind: impl.DkStep, A: math.MinInt}, ""}, {impl.Deed{Kind: impl.DkDraw, A: math.MaxInt}, ""},
	} {
		if got := impl.DeedText(c.deed); got != c.want {
			t.Error(c, got)
		}
	}
}

func TestTextsOfDeedsAreRead(t *testing.T) {
	for kind := -1; kind <= 5; kind++ {
		for a := -101; a <= 101; a++ {
			for b := -101; b <= 101; b++ {
				deed := impl.Deed{Kind: kind, A: a, B: b}
				text := impl.DeedText(deed)
				if text != writtenDeed(deed) {
					t.Fatal(deed, text)
				}
				if got, ok := impl.ReadDeed(text); ok != (text != "") || ok && got != deed || !ok && got != (impl.Deed{}) {
					t.Fatal(deed, text, got, ok)
				}
			}
		}
	}
}

func TestNoTextsOfNoDeeds(t *testing.T) {
	for _, deed := range someDeeds() {
		if got := impl.DeedText(deed); got != writtenDeed(deed) {
			t.Error(deed, got)
		}
	}
	for _, deed := range otherKinds() {
		if got := impl.DeedText(deed); got != "" {
			t.Error(deed, got)
		}
	}
}

// Promise 108.

// unreadDeeds checks that texts are read as deeds just if they are texts of such.
func unreadDeeds(t *testing.T, texts []string) {
	t.Helper()
	for _, text := range texts {
		got, ok := impl.ReadDeed(text)
		if ok != isDeedText(text) || ok && impl.DeedText(got) != text || !ok && got != (impl.Deed{}) {
			t.Errorf("%.60q %v %v", text, got, ok)
		}
	}
}

func TestOtherTextsAreNoDeeds(t *testing.T) {
	texts := []string{
		"", " ", "  ", "put", "put ", "put 0", "put 0 ", "put  0", "put 0  1", "put  0 1", "put 0 1 ", " put 0 1", "put 0 1 2", "put 0,1", "put,0,1", "put 0 +1", "put +0 1", "put -0 1", "put 0 -0", "put 00 1", "put 0 01", "put 0 -01", "put 0 100", "put 100 0", "put -100 0", "put 0 -100", "put 0 1.", "put 0 .", "put a 1", "put 0 b", "put - 1", "put 0 --1", "put 0 1-", "PUT 0 1", "Put 0 1", "pu 0 1", "putt 0 1", "put0 1", "put\t0\t1", "put 0 1\n", "put 0 0x1", "put 0 1_0", "put 0 1e1",
		"step", "step ", "step  1", "step 1 ", "step 1 0", "step 1 1", "step +1", "step -0", "step 01", "step 100", "step -100", "STEP 1", "draw", "draw ", "draw 1 0", "draw a", "draw 1,", "draw -01", "draw 00", "draw 0 0 0", "Draw 0", "again ", " again", "again 0", "again 0 0", "Again", "AGAIN", "agai", "againn", "back ", "back 0", "back 1", "back 0 0", "backback", "BACK", "bac", "place", "ok", "not", "0", "0 0 0", "1 1", ".", "-1", "\x00", "\xff", "back\x00", "back\n", "\nback", "draw ０", "draw 1\r",
	}
	for _, text := range texts {
		if got, ok := impl.ReadDeed(text); ok || got != (impl.Deed{}) {
			t.Errorf("%q %v", text, got)
		}
	}
	unreadDeeds(t, texts)
	unreadDeeds(t, longTexts())
}

func TestReadDeedsAreCanonical(t *testing.T) {
	for _, text := range []string{"put 0 0", "put 1 -3", "put -99 99", "put 10 -10", "step -1", "step 3", "step 99", "draw 0", "draw 2", "draw -99", "again", "back"} {
		if got, ok := impl.ReadDeed(text); !ok || got != deedOf(text) {
			t.Error(text, got, ok)
		}
		for _, spaced := range []string{text + " ", " " + text} {
			if got, ok := impl.ReadDeed(spaced); ok || got != (impl.Deed{}) {
				t.Error(spaced, got)
			}
		}
		unreadDeeds(t, spoiled(text))
	}
}

func TestTextsOfDeedsByPartsAreReadIfTheyAreThoseOfDeeds(t *testing.T) {
	numbers := []string{"", " ", " 0", " 1", " -1", " 99", " -99", " 100", " -100", " 00", " 01", " -0", " +1", " 1.0", " a", "0"}
	for _, word := range []string{"", "put", "step", "draw", "again", "back", "place", "Put", "ste"} {
		for _, first := range numbers {
			for _, second := range numbers {
				for _, end := range []string{"", " ", " 0", "\n"} {
					unreadDeeds(t, []string{word + first + second + end})
				}
			}
		}
	}
}

// Promise 109.

func TestJournalTexts(t *testing.T) {
	for _, c := range []struct {
		list []impl.Deed
		want string
	}{
		{nil, ""}, {[]impl.Deed{}, ""}, {deedsOf("draw 1, again"), "draw 1\nagain\n"}, {deedsOf("back"), "back\n"}, {deedsOf("put 0 -99, put 0 0, step 99, draw -1"), "put 0 -99\nput 0 0\nstep 99\ndraw -1\n"},
		{[]impl.Deed{{Kind: 5}}, ""}, {[]impl.Deed{{Kind: impl.DkBack}, {Kind: impl.DkBack, A: 1}}, ""}, {[]impl.Deed{{Kind: impl.DkStep, A: 100}, {Kind: impl.DkBack}}, ""}, {[]impl.Deed{{}, {Kind: -1}, {}}, ""}, {[]impl.Deed{{B: math.MaxInt}}, ""},
	} {
		if got := impl.JournalText(c.list); got != c.want {
			t.Errorf("%v %q", c, got)
		}
	}
}

func TestJournalsAreRead(t *testing.T) {
	for _, list := range journals() {
		text := impl.JournalText(list)
		if got, bytes := impl.ReadJournal(text); text != writtenJournal(list) || !slices.Equal(got, list) || bytes != len(text) {
			t.Errorf("%v %q %v %d", list, text, got, bytes)
		}
	}
}

func TestNoTextsOfJournalsWithADeedThatHasNone(t *testing.T) {
	for _, list := range journals() {
		for at := 0; at <= len(list); at += 1 + len(list)/7 {
			for _, wrong := range []impl.Deed{{Kind: 5}, {Kind: -1}, {A: 100}, {B: -100}, {Kind: impl.DkStep, B: 1}, {Kind: impl.DkDraw, A: math.MinInt}, {Kind: impl.DkAgain, A: 1}, {Kind: impl.DkBack, B: 1}} {
				if got := impl.JournalText(slices.Insert(slices.Clone(list), at, wrong)); got != "" {
					t.Errorf("%v %d %v %q", list, at, wrong, got)
				}
			}
		}
	}
}

// Promise 110.

func TestDeskLine(t *testing.T) {
	for _, c := range []struct {
		place   string
		answers map[string]string
	}{
		{"2,1 1 ab", map[string]string{"place": "2,1 1 ab", "urn": "3,2", "ways": "2", "all": "12", "counts": "1,1", "same": "4", "runs": "2", "longest": "1", "chance 0": "3/5", "chance 1": "2/5", "chance 2": "none", "share 0": "40", "share 1": "20", "share 2": "none", "term ab|ba": "4", "term a": "2", "term .": "3", "term aa": "6", "term ......": "20160", "term a|bb": "what", "term c": "what"}},
		{"3,2 0 aab", map[string]string{"place": "3,2 0 aab", "urn": "3,2", "ways": "18", "all": "125", "counts": "2,1", "same": "54", "runs": "2", "longest": "2", "chance 0": "3/5", "chance 1": "2/5", "share 0": "375", "share 1": "250", "term aab": "18", "term a(b|a)": "15"}},
		{"2,1 1 .", map[string]string{"place": "2,1 1 .", "urn": "2,1", "ways": "1", "all": "1", "counts": "0,0", "same": "1", "runs": "0", "longest": "0", "chance 0": "2/3", "chance 1": "1/3", "share 0": "2", "share 1": "1", "share 2": "none", "term b": "1"}},
		{"0,0 -1 .", map[string]string{"place": "0,0 -1 .", "urn": "0,0", "ways": "1", "all": "1", "counts": "0,0", "same": "1", "runs": "0", "longest": "0", "chance 0": "none", "chance 1": "none", "chance 2": "none", "share 0": "0", "share 1": "0", "share 2": "none", "term a": "0", "term ..": "0"}},
		{"1,1 -1 ba", map[string]string{"place": "1,1 -1 ba", "urn": "0,0", "ways": "1", "all": "2", "counts": "1,1", "same": "2", "runs": "2", "longest": "1", "chance 0": "none", "share 0": "0", "share 1": "0", "share 999999": "none", "term ab|ba": "2", "term aa": "0", "term ...": "0"}},
		{"10 -1 aaaaaa", map[string]string{"place": "10 -1 aaaaaa", "urn": "4", "ways": "151200", "all": "151200", "counts": "6", "same": "151200", "runs": "1", "longest": "6", "chance 0": "1/1", "chance 1": "none", "share 0": "604800", "share 1": "none", "term a.a": "720", "term b": "what"}},
		{"10,10,10 3 abcabc", map[string]string{"place": "10,10,10 3 abcabc", "urn": "16,16,16", "ways": "2197000", "all": "2627024400", "counts": "2,2,2", "same": "197730000", "runs": "6", "longest": "1", "chance 2": "1/3", "chance 3": "none", "share 1": "42032390400", "share 3": "none", "term c": "10", "term ......": "2627024400", "term abcabc": "2197000", "term a(b(c(a(bc))))": "2197000", "term a(b)cabc": "what", "term (abc)(abc)": "what", "term abcabc|......": "what"}},
		{"0,1 3 bb", map[string]string{"place": "0,1 3 bb", "urn": "0,7", "ways": "4", "all": "4", "counts": "0,2", "same": "4", "runs": "1", "longest": "2", "chance 0": "0/1", "chance 1": "1/1", "share 0": "0", "share 1": "28", "term ab": "0", "term .b": "4"}},
		{"4,5,6 0 .", map[string]string{"urn": "4,5,6", "counts": "0,0,0", "chance 0": "4/15", "chance 1": "1/3", "chance 2": "2/5", "chance 999999": "none", "chance 100000": "none", "share 2": "6", "term a|(b|c)": "15"}},
	} {
		desk := deskOf(c.place, "1 0 .")
		for line, want := range c.answers {
			if got, answer := impl.DeskLine(desk, line); answer != want || !sameDesk(got, desk) {
				t.Error(c.place, line, answer, want)
			}
		}
	}
}

func TestQuestionsAreAnsweredByTheChaptersBefore(t *testing.T) {
	number := 0
	withPlaces(func(p impl.Place) {
		number++
		if number%23 > 0 {
			return
		}
		desk := impl.Desk{Now: p}
		for _, line := range questionLines() {
			if got, answer := impl.DeskLine(desk, line); answer != answerByHand(p, line) || !sameDesk(got, desk) {
				t.Fatal(p, line, answer, got)
			}
		}
	})
}

func TestOtherLinesAreAnsweredByWhat(t *testing.T) {
	for _, text := range []string{"2,1 1 ab", "2,1 1 .", "0,0 -1 .", "10 -1 aaaaaa", "10,10 3 ababab"} {
		desk := deskOf(text, "1 0 .")
		for _, line := range otherLines() {
			if got, answer := impl.DeskLine(desk, line); answer != "what" || !sameDesk(got, desk) {
				t.Errorf("%s %q %s %v", text, line, answer, got)
			}
		}
		for _, line := range longTexts() {
			if isDeedText(line) {
				continue
			}
			if got, answer := impl.DeskLine(desk, line); answer != answerByHand(desk.Now, line) || !sameDesk(got, desk) {
				t.Errorf("%s %.60q %s %v", text, line, answer, got)
			}
		}
	}
}

func TestDeedsInLinesAreDone(t *testing.T) {
	for _, desk := range someDesks() {
		for _, deed := range someDeeds() {
			line := writtenDeed(deed)
			if line == "" {
				continue
			}
			want, done := doneByHand(desk, deed)
			wantAnswer := "not"
			if done {
				wantAnswer = "ok"
			}
			if got, answer := impl.DeskLine(desk, line); answer != wantAnswer || !sameDesk(got, want) {
				t.Fatal(desk, line, answer, got)
			}
		}
	}
}

func TestQuestionsChangeNothing(t *testing.T) {
	lines := slices.Concat(questionLines(), otherLines(), []string{"put 0 1", "put 0 0", "step 3", "step 99", "draw 0", "draw 1", "draw -1", "again", "back"})
	for _, desk := range someDesks() {
		for _, line := range lines {
			got, answer := impl.DeskLine(desk, line)
			if !impl.DeskOk(got) || answer == "" || answer != "ok" && !sameDesk(got, desk) || answer == "ok" && !isDeedText(line) {
				t.Fatal(desk, line, answer, got)
			}
		}
		if got, answer := impl.DeskLine(desk, ""); answer != "what" || !sameDesk(got, desk) {
			t.Fatal(desk, answer, got)
		}
	}
}

func TestSpoiledLines(t *testing.T) {
	desk := deskOf("2,1 1 ab", "3 -1 .")
	for _, text := range []string{"place", "urn", "longest", "chance 0", "chance 10", "share 1", "term ab|ba", "draw 1", "back"} {
		for _, line := range spoiled(text) {
			if isDeedText(line) {
				continue
			}
			if got, answer := impl.DeskLine(desk, line); answer != answerByHand(desk.Now, line) || !sameDesk(got, desk) {
				t.Errorf("%q %s %v", line, answer, got)
			}
		}
	}
}

func TestNoDeskLine(t *testing.T) {
	for _, desk := range noDesks() {
		for _, line := range []string{"", "x", "place", "urn", "chance 0", "share 0", "term a", "draw 0", "back"} {
			if got, answer := impl.DeskLine(desk, line); !noDesk(got) || answer != "" {
				t.Error(desk, line, got, answer)
			}
		}
	}
}

// The general rules: results share no memory, arguments are not written to, nothing is kept.

func TestStoreConstants(t *testing.T) {
	if !slices.Equal([]int{impl.DkPut, impl.DkStep, impl.DkDraw, impl.DkAgain, impl.DkBack, impl.MaxPast, impl.MaxLines, impl.MaxLog}, []int{0, 1, 2, 3, 4, 8, 40, 1000}) {
		t.Error("constants")
	}
}

// roomyPlace returns a place whose rows have spare capacity.
func roomyPlace(p impl.Place) impl.Place {
	return impl.Place{Start: roomy(p.Start), Step: p.Step, Word: roomy(p.Word)}
}

// roomyDesk returns a desk whose rows and places of before have spare capacity.
func roomyDesk(d impl.Desk) impl.Desk {
	past := roomy(d.Past)
	for i, before := range past {
		past[i] = roomyPlace(before)
	}
	return impl.Desk{Now: roomyPlace(d.Now), Past: past}
}

// unwrittenPlace checks that a place, given with spare capacity of zeros, is as it was.
func unwrittenPlace(t *testing.T, want, p impl.Place) {
	t.Helper()
	unwritten(t, want.Start, p.Start)
	unwritten(t, want.Word, p.Word)
	if p.Step != want.Step {
		t.Fatal(want, p)
	}
}

// unwrittenDesk checks that a desk, given with spare capacity of zero values, is as it was.
func unwrittenDesk(t *testing.T, want, d impl.Desk) {
	t.Helper()
	unwrittenPlace(t, want.Now, d.Now)
	for i, before := range d.Past {
		unwrittenPlace(t, want.Past[i], before)
	}
	if len(d.Past) != len(want.Past) || slices.ContainsFunc(d.Past[len(d.Past):cap(d.Past)], func(p impl.Place) bool { return !noPlace(p) }) {
		t.Fatal(want, d.Past[:cap(d.Past)])
	}
}

// rowsApart checks that no two rows of these desks share memory, those in spare capacity among them: each one is written all over with a number of its own, and so are all places of before.
func rowsApart(t *testing.T, desks ...impl.Desk) {
	t.Helper()
	var rows [][]int
	for number, desk := range desks {
		rows = append(rows, desk.Now.Start, desk.Now.Word)
		for k, before := range desk.Past[:cap(desk.Past)] {
			rows = append(rows, before.Start, before.Word)
			desk.Past[:cap(desk.Past)][k].Step = 1000*number + k
		}
	}
	for i, row := range rows {
		touchedWith(row, 1000+i)
	}
	for i, row := range rows {
		if slices.ContainsFunc(row[:cap(row)], func(n int) bool { return n != 1000+i }) {
			t.Fatal(i, row)
		}
	}
	for number, desk := range desks {
		for k, before := range desk.Past[:cap(desk.Past)] {
			if before.Step != 1000*number+k {
				t.Fatal(number, k, before.Step)
			}
		}
	}
}

// desksApart checks that the desk made of a desk shares no memory with that, nor with the next one that is made, nor with itself.
func desksApart(t *testing.T, desk impl.Desk, made func(d impl.Desk) impl.Desk) {
	t.Helper()
	given := roomyDesk(desk)
	first := made(given)
	unwrittenDesk(t, desk, given)
	second := made(given)
	if !sameDesk(first, second) {
		t.Fatal(first, second)
	}
	rowsApart(t, given, first, second)
}

func TestPlacesShareNoMemory(t *testing.T) {
	for _, text := range placeTexts() {
		want := placeOf(text)
		place := roomyPlace(want)
		impl.PlaceOk(place)
		impl.PlaceText(place)
		impl.StoreNew(place)
		first, _ := impl.DeskNew(place)
		second, _ := impl.DeskNew(place)
		third, _ := impl.ReadPlace(text)
		fourth, _ := impl.ReadPlace(text)
		unwrittenPlace(t, want, place)
		rowsApart(t, impl.Desk{Now: place}, first, second, impl.Desk{Now: third}, impl.Desk{Now: fourth})
	}
}

func TestDesksShareNoMemory(t *testing.T) {
	for i, desk := range someDesks() {
		for _, deed := range append(deedsOf("put 0 1, put 0 -1, step 2, step 0, draw 0, draw 1, again, back, put 0 0"), impl.Deed{Kind: 7}) {
			desksApart(t, desk, func(d impl.Desk) impl.Desk {
				after, _ := impl.DeskDo(d, deed)
				return after
			})
		}
		for _, line := range []string{"place", "x", "draw 0", "again", "back", "step 1", "put 0 2", "counts", "urn"} {
			desksApart(t, desk, func(d impl.Desk) impl.Desk {
				after, _ := impl.DeskLine(d, line)
				return after
			})
		}
		for many := range 30 {
			list, lines := mixedDeeds(i, many), someLines(i, many)
			desksApart(t, desk, func(d impl.Desk) impl.Desk {
				after, _ := impl.DeskRun(d, list)
				return after
			})
			desksApart(t, desk, func(d impl.Desk) impl.Desk {
				after, _ := impl.DeskSay(d, lines)
				return after
			})
		}
		given := roomyDesk(desk)
		impl.DeskOk(given)
		unwrittenDesk(t, desk, given)
	}
}

// Of a desk whose places are all the same memory one is made whose places are not.
func TestPlacesOfADeskMayShareMemory(t *testing.T) {
	place := placeOf("2,1 1 ab")
	for many := range 9 {
		desk := impl.Desk{Now: place, Past: slices.Repeat([]impl.Place{place}, many)}
		for _, deed := range deedsOf("draw 0, again, back, step 2") {
			after, _ := impl.DeskDo(desk, deed)
			rowsApart(t, after)
			if writtenPlace(place) != "2,1 1 ab" {
				t.Fatal(place)
			}
		}
	}
}

func TestJournalsAndAnswersAreNewMemory(t *testing.T) {
	desk := deskOf("2,1 1 ab", "3 -1 .")
	for i, list := range journals() {
		text := writtenJournal(list)
		newEachTimeOf(t, impl.Deed{Kind: -77}, func() []impl.Deed {
			got, _ := impl.ReadJournal(text)
			return got
		})
		given := roomy(list)
		impl.JournalText(given)
		impl.DeskRun(desk, given)
		unwritten(t, list, given)
		lines := roomy(someLines(i, i))
		newEachTimeOf(t, "touched", func() []string {
			_, answers := impl.DeskSay(desk, lines)
			return answers
		})
		unwritten(t, someLines(i, i), lines)
	}
}

func TestWhatIsNoneIsNotWritten(t *testing.T) {
	for _, want := range noDesks() {
		desk := roomyDesk(want)
		impl.DeskOk(desk)
		impl.DeskDo(desk, impl.Deed{Kind: impl.DkDraw})
		impl.DeskRun(desk, deedsOf("draw 0, back"))
		impl.DeskLine(desk, "draw 0")
		impl.DeskSay(desk, []string{"again", "back"})
		impl.PlaceText(desk.Now)
		impl.DeskNew(desk.Now)
		impl.StoreNew(desk.Now)
		unwrittenDesk(t, want, desk)
	}
}
