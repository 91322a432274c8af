package tests

import (
	"math"
	"slices"
	"strings"
	"testing"

	"loop.example/urnsandballs/impl"
)

// logOf returns a log of whole lines with just so many bytes, 24 or more.
func logOf(bytes int) string {
	log := strings.Repeat("again\n", bytes%5)
	log += strings.Repeat("draw 0\nback\n", (bytes-len(log))/60*5)
	return log + strings.Repeat("back\n", (bytes-len(log))/5)
}

// logs returns logs without bytes, with whole lines, and torn ones, in the midst of a line, just ahead of its newline, and with what is no deed; some have just MaxLog bytes.
func logs() []string {
	texts := []string{"\n", "again", "agai", "back\n\n", logOf(1000), logOf(999), logOf(24) + "put 0 -9", logOf(996) + "back", logOf(990) + "\xff\nagain\n\x00x", strings.Repeat("x", 1000), strings.Repeat("\n", 1000)}
	for i, many := range []int{0, 1, 2, 3, 7, 12, 30} {
		text := writtenJournal(mixedDeeds(i+3, many))
		texts = append(texts, text, text+"agai", text+"again", text+"\nback\n", text+"x\nback\n", text+"\xff\x00", text[:len(text)/2], text[:max(0, len(text)-1)])
	}
	return texts
}

// withStores visits stores of all kinds of places and logs, of which no byte is sure, or some, or all.
func withStores(visit func(s impl.Store)) {
	for _, saved := range placeTexts() {
		for _, log := range logs() {
			sures := []int{0, len(log) / 3, max(0, len(log)-1), len(log)}
			for _, sure := range slices.Compact(sures) {
				visit(impl.Store{Saved: saved, Log: log, Sure: sure})
			}
		}
	}
}

// withSomeStores visits each so manieth store.
func withSomeStores(every int, visit func(s impl.Store)) {
	number := 0
	withStores(func(s impl.Store) {
		if number%every == 0 {
			visit(s)
		}
		number++
	})
}

// noStores returns what is no store: with a saved text that is none, a log of too many bytes, or fewer sure bytes than none, or more than there are.
func noStores() []impl.Store {
	stores := []impl.Store{{}, {Log: "back\n", Sure: 5}, {Saved: "2,1 1 ab\n"}, {Saved: "2,1 1 ab "}, {Saved: "2,1 1 abd", Log: "back\n"}, {Saved: "2,1 1"}, {Saved: "2,1 1 .."}, {Saved: "11 1 ."}, {Saved: "0,1 1 a"}, {Saved: "2,1 -0 ."}}
	for _, text := range append(spoiled("2,1 -1 ab"), longTexts()...) {
		if !isPlaceText(text) {
			stores = append(stores, impl.Store{Saved: text}, impl.Store{Saved: text, Log: "draw 0\n", Sure: 7})
		}
	}
	for _, log := range []string{"", "back\n", "draw 0\nag", logOf(1000), logOf(500)} {
		for _, sure := range append(extremes(), -2, -1, len(log)+1, len(log)+2) {
			if sure < 0 || sure > len(log) {
				stores = append(stores, impl.Store{Saved: "2,1 1 ab", Log: log, Sure: sure})
			}
		}
	}
	for _, log := range []string{logOf(1001), logOf(1002), logOf(1000) + "\n", strings.Repeat("x", 1001), strings.Repeat("\n", 1001), logOf(1 << 20)} {
		stores = append(stores, impl.Store{Saved: "2,1 1 ab", Log: log}, impl.Store{Saved: "2,1 1 ab", Log: log, Sure: 1000}, impl.Store{Saved: "2,1 1 ab", Log: log, Sure: len(log)})
	}
	return stores
}

// openedByHand returns the desk of a store.
func openedByHand(s impl.Store) impl.Desk {
	list, _ := readByHand(s.Log)
	desk, _ := allByHand(impl.Desk{Now: placeOf(s.Saved)}, list)
	return desk
}

// actedByHand returns a store after a deed, and whether it is acted.
func actedByHand(s impl.Store, a impl.Deed) (impl.Store, bool) {
	_, read := readByHand(s.Log)
	_, can := doneByHand(openedByHand(s), a)
	log := s.Log + writtenDeed(a) + "\n"
	if !can || read < len(s.Log) || len(log) > 1000 {
		return s, false
	}
	return impl.Store{Saved: s.Saved, Log: log, Sure: s.Sure}, true
}

// opened returns the desk of a store, which must be one.
func opened(t *testing.T, s impl.Store) impl.Desk {
	t.Helper()
	desk, ok := impl.StoreOpen(s)
	if !ok {
		t.Fatal(s)
	}
	return desk
}

// storeMade returns a store that a function has made, which must be told.
func storeMade(t *testing.T, s impl.Store, ok bool) impl.Store {
	t.Helper()
	if !ok || !impl.StoreOk(s) {
		t.Fatal(s, ok)
	}
	return s
}

// noStoreMade checks that a function makes nothing of what is no store.
func noStoreMade(t *testing.T, made func(s impl.Store) (impl.Store, bool)) {
	t.Helper()
	for _, store := range noStores() {
		if got, ok := made(store); ok || got != (impl.Store{}) {
			t.Errorf("%.60q %v %v", store.Saved, got, ok)
		}
	}
}

// Promise 92.

func TestStores(t *testing.T) {
	for _, c := range []struct {
		store impl.Store
		want  bool
	}{
		{impl.Store{}, false}, {impl.Store{Saved: "2,1 1 ab"}, true}, {impl.Store{Saved: "0 0 ."}, true}, {impl.Store{Saved: "2,1 1 ab", Log: "x"}, true}, {impl.Store{Saved: "2,1 1 ab", Log: "x", Sure: 1}, true}, {impl.Store{Saved: "2,1 1 ab", Log: "x", Sure: 2}, false}, {impl.Store{Saved: "2,1 1 ab", Log: "x", Sure: -1}, false}, {impl.Store{Saved: "2,1 1 ab", Sure: 1}, false}, {impl.Store{Saved: "2,1 1 ab", Sure: -1}, false},
		{impl.Store{Saved: "2,1 1 ab", Log: strings.Repeat("x", 1000), Sure: 1000}, true}, {impl.Store{Saved: "2,1 1 ab", Log: strings.Repeat("x", 1000), Sure: 1001}, false}, {impl.Store{Saved: "2,1 1 ab", Log: strings.Repeat("x", 1001)}, false}, {impl.Store{Saved: "2,1 1 ab", Log: strings.Repeat("x", 1001), Sure: 1000}, false},
		{impl.Store{Saved: "2,1 1 ab "}, false}, {impl.Store{Saved: "2,1 1 AB"}, false}, {impl.Store{Saved: "2,1 1 c"}, false}, {impl.Store{Log: "back\n"}, false}, {impl.Store{Saved: "2,1 1 ab", Sure: math.MinInt}, false}, {impl.Store{Saved: "2,1 1 ab", Sure: math.MaxInt}, false},
	} {
		if got := impl.StoreOk(c.store); got != c.want {
			t.Error(c, got)
		}
	}
}

func TestEmptyLogsAreLogs(t *testing.T) {
	withStores(func(s impl.Store) {
		empty := s
		empty.Log, empty.Sure = "", 0
		fewer := s
		fewer.Sure--
		if !impl.StoreOk(s) || !impl.StoreOk(empty) || impl.StoreOk(fewer) != (s.Sure > 0) {
			t.Error(s)
		}
	})
}

func TestOthersAreNoStores(t *testing.T) {
	for _, store := range noStores() {
		if impl.StoreOk(store) {
			t.Error(store)
		}
	}
}

// Promise 93.

func TestNewStoresOpenWithTheirPlace(t *testing.T) {
	withPlaces(func(p impl.Place) {
		store, ok := impl.StoreNew(p)
		desk := opened(t, storeMade(t, store, ok))
		want, _ := impl.DeskNew(p)
		if store != (impl.Store{Saved: writtenPlace(p)}) || !sameDesk(desk, want) || writtenDesk(desk) != writtenPlace(p) {
			t.Error(p, store, desk)
		}
	})
}

func TestNoNewStores(t *testing.T) {
	for _, place := range noPlaces() {
		if got, ok := impl.StoreNew(place); ok || got != (impl.Store{}) {
			t.Error(place, got, ok)
		}
	}
}

// Promise 94.

func TestStoreOpen(t *testing.T) {
	for _, c := range []struct {
		saved, log, want string
	}{
		{"2,1 1 ab", "", "2,1 1 ab"}, {"2,1 1 ab", "draw 1\n", "2,1 1 ab; 2,1 1 abb"}, {"2,1 1 ab", "draw 1", "2,1 1 ab"}, {"2,1 1 ab", "draw 1\nagain\n", "2,1 1 ab; 2,1 1 abb; 2,1 1 ."}, {"2,1 1 ab", "draw 1\naga", "2,1 1 ab; 2,1 1 abb"}, {"2,1 1 ab", "step 2\nback\nagain\nagain\nput 0 -2\n", "2,1 1 ab; 2,1 1 .; 0,1 1 ."}, {"2,1 1 ab", "x\nagain\n", "2,1 1 ab"}, {"2,1 1 ab", "\nagain\n", "2,1 1 ab"}, {"2,1 1 ab", "draw 0\ndraw 9\ndraw 0\n", "2,1 1 ab; 2,1 1 aba; 2,1 1 abaa"},
		{"0 0 .", strings.Repeat("put 0 1\n", 12), "2 0 .; 3 0 .; 4 0 .; 5 0 .; 6 0 .; 7 0 .; 8 0 .; 9 0 .; 10 0 ."}, {"1 0 .", strings.Repeat("draw 0\nback\n", 80), "1 0 ."}, {"1 0 .", strings.Repeat("draw 0\nback\n", 83) + "back", "1 0 ."}, {"1 0 .", strings.Repeat("back\n", 197) + "draw 0\n", "1 0 .; 1 0 a"},
	} {
		if got, ok := impl.StoreOpen(impl.Store{Saved: c.saved, Log: c.log}); !ok || writtenDesk(got) != c.want {
			t.Error(c, writtenDesk(got), ok)
		}
	}
}

func TestOpenedAgainItIsTheSame(t *testing.T) {
	withStores(func(s impl.Store) {
		desk := opened(t, s)
		mended, isMended := impl.StoreMend(s)
		synced, isSynced := impl.StoreSync(s)
		if !impl.DeskOk(desk) || !sameDesk(desk, openedByHand(s)) || !sameDesk(desk, opened(t, storeMade(t, mended, isMended))) || !sameDesk(desk, opened(t, storeMade(t, synced, isSynced))) {
			t.Error(s, desk)
		}
	})
}

func TestNoStoreOpen(t *testing.T) {
	for _, store := range noStores() {
		if got, ok := impl.StoreOpen(store); ok || !noDesk(got) {
			t.Error(store, got, ok)
		}
	}
}

// Promise 95.

// actedDeeds returns deeds that may be acted at some stores, and each so manieth of all, from a number on.
func actedDeeds(from int) []impl.Deed {
	deeds := deedsOf("put 0 1, put 0 -1, put 1 2, step -1, step 0, step 3, draw 0, draw 1, draw 2, again, back")
	all := someDeeds()
	for i := from % 97; i < len(all); i += 97 {
		deeds = append(deeds, all[i])
	}
	return deeds
}

func TestWhatIsActedAtTheStoreIsDoneAtTheDesk(t *testing.T) {
	number, acted := 0, 0
	withSomeStores(5, func(s impl.Store) {
		desk := opened(t, s)
		for _, deed := range actedDeeds(number) {
			want, wantOk := actedByHand(s, deed)
			got, ok := impl.StoreAct(s, deed)
			if got != want || ok != wantOk || got.Sure != s.Sure {
				t.Fatal(s, deed, got, ok)
			}
			after, done := impl.DeskDo(desk, deed)
			if ok && (!done || !sameDesk(opened(t, got), after)) || !ok && got != s {
				t.Fatal(s, deed, got, after)
			}
			if ok {
				acted++
			}
		}
		number++
	})
	if acted == 0 {
		t.Error("none")
	}
}

func TestLogsOfJustMaxLogBytesAndOneMore(t *testing.T) {
	for bytes := 980; bytes <= 1000; bytes++ {
		store := impl.Store{Saved: "2,1 1 .", Log: logOf(bytes-9) + "put 1 -1\n", Sure: bytes}
		for _, deed := range deedsOf("back, draw 0, step -1, put 1 2, put 0 -2") {
			line := writtenDeed(deed) + "\n"
			want, fits := store, bytes+len(line) <= 1000
			if fits {
				want.Log += line
			}
			if got, ok := impl.StoreAct(store, deed); got != want || ok != fits || !impl.StoreOk(got) {
				t.Error(bytes, deed, got, ok)
			}
		}
	}
}

func TestNothingIsActedBehindATornLine(t *testing.T) {
	for _, torn := range []string{"x", "\n", "agai", "again", "draw 0 ", "put 0 1\r\n", "\nback\n", "draw 0\n\n", "draw 0\nback"} {
		store := impl.Store{Saved: "2,1 1 ab", Log: torn}
		for _, deed := range someDeeds() {
			if got, ok := impl.StoreAct(store, deed); ok || got != store {
				t.Error(torn, deed, got)
			}
		}
	}
}

func TestNoStoreAct(t *testing.T) {
	for _, deed := range append(deedsOf("draw 0, again, back, put 0 1"), impl.Deed{Kind: 5}, impl.Deed{Kind: -1, A: 1}) {
		noStoreMade(t, func(s impl.Store) (impl.Store, bool) { return impl.StoreAct(s, deed) })
	}
}

// Promise 96.

func TestWhatIsSureCannotBeLost(t *testing.T) {
	withStores(func(s impl.Store) {
		got, ok := impl.StoreSync(s)
		synced := storeMade(t, got, ok)
		if again, isAgain := impl.StoreSync(synced); synced != (impl.Store{Saved: s.Saved, Log: s.Log, Sure: len(s.Log)}) || again != synced || !isAgain {
			t.Fatal(s, synced, again)
		}
		for left := -1; left <= len(s.Log)+1; left++ {
			crashed, may := impl.StoreCrash(synced, left)
			if may != (left == len(s.Log)) || may && crashed != synced || !may && crashed != (impl.Store{}) {
				t.Fatal(s, left, crashed, may)
			}
		}
	})
}

func TestNoStoreSync(t *testing.T) {
	noStoreMade(t, impl.StoreSync)
}

// Promise 97.

func TestSavedIsSaved(t *testing.T) {
	withStores(func(s impl.Store) {
		got, ok := impl.StoreSave(s)
		saved := storeMade(t, got, ok)
		place := writtenPlace(opened(t, s).Now)
		if saved != (impl.Store{Saved: place}) || writtenDesk(opened(t, saved)) != place || place != writtenPlace(openedByHand(s).Now) {
			t.Fatal(s, saved)
		}
		crashed, may := impl.StoreCrash(saved, 0)
		again, isAgain := impl.StoreSave(saved)
		if crashed != saved || !may || again != saved || !isAgain {
			t.Fatal(s, saved, crashed, again)
		}
		if lost, more := impl.StoreCrash(saved, 1); more || lost != (impl.Store{}) {
			t.Fatal(s, saved, lost)
		}
	})
}

func TestNoStoreSave(t *testing.T) {
	noStoreMade(t, impl.StoreSave)
}

// Promise 98.

func TestStoreCrash(t *testing.T) {
	withStores(func(s impl.Store) {
		for _, left := range append(extremes(), -2, -1, 0, 1, 2, s.Sure-1, s.Sure, s.Sure+1, len(s.Log)-1, len(s.Log), len(s.Log)+1, 1001) {
			got, ok := impl.StoreCrash(s, left)
			if may := left >= s.Sure && left <= len(s.Log); ok != may || !may && got != (impl.Store{}) {
				t.Fatal(s, left, got, ok)
			}
			if ok && (got != impl.Store{Saved: s.Saved, Log: s.Log[:left], Sure: s.Sure} || !impl.StoreOk(got)) {
				t.Fatal(s, left, got)
			}
		}
	})
}

func TestBrokenDownTwiceIsBrokenDownOnce(t *testing.T) {
	withSomeStores(5, func(s impl.Store) {
		for left := s.Sure; left <= len(s.Log); left += 1 + len(s.Log)/100 {
			got, ok := impl.StoreCrash(s, left)
			once := storeMade(t, got, ok)
			if twice, may := impl.StoreCrash(once, left); twice != once || !may || once.Sure != s.Sure {
				t.Fatal(s, left, once, twice)
			}
			for fewer := s.Sure; fewer <= left; fewer += 1 + len(s.Log)/50 {
				twice, may := impl.StoreCrash(once, fewer)
				if atFirst, _ := impl.StoreCrash(s, fewer); twice != atFirst || !may {
					t.Fatal(s, left, fewer, twice)
				}
			}
			if more, may := impl.StoreCrash(once, left+1); may || more != (impl.Store{}) {
				t.Fatal(s, left, more)
			}
		}
	})
}

func TestNoStoreCrash(t *testing.T) {
	for _, left := range append(extremes(), -1, 0, 1, 5, 7, 1000, 1001) {
		noStoreMade(t, func(s impl.Store) (impl.Store, bool) { return impl.StoreCrash(s, left) })
	}
}

// Promise 99.

func TestWhatWasSureIsNeverLost(t *testing.T) {
	withSomeStores(11, func(s impl.Store) {
		all, _ := impl.ReadJournal(s.Log)
		sure, _ := impl.ReadJournal(s.Log[:s.Sure])
		for left := s.Sure; left <= len(s.Log); left++ {
			crashed, ok := impl.StoreCrash(s, left)
			list, _ := impl.ReadJournal(crashed.Log)
			if !ok || len(list) < len(sure) || len(list) > len(all) || !slices.Equal(list, all[:len(list)]) || !slices.Equal(sure, list[:len(sure)]) {
				t.Fatal(s, left, list)
			}
			if left > s.Sure && left < len(s.Log) && left%9 > 0 {
				continue
			}
			desk, _ := impl.DeskNew(placeOf(s.Saved))
			for part := range slices.Chunk(list, 40) {
				desk, _ = impl.DeskRun(desk, part)
			}
			if got := opened(t, crashed); !sameDesk(got, desk) {
				t.Fatal(s, left, got, desk)
			}
		}
	})
}

// Promise 100.

func TestByAnyWayItIsTheSamePlace(t *testing.T) {
	for i, text := range placeTexts() {
		for _, many := range []int{0, 1, 5, 20, 60} {
			list := mixedDeeds(i, many)
			start, ok := impl.StoreNew(placeOf(text))
			store := storeMade(t, start, ok)
			desk, _ := impl.DeskNew(placeOf(text))
			for place, deed := range list {
				if place%3 == 0 {
					store, _ = impl.StoreSync(store)
				}
				after, done := impl.DeskDo(desk, deed)
				acted, isActed := impl.StoreAct(store, deed)
				if isActed != done {
					t.Fatal(text, list, place, acted, after)
				}
				desk, store = after, acted
				if !sameDesk(opened(t, store), desk) {
					t.Fatal(text, list, place, store, desk)
				}
			}
		}
	}
}

// A saved store has no places of before, so that DkBack goes no further back; without it the place is the same.
func TestSavedOnTheWayItIsTheSamePlace(t *testing.T) {
	for i, text := range placeTexts() {
		for every := 1; every <= 7; every++ {
			list := slices.DeleteFunc(mixedDeeds(i+every, 40), func(a impl.Deed) bool { return a.Kind == impl.DkBack })
			store, _ := impl.StoreNew(placeOf(text))
			desk, _ := impl.DeskNew(placeOf(text))
			for place, deed := range list {
				desk, _ = impl.DeskDo(desk, deed)
				store, _ = impl.StoreAct(store, deed)
				if place%every == 0 {
					store, _ = impl.StoreSave(store)
				}
				if got := opened(t, store); writtenPlace(got.Now) != writtenPlace(desk.Now) {
					t.Fatal(text, list, place, store, desk)
				}
			}
		}
	}
}

// Promise 101.

func TestInTheEndAllIsThereAgain(t *testing.T) {
	withSomeStores(23, func(s impl.Store) {
		all, _ := impl.ReadJournal(s.Log)
		want := opened(t, s)
		for left := s.Sure; left <= len(s.Log); left += 1 + len(s.Log)/40 {
			crashed, _ := impl.StoreCrash(s, left)
			mended, ok := impl.StoreMend(crashed)
			list, _ := impl.ReadJournal(storeMade(t, mended, ok).Log)
			again := mended
			for _, deed := range all[len(list):] {
				again, _ = impl.StoreAct(again, deed)
			}
			if got := opened(t, again); !sameDesk(got, want) {
				t.Fatal(s, left, again, got, want)
			}
		}
	})
}

// Promise 104.

func TestStoreMend(t *testing.T) {
	for _, c := range []struct {
		log  string
		sure int
		want string
		left int
	}{
		{"", 0, "", 0}, {"again\n", 0, "again\n", 0}, {"again\n", 6, "again\n", 6}, {"again\n", 3, "again\n", 3}, {"again", 5, "", 0}, {"draw 1\naga", 7, "draw 1\n", 7}, {"draw 1\naga", 8, "draw 1\n", 7}, {"draw 1\naga", 10, "draw 1\n", 7}, {"draw 1\naga", 4, "draw 1\n", 4}, {"draw 1\naga", 0, "draw 1\n", 0}, {"draw 1\n\nback\n", 13, "draw 1\n", 7}, {"x\nback\n", 7, "", 0}, {"\nback\n", 0, "", 0}, {"draw 9\nback\nback", 12, "draw 9\nback\n", 12},
	} {
		store := impl.Store{Saved: "2,1 1 ab", Log: c.log, Sure: c.sure}
		if got, ok := impl.StoreMend(store); !ok || got != (impl.Store{Saved: "2,1 1 ab", Log: c.want, Sure: c.left}) {
			t.Error(c, got, ok)
		}
	}
}

func TestMendedTheLogIsReadWhole(t *testing.T) {
	withStores(func(s impl.Store) {
		got, ok := impl.StoreMend(s)
		mended := storeMade(t, got, ok)
		_, want := readByHand(s.Log)
		if mended != (impl.Store{Saved: s.Saved, Log: s.Log[:want], Sure: min(s.Sure, want)}) {
			t.Fatal(s, mended)
		}
		_, read := impl.ReadJournal(mended.Log)
		if again, isAgain := impl.StoreMend(mended); read != len(mended.Log) || again != mended || !isAgain {
			t.Fatal(s, mended, again)
		}
		desk := opened(t, mended)
		for _, deed := range deedsOf("again, back, draw 0, step 2, put 0 1") {
			_, can := impl.DeskDo(desk, deed)
			fits := len(mended.Log)+len(writtenDeed(deed))+1 <= 1000
			if _, acted := impl.StoreAct(mended, deed); acted != (can && fits) {
				t.Fatal(s, mended, deed, acted)
			}
		}
	})
}

func TestNoStoreMend(t *testing.T) {
	noStoreMade(t, impl.StoreMend)
}

// The general rules: results share no memory, nothing is kept.

func TestOpenedDesksShareNoMemory(t *testing.T) {
	withSomeStores(7, func(s impl.Store) {
		rowsApart(t, opened(t, s), opened(t, s))
	})
}

func TestStoresAreNotKept(t *testing.T) {
	for range 3 {
		store, _ := impl.StoreNew(placeOf("2,1 1 ab"))
		for _, deed := range deedsOf("draw 1, again, put 0 -2, step 3") {
			store, _ = impl.StoreAct(store, deed)
		}
		if store != (impl.Store{Saved: "2,1 1 ab", Log: "draw 1\nagain\nput 0 -2\nstep 3\n"}) || writtenDesk(opened(t, store)) != "2,1 1 ab; 2,1 1 abb; 2,1 1 .; 0,1 1 .; 0,1 3 ." {
			t.Fatal(store)
		}
		impl.StoreSave(store)
		impl.StoreCrash(store, 3)
		impl.StoreSync(store)
		impl.StoreMend(impl.Store{Saved: "1 0 .", Log: "x"})
		impl.DeskSay(deskOf("1 0 .", "2 0 ."), []string{"draw 0", "back", "back"})
	}
}
