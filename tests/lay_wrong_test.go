package tests

import (
	"fmt"
	"math"
	"slices"
	"testing"

	"loop.example/g00059/impl"
)

// Promise 24: each function of laytime answers, and a wrong input has one fixed
// answer.

func TestChartersThatAreNotSo(t *testing.T) {
	for name, c := range wrongCharters() {
		if impl.CharterOk(c) {
			t.Error(name, "is ok")
		}
		for _, off := range []spells{nil, spellsOf(20, 40), spellsOf(40, 20)} {
			for _, arrived := range []int{-1, 0, 20, lastMinute} {
				checkStarts(t, c, arrived, off, -1, false)
				checkCounted(t, c, arrived, arrived, off, impl.Count{}, false)
				checkCounted(t, c, arrived, arrived+50, off, impl.Count{}, false)
			}
			checkLaid(t, c, spellsOf(0, 50), off, impl.Count{}, false)
			checkLaid(t, c, nil, off, impl.Count{}, false)
		}
		for _, used := range []int{0, 100, c.Allowed} {
			for _, over := range []int{0, 5} {
				checkOwed(t, c, counts(used, over, 7), 0, false)
			}
		}
	}
}

func TestOffThatIsNotSo(t *testing.T) {
	c := charter(10, 100, 1440, 720)
	for name, off := range wrongSpells() {
		for _, minute := range []int{0, 15, 200, lastMinute - 10} {
			if got, ok := impl.Starts(c, minute, off); got != -1 || ok {
				t.Error(name, minute, got, ok)
			}
			for _, done := range []int{minute, minute + 1, lastMinute} {
				if got, ok := impl.Counted(c, minute, done, off); got != (impl.Count{}) || ok {
					t.Error(name, minute, done, got, ok)
				}
			}
		}
		for _, parts := range []spells{spellsOf(0, 5), spellsOf(0, 500), spellsOf(lastMinute-1, lastMinute)} {
			if got, ok := impl.Laid(c, parts, off); got != (impl.Count{}) || ok {
				t.Error(name, parts, got, ok)
			}
		}
	}
}

func TestPartsThatAreNotSo(t *testing.T) {
	for name, parts := range wrongSpells() {
		for _, c := range []impl.Charter{{}, allowing(1), charter(10, 100, 1440, 720), allowing(100000)} {
			for _, off := range []spells{nil, spellsOf(5, 15), spellsOf(0, lastMinute), parts} {
				if got, ok := impl.Laid(c, parts, off); got != (impl.Count{}) || ok {
					t.Error(name, c, off, got, ok)
				}
			}
		}
	}
}

func TestValuesThatAreNotSo(t *testing.T) {
	for name, values := range wrongValues() {
		for _, loss := range []int{math.MinInt, -1, 0, 1, 5, mostMoney, mostMoney + 1, math.MaxInt} {
			if got, ok := impl.Average(values, loss); len(got) != 0 || ok {
				t.Error(name, loss, got, ok)
			}
		}
	}
	for _, loss := range []int{math.MinInt, -mostMoney, -1, 25, mostMoney, mostMoney + 1, math.MaxInt} {
		checkNoAverage(t, []int{7, 8, 9}, loss)
	}
}

func TestLaytimeOfGreatNumbers(t *testing.T) {
	numbers := []int{math.MinInt, math.MinInt + 1, -lastMinute, -1, 0, 1, 100000, 100001, lastMinute, lastMinute + 1, mostMoney, mostMoney + 1, math.MaxInt - 1, math.MaxInt}
	off := spellsOf(0, 20, 30, lastMinute)
	for _, n := range numbers {
		for _, m := range numbers {
			for _, c := range []impl.Charter{charter(n, m, 5, 5), charter(5, n, m, 5), charter(5, 5, n, m), allowing(5), {}} {
				if impl.CharterOk(c) != charterOkOf(c) {
					t.Error(c, impl.CharterOk(c))
				}
				begin, ok := startsOf(c, m, off)
				checkStarts(t, c, m, off, begin, ok)
				want, ok := countedOf(c, n, m, off)
				checkCounted(t, c, n, m, off, want, ok)
				want, ok = countedOf(c, n, m, spellsOf(n, m))
				checkCounted(t, c, n, m, spellsOf(n, m), want, ok)
				want, ok = laidOf(c, spellsOf(n, m), off)
				checkLaid(t, c, spellsOf(n, m), off, want, ok)
				for _, count := range []impl.Count{counts(n, m, 0), counts(c.Allowed, m, n)} {
					owed, ok := owedOf(c, count)
					checkOwed(t, c, count, owed, ok)
				}
			}
			for _, values := range [][]int{{n}, {n, n}, {5, n}, {mostMoney, n, 5}} {
				shares, ok := averageOf(values, m)
				checkAverage(t, values, m, shares, ok)
			}
		}
	}
}

// layBook is all that the functions of the chapter take.
type layBook struct {
	c          impl.Charter
	parts, off spells
	values     []int
	loss       int
}

func layBooksOfAllKinds() []layBook {
	d := &draws{state: 165}
	all := []layBook{{}, {c: allowing(5), parts: make(spells, 101), off: make(spells, 101), values: make([]int, 41)}}
	for range 200 {
		values := drawnValues(d)
		all = append(all, layBook{drawnCharter(d), drawnShort(d, 60), drawnShort(d, 60), values, drawnLoss(d, values)})
	}
	for range 50 {
		values := drawnValues(d)
		all = append(all, layBook{drawnCharter(d), drawnSpells(d), drawnSpells(d), values, drawnLoss(d, values)})
	}
	for _, list := range wrongSpells() {
		all = append(all, layBook{c: allowing(5), parts: list, off: spellsOf(5, 15)}, layBook{c: allowing(5), parts: spellsOf(5, 15), off: list})
	}
	for _, values := range wrongValues() {
		all = append(all, layBook{values: values, loss: 3})
	}
	return all
}

// roomyLay has right things behind each list, that would make a difference.
func roomyLay(k layBook) layBook {
	behind := func(list spells) impl.Spell {
		if len(list) == 0 {
			return impl.Spell{From: 0, To: 40}
		}
		return impl.Spell{From: list[len(list)-1].To, To: lastMinute}
	}
	return layBook{k.c, spare(k.parts, behind(k.parts)), spare(k.off, behind(k.off)), spare(k.values, 7), k.loss}
}

func clippedLay(k layBook) layBook {
	return layBook{k.c, slices.Clip(k.parts), slices.Clip(k.off), slices.Clip(k.values), k.loss}
}

func wholeLay(k layBook) string {
	return fmt.Sprint(k.c, k.parts[:cap(k.parts)], k.off[:cap(k.off)], k.values[:cap(k.values)])
}

// allOfLay are the answers of all functions, as texts.
func allOfLay(k layBook) []string {
	all := []string{fmt.Sprint(impl.CharterOk(k.c))}
	for _, minute := range []int{0, 17, 40, 2000} {
		begin, ok := impl.Starts(k.c, minute, k.off)
		n, isSo := impl.Counted(k.c, minute, minute+300, k.off)
		owed, isOwed := impl.Owed(k.c, n)
		all = append(all, fmt.Sprint(begin, ok, n, isSo, owed, isOwed))
	}
	n, isLaid := impl.Laid(k.c, k.parts, k.off)
	shares, isShared := impl.Average(k.values, k.loss)
	return append(all, fmt.Sprint(n, isLaid, shares, isShared))
}

func TestLaytimeArgumentsAreNotChanged(t *testing.T) {
	for _, plain := range layBooksOfAllKinds() {
		k := roomyLay(plain)
		before := wholeLay(k)
		got := allOfLay(k)
		if wholeLay(k) != before {
			t.Fatal("written into", plain)
		}
		if !slices.Equal(got, allOfLay(clippedLay(plain))) {
			t.Fatal("what lies behind a list is looked at", plain)
		}
	}
}

// Parts and what is off may be one list.
func TestLaidOfOneListTwice(t *testing.T) {
	list := spellsOf(0, 10, 10, 20, 30, 35)
	for allowed, want := range map[int]impl.Count{0: counts(0, 25, 0), 1: counts(0, 0, -1), 100: counts(0, 0, -1)} {
		checkLaid(t, allowing(allowed), list, list, want, true)
		checkLaid(t, allowing(allowed), list[:2], list, counts(0, min(want.Over, 20), want.Late), true)
	}
	if !slices.Equal(list, spellsOf(0, 10, 10, 20, 30, 35)) {
		t.Error("written into", list)
	}
}

// Writing over the shares changes neither what was handed in nor another answer.
func TestSharesAreNewMemory(t *testing.T) {
	for _, plain := range layBooksOfAllKinds() {
		k := roomyLay(plain)
		before := wholeLay(k)
		earlier, _ := impl.Average(k.values, k.loss)
		got, _ := impl.Average(k.values, k.loss)
		want := slices.Clone(got)
		overwrite(got)
		if wholeLay(k) != before {
			t.Fatal("shares memory with what was handed in", plain)
		}
		if later, _ := impl.Average(k.values, k.loss); !slices.Equal(earlier, want) || !slices.Equal(later, want) {
			t.Fatal("shares memory with another answer", plain)
		}
		overwrite(k.values)
		if !slices.Equal(earlier, want) {
			t.Fatal("keeps the memory of what was handed in", plain)
		}
	}
}

func TestLaytimeAnswersAgainAndTogether(t *testing.T) {
	books := layBooksOfAllKinds()
	ask := func() string {
		told := ""
		for _, k := range books {
			told += fmt.Sprintln(allOfLay(k))
		}
		return told
	}
	want := ask()
	told := make(chan string)
	for range 8 {
		go func() { told <- ask() }()
	}
	for range 8 {
		if got := <-told; got != want {
			t.Error("answers hang on earlier calls")
		}
	}
}
