package tests

import (
	"fmt"
	"math"
	"runtime"
	"slices"
	"testing"

	"loop.example/g00059/impl"
)

// Promise 24: each function of the liner network answers, and writes into nothing
// that it is given.

func lineNumbers() []int {
	return slices.Concat(greatNumbers(), []int{18, 19, 20, 21, 59, 60, 61, 99, 100, 101, 9999, 99999999, 100000000, 100000001})
}

func TestLegsOfGreatNumbers(t *testing.T) {
	plain := legs{sail(1, 0, 1, 5, 9), sail(2, 1, 2, 10, 12)}
	for _, n := range lineNumbers() {
		for field := range 6 {
			for _, m := range []int{n, n + 1, 7} {
				list := slices.Clone(plain)
				l := &list[1]
				fields := []*int{&l.Service, &l.From, &l.To, &l.Leaves, &l.Comes, &l.Room}
				*fields[(field+1)%6], *fields[field] = m, n
				checkLegs(t, list, lineOkOf(list))
				checkTravelAsTold(t, list, 0, 2, 3, 1)
				checkLoad22AsTold(t, list, []int{0, 1}, 3)
				checkDelayAsTold(t, list, 0, 3, 1)
				checkMissedAsTold(t, plain, list, 1)
				checkMissedAsTold(t, list, plain, 1)
				checkMissedAsTold(t, list, list, 1)
			}
		}
	}
}

func TestLinesOfGreatNumbers(t *testing.T) {
	list := legs{sail(1, 0, 1, 5, 9), sail(2, 1, 2, 10, 12), sail(1, 1, 19, 99999990, 100000000)}
	for _, some := range []legs{list, nil} {
		for _, n := range lineNumbers() {
			checkMissedAsTold(t, some, some, n)
			checkLoad22AsTold(t, some, []int{0}, n)
			checkLoad22AsTold(t, some, []int{n}, 3)
			checkLoad22AsTold(t, some, []int{0, n}, 3)
			for _, m := range lineNumbers() {
				checkTravelAsTold(t, some, n, m, 3, 1)
				checkTravelAsTold(t, some, n, 2, m, 1)
				checkTravelAsTold(t, some, n, 2, 3, m)
				checkTravelAsTold(t, some, 0, n, m, 1)
				checkTravelAsTold(t, some, 0, n, 3, m)
				checkTravelAsTold(t, some, 0, 2, n, m)
				checkLoad22AsTold(t, some, []int{n, m}, 3)
				checkLoad22AsTold(t, some, []int{n}, m)
				checkDelayAsTold(t, some, n, m, 1)
				checkDelayAsTold(t, some, n, 3, m)
				checkDelayAsTold(t, some, 0, n, m)
			}
		}
	}
}

// Long lists are refused without being gone through for long.
func TestLinesOfLongLists(t *testing.T) {
	long := slices.Repeat(legs{sail(1, 0, 1, 5, 9), sail(1, 1, 0, 9, 10)}, 500000)
	checkLegs(t, long, false)
	checkNoEarliest(t, long, 0, 3, 1)
	checkNoTravel(t, long, 0, 1, 3, 1)
	checkNoTravel(t, long, 0, 0, 3, 1)
	checkNoLoad22(t, long, []int{0, 1}, 3, 1)
	checkNoDelay(t, long, 0, 3, 1)
	checkNotMissed(t, long, long, 1)
	checkNotMissed(t, long[:2], long, 1)
	checkNoLoad22(t, unlikeRow(60), make([]int, 10000000), 3, 2)
	checkNoLoad22(t, unlikeRow(60), make([]int, 10000000), 0, 1)
}

// A full list in which each leg goes on to all later ones has more ways than can be
// gone one by one.
func TestTravelOfManyWays(t *testing.T) {
	var list legs
	for i := range 60 {
		list = append(list, sail(i+1, i%2, 1-i%2, i, i+1))
	}
	checkTravel(t, list, 0, 1, 0, 0, 0)
	list = append(list[:59], sail(60, 1, 2, 59, 60))
	checkTravel(t, list, 0, 2, 0, 0, 0, 59)
	checkTravel(t, list, 0, 2, 1, 0, 2, 59)
	checkTravel(t, list, 0, 2, 0, 58, 0, 59)
	checkNoTravel(t, list, 0, 2, 0, 59)
	for change := range 60 {
		checkTravelAsTold(t, list, 0, 2, 0, change)
		checkTravelAsTold(t, list, 1, 2, change, 1)
	}
}

// passage is all that the functions of the chapter take.
type passage struct {
	list   legs
	other  legs
	way    []int
	from   int
	to     int
	at     int
	change int
	many   int
	by     int
	turn   int
}

func passagesOfAllKinds() []passage {
	d := &draws{state: 230}
	full := rowOfLegs(60)
	all := []passage{{}, {many: 1}, {list: full, other: full, way: upTo(6), to: 6, many: 10, by: 3, turn: 6}, {list: full, way: upTo(7), to: 7, many: 11}}
	for range 300 {
		list := drawnLegs(d)
		late, _ := delayOf(list, 0, d.below(9), d.below(4))
		if d.below(3) == 0 {
			list = spoiltLegs(d, list)
		}
		all = append(all, passage{list, late, wayFrom(d, list), d.below(4), d.below(7), d.below(9), d.below(5), d.between(0, 9), d.below(9), d.below(3)})
	}
	for _, wrong := range wrongLegs() {
		all = append(all, passage{list: wrong, other: wrong, way: []int{0}, to: 1, many: 1})
	}
	return all
}

// roomyPassage has right things behind each list, that would make a difference.
func roomyPassage(p passage) passage {
	p.list = spare(p.list, sail(99, p.from, p.to, 0, 1))
	p.other = spare(p.other, sail(98, p.from, p.to, 0, 1))
	p.way = spare(p.way, 0)
	return p
}

func clippedPassage(p passage) passage {
	p.list, p.other, p.way = slices.Clip(slices.Clone(p.list)), slices.Clip(slices.Clone(p.other)), slices.Clip(slices.Clone(p.way))
	return p
}

// wholePassage tells the lists and what lies behind them.
func wholePassage(p passage) string {
	return fmt.Sprint(len(p.list), p.list[:cap(p.list)], len(p.other), p.other[:cap(p.other)], len(p.way), p.way[:cap(p.way)])
}

// allOfPassage are the answers of all functions, as texts.
func allOfPassage(p passage) []string {
	minutes, isStart := impl.Earliest(p.list, p.from, p.at, p.change)
	way, isWay := impl.Travel(p.list, p.from, p.to, p.at, p.change)
	now, code := impl.Load22(p.list, p.way, p.many)
	late, isLate := impl.Delay(p.list, p.at, p.by, p.turn)
	pairs, isPair := impl.Missed(p.list, p.other, p.change)
	return []string{
		fmt.Sprint(impl.LegsOk(p.list), minutes, isStart),
		fmt.Sprint(way, isWay),
		fmt.Sprint(now, code),
		fmt.Sprint(late, isLate),
		fmt.Sprint(pairs, isPair),
	}
}

func TestLineArgumentsAreNotChanged(t *testing.T) {
	for _, plain := range passagesOfAllKinds() {
		p := roomyPassage(plain)
		before := wholePassage(p)
		got := allOfPassage(p)
		if wholePassage(p) != before {
			t.Fatal("written into", plain)
		}
		if !slices.Equal(got, allOfPassage(clippedPassage(plain))) {
			t.Fatal("what lies behind a list is looked at", plain)
		}
	}
}

// checkLineNew writes over an answer and over what was handed in: nothing else may
// change by it.
func checkLineNew[T comparable](t *testing.T, name string, plain passage, other T, ask func(passage) []T) {
	t.Helper()
	p := roomyPassage(plain)
	before := wholePassage(p)
	earlier, got := ask(p), ask(p)
	want := slices.Clone(got)
	overwriteAll(got, other)
	if !slices.Equal(earlier, want) || wholePassage(p) != before {
		t.Fatal(name, "shares memory with what was handed in, or with another answer", plain)
	}
	overwriteAll(p.list, impl.Leg{Service: -9})
	overwriteAll(p.other, impl.Leg{Service: -9})
	overwrite(p.way)
	if !slices.Equal(earlier, want) || !slices.Equal(ask(roomyPassage(plain)), want) {
		t.Fatal(name, "keeps memory", plain)
	}
}

func TestLineAnswersAreNewMemory(t *testing.T) {
	for _, plain := range passagesOfAllKinds() {
		checkLineNew(t, "Earliest", plain, -9, func(p passage) []int {
			return first(impl.Earliest(p.list, p.from, p.at, p.change))
		})
		checkLineNew(t, "Travel", plain, -9, func(p passage) []int {
			return first(impl.Travel(p.list, p.from, p.to, p.at, p.change))
		})
		checkLineNew(t, "Missed", plain, -9, func(p passage) []int {
			return first(impl.Missed(p.list, p.other, p.change))
		})
		checkLineNew(t, "Delay", plain, impl.Leg{Service: -9}, func(p passage) legs {
			return first(impl.Delay(p.list, p.at, p.by, p.turn))
		})
		for _, many := range []int{plain.many, 0, 1} {
			checkLineNew(t, "Load22", plain, impl.Leg{Service: -9}, func(p passage) legs {
				list, _ := impl.Load22(p.list, p.way, many)
				return list
			})
		}
	}
}

// One list may be handed in as both, and a way may stand in the memory of another.
func TestMissedOfOneList(t *testing.T) {
	list := legs{sail(1, 0, 1, 5, 9), sail(2, 1, 2, 10, 12)}
	plain := slices.Clone(list)
	checkMissed(t, list, list, 1)
	checkMissed(t, list, list[:2:2], 0)
	if !slices.Equal(list, plain) {
		t.Error("written into", list)
	}
	places := []int{0, 1, 2}
	checkLoad22(t, list, places[:2], 3, withRoom(list, 7, 7), 0)
	if !slices.Equal(list, plain) || !slices.Equal(places, upTo(3)) {
		t.Error("written into", list, places)
	}
}

func TestLinesAnswerAgainAndTogether(t *testing.T) {
	all := passagesOfAllKinds()
	ask := func() string {
		told := ""
		for _, p := range all {
			told += fmt.Sprintln(allOfPassage(p))
		}
		return told
	}
	want := ask()
	told := make(chan string)
	for range 8 {
		go func() { told <- ask() }()
	}
	for range 8 {
		if got := <-told; got != want {
			t.Error("answers hang on earlier calls")
		}
	}
}

// All that a call begins has ended when it answers: many calls, also those that are
// refused, leave nothing behind.
func TestLinesOfManyCalls(t *testing.T) {
	list := unlikeRow(60)
	before := runtime.NumGoroutine()
	for range 3000 {
		checkTravel(t, list, 0, 6, 0, 5, 0, 1, 2, 3, 4, 5)
		checkNoTravel(t, list, 0, 7, 0, 5)
		checkNoEarliest(t, list, 0, math.MaxInt, 5)
		checkEarliest(t, nil, 0, 0, 0, there(0, 0))
	}
	if now := runtime.NumGoroutine(); now > before {
		t.Error("left behind", before, now)
	}
}
