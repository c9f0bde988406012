package tests

import (
	"fmt"
	"math"
	"slices"
	"testing"

	"loop.example/g00059/impl"
)

// Promise 24: each function of stowage answers, and writes into nothing that it
// is given.

// shipped is all that the functions of the chapter take.
type shipped struct {
	bays hatches
	list stows
	port int
	plan stows
	few  boxes
}

func shipsOfAllKinds() []shipped {
	d := &draws{state: 158}
	all := []shipped{{}, {bays: roomyBays(1)}, {bays: roomyBays(2), list: stowedAll(40, 0, 3), port: 3, plan: stowedAll(40, 3, 5)}, {bays: roomyBays(2), list: stowedAll(41, 0, 3), plan: make(stows, 41)}}
	for range 150 {
		bays, list := drawnFew(d, 4)
		all = append(all, shipped{bays, drawnStows(d, bays), d.between(-1, 8), drawnLoadFor(d, bays, nil, 5, 60, d.below(6)), list})
	}
	for range 150 {
		bays := drawnBays(d)
		list, port := drawnLoadFor(d, bays, nil, 20, 0, 1), d.between(1, 3)
		stay := slices.DeleteFunc(slices.Clone(list), func(s impl.Stow) bool { return s.Box.To == port })
		all = append(all, shipped{bays, list, port, fillers(d, stay, 50, port), nil})
	}
	for _, f := range faulties() {
		all = append(all, shipped{bays: faultyBays(), list: f.list, port: 4, plan: f.list})
	}
	for _, bays := range wrongBays() {
		all = append(all, shipped{bays: bays, list: tower(9, 8), port: 2, plan: tower(3), few: bounds(3, 4)})
	}
	return all
}

// roomyShip has right things behind each list, that would make a difference.
func roomyShip(s shipped) shipped {
	extra := stowed(going(99, 1, s.port, 19), 0, 0, 0)
	return shipped{spare(s.bays, hatch(1, 1, 9, 9)), spare(s.list, extra), s.port, spare(s.plan, extra), spare(s.few, going(99, 1, 0, 1))}
}

func clippedShip(s shipped) shipped {
	return shipped{slices.Clip(slices.Clone(s.bays)), slices.Clip(slices.Clone(s.list)), s.port, slices.Clip(slices.Clone(s.plan)), slices.Clip(slices.Clone(s.few))}
}

func wholeShip(s shipped) string {
	return fmt.Sprint(s.bays[:cap(s.bays)], s.list[:cap(s.list)], s.plan[:cap(s.plan)], s.few[:cap(s.few)])
}

func overwriteShip(s shipped) {
	clear(s.bays[:cap(s.bays)])
	clear(s.list[:cap(s.list)])
	clear(s.plan[:cap(s.plan)])
	clear(s.few[:cap(s.few)])
}

// allOfShip are the answers of all functions, as a text.
func allOfShip(s shipped) string {
	code, place := impl.StowCode(s.bays, s.list)
	other, at := impl.StowCode(s.bays, s.plan)
	lifted, ok := impl.Shifts(s.list, s.port)
	aboard, shifts, voyage := impl.AtPort(s.bays, s.list, s.port, s.plan)
	way, isWay := impl.Fewest(s.bays, s.few)
	return fmt.Sprint(impl.HatchesOk(s.bays), code, place, other, at, lifted, ok, aboard, shifts, voyage, way, isWay)
}

func TestStowArgumentsAreNotChanged(t *testing.T) {
	for _, plain := range shipsOfAllKinds() {
		s := roomyShip(plain)
		before := wholeShip(s)
		got := allOfShip(s)
		if wholeShip(s) != before {
			t.Fatal("written into", plain)
		}
		if got != allOfShip(clippedShip(plain)) {
			t.Fatal("what lies behind a list is looked at", plain)
		}
	}
}

// checkShipNew writes over an answer: neither what was handed in nor another
// answer may change by it.
func checkShipNew[T comparable](t *testing.T, name string, plain shipped, other T, ask func(shipped) []T) {
	t.Helper()
	s := roomyShip(plain)
	before := wholeShip(s)
	earlier, got := ask(s), ask(s)
	want := slices.Clone(got)
	for i := range got[:cap(got)] {
		got[:cap(got)][i] = other
	}
	if wholeShip(s) != before {
		t.Fatal(name, "shares memory with what was handed in", plain)
	}
	if !slices.Equal(earlier, want) || !slices.Equal(ask(s), want) {
		t.Fatal(name, "shares memory with another answer", plain)
	}
	overwriteShip(s)
	if !slices.Equal(earlier, want) {
		t.Fatal(name, "keeps the memory of what was handed in", plain)
	}
}

func TestStowAnswersAreNewMemory(t *testing.T) {
	other := stowed(numbered(98, 98), 9, 9, 9)
	for _, plain := range shipsOfAllKinds() {
		checkShipNew(t, "Shifts", plain, -7, func(s shipped) []int { return first(impl.Shifts(s.list, s.port)) })
		checkShipNew(t, "Fewest", plain, other, func(s shipped) stows { return first(impl.Fewest(s.bays, s.few)) })
		for _, withPlan := range []bool{true, false} {
			checkShipNew(t, "AtPort", plain, other, func(s shipped) stows {
				if !withPlan {
					s.plan = nil
				}
				aboard, _, _ := impl.AtPort(s.bays, s.list, s.port, s.plan)
				return aboard
			})
		}
	}
}

// One list may be handed in as both.
func TestStowListsThatAreOne(t *testing.T) {
	list := spare(stowedAll(6, 3, 9), stowed(numbered(99, 1), 0, 1, 0))
	before := fmt.Sprint(list[:cap(list)])
	checkNotAtPort(t, "each Name twice", roomyBays(1), list, 3, list, impl.VoyPlan)
	checkNotAtPort(t, "halves of one list", roomyBays(1), list[:3], 3, list[2:], impl.VoyPlan)
	checkAtPort(t, "parts of one list", roomyBays(1), list[:3], 3, list[3:], list, 0)
	if fmt.Sprint(list[:cap(list)]) != before {
		t.Error("written into")
	}
}

func TestStowOfGreatNumbers(t *testing.T) {
	numbers := []int{math.MinInt, math.MinInt + 1, -1, 0, 1, math.MaxInt - 1, math.MaxInt}
	for _, n := range numbers {
		for _, m := range numbers {
			list := stows{stowed(going(1, 5, 0, 3), 0, 0, 0), stowed(impl.Box{Name: numbered(2, 1).Name, Weight: 1, From: 0, To: 9}, n, m, n)}
			code, place := stowCodeOf(roomyBays(2), list)
			checkStow(t, fmt.Sprint(n, m), roomyBays(2), list, code, place)
			places, ok := shiftsOf(list, m)
			if got, told := impl.Shifts(list, m); !slices.Equal(got, places) || told != ok {
				t.Error(n, m, got, told)
			}
			list[1].Box = impl.Box{Name: list[1].Box.Name, Weight: n, Class: m, From: m, To: n}
			code, place = stowCodeOf(roomyBays(2), list)
			checkStow(t, fmt.Sprint("a box of ", n, m), roomyBays(2), list, code, place)
			want, many, voyage := atPortOf(roomyBays(2), list, n, list)
			if got, shifts, told := impl.AtPort(roomyBays(2), list, n, list); !slices.Equal(got, want) || shifts != many || told != voyage {
				t.Error("port", n, m, got, shifts, told)
			}
			wrong := hatches{hatch(n, m, m, n)}
			checkHatches(t, wrong, n == 1 && m == 1)
			if !hatchesOk(wrong) {
				checkNoFewest(t, fmt.Sprint("a bay of ", n, m), wrong, bounds(3))
			}
		}
	}
}

func TestStowAnswersAgainAndTogether(t *testing.T) {
	ships := shipsOfAllKinds()
	ask := func() string {
		told := ""
		for _, s := range ships {
			told += allOfShip(s) + "\n"
		}
		return told
	}
	want := ask()
	told := make(chan string)
	for range 8 {
		go func() { told <- ask() }()
	}
	for range 8 {
		if got := <-told; got != want {
			t.Error("answers hang on earlier calls")
		}
	}
}
