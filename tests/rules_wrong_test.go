package tests

import (
	"fmt"
	"math"
	"slices"
	"testing"

	"loop.example/g00059/impl"
)

// Promise 24: each function of the rules of the road answers, and a wrong input
// has one fixed answer.

// checkBadPair asks for the fixed answers of all that is told about two ships.
func checkBadPair(t *testing.T, name string, a, b impl.Ship) {
	t.Helper()
	if when, far, ok := impl.Closest(a, b); when != (impl.Frac{}) || far != (impl.Frac{}) || ok {
		t.Error(name, "Closest", when, far, ok)
	}
	if impl.Behind(a, b) {
		t.Error(name, "Behind")
	}
	if impl.HeadOn(a, b) {
		t.Error(name, "HeadOn")
	}
	if got := impl.Duty(a, b); got != impl.DutyBad {
		t.Error(name, "Duty", got)
	}
}

// partnersOf would meet a ship in all ways, if it were right: astern of it,
// ahead of it, at its place and far away.
func partnersOf(s impl.Ship) ships {
	way := power(0, 0, max(-1000, min(1000, s.VX)), max(-1000, min(1000, s.VY)))
	if way.VX == 0 && way.VY == 0 {
		way.VY = 1
	}
	x, y := max(-99000, min(99000, s.X)), max(-99000, min(99000, s.Y))
	back := power(0, 0, -way.VX, -way.VY)
	return ships{
		shifted(way, x, y), shifted(back, x, y), shifted(way, x-way.VX, y-way.VY), shifted(back, x+way.VX, y+way.VY),
		sorted(shifted(back, x+way.VX, y+way.VY), 5), shifted(power(0, 0, -way.VY, way.VX), x, y),
		power(-100000, -100000, 1000, 1000), power(100000, 100000, -1000, -1000),
	}
}

func TestShipsThatAreNotSo(t *testing.T) {
	for name, s := range wrongShips() {
		if impl.ShipOk(s) {
			t.Error(name, "is ok")
		}
		for _, right := range partnersOf(s) {
			if !impl.ShipOk(right) {
				t.Fatal(name, "has a wrong partner", right)
			}
			checkBadPair(t, name+" first", s, right)
			checkBadPair(t, name+" second", right, s)
		}
		checkBadPair(t, name+" twice", s, s)
		for other, wrong := range wrongShips() {
			checkBadPair(t, name+" and "+other, s, wrong)
		}
		for _, minutes := range []int{-1, 0, 1, 100, 101} {
			checkNotMoved(t, name, s, minutes)
		}
	}
}

func checkNotMoved(t *testing.T, name string, s impl.Ship, minutes int) {
	t.Helper()
	if got, ok := impl.Moved(s, minutes); got != (impl.Ship{}) || ok {
		t.Error(name, minutes, got, ok)
	}
}

func TestMinutesThatAreNotSo(t *testing.T) {
	for _, s := range append(edgeShips(), power(0, 0, 1, 0), power(0, 0, 0, -1), power(5, 5, 1000, 1000)) {
		for _, minutes := range []int{-1, -2, -100, 101, 102, 1000, 1 << 32, 1 << 62, -1 << 62, math.MinInt, math.MaxInt} {
			checkNotMoved(t, "minutes", s, minutes)
		}
	}
	// What was not so is not mended by what comes.
	checkNotMoved(t, "from beyond", power(100001, 0, -1, 0), 1)
	checkNotMoved(t, "from beyond", power(0, -100001, 0, 1), 100)
}

// atEach is a list of so many right ships with one put at a place.
func atEach(count, place int, s impl.Ship) ships {
	list := slices.Repeat(ships{power(3, 4, 5, 6)}, count)
	list[place] = s
	return list
}

func checkNoDuties(t *testing.T, name string, list ships) {
	t.Helper()
	if got, ok := impl.Duties(list); len(got) != 0 || ok {
		t.Error(name, got, ok)
	}
}

func TestListsOfShipsThatAreNotSo(t *testing.T) {
	for name, s := range wrongShips() {
		for _, count := range []int{1, 2, 3, 20} {
			checkNoDuties(t, name+" first", atEach(count, 0, s))
			checkNoDuties(t, name+" in the middle", atEach(count, count/2, s))
			checkNoDuties(t, name+" last", atEach(count, count-1, s))
		}
		checkNoDuties(t, name+" in too many", atEach(21, 20, s))
	}
	right := power(3, 4, 5, 6)
	if got, ok := impl.Duties(atEach(20, 0, right)); len(got) != 20 || !ok {
		t.Error("MaxShips", got, ok)
	}
	checkNoDuties(t, "one more", atEach(21, 0, right))
	checkNoDuties(t, "many more", atEach(5000, 0, right))
	checkNoDuties(t, "empty ones", make(ships, 3))
}

// fleetsOfAllKinds are lists of right ships and of wrong ones.
func fleetsOfAllKinds() []ships {
	d := &draws{state: 116}
	all := []ships{nil, {}, {power(0, 0, 0, 1)}, atEach(20, 0, power(0, 0, 1, 1)), atEach(21, 0, power(0, 0, 1, 1)), make(ships, 2)}
	for _, s := range wrongShips() {
		all = append(all, atEach(4, 0, s), atEach(4, 3, s))
	}
	for range 100 {
		var list ships
		for range d.below(21) {
			list = append(list, drawnShip(d, 40))
		}
		all = append(all, list)
	}
	return all
}

func TestShipsHandedInAreNotChanged(t *testing.T) {
	for _, plain := range fleetsOfAllKinds() {
		list := spare(plain, sorted(power(1, 2, 3, 4), 6))
		before := fmt.Sprint(list[:cap(list)])
		got, ok := impl.Duties(list)
		if fmt.Sprint(list[:cap(list)]) != before {
			t.Fatal("written into", plain)
		}
		want, isThere := impl.Duties(slices.Clip(slices.Clone(plain)))
		if ok != isThere || fmt.Sprint(got) != fmt.Sprint(want) {
			t.Fatal("what lies behind a list is looked at", plain)
		}
	}
}

func TestDutiesAreNewMemory(t *testing.T) {
	for _, plain := range fleetsOfAllKinds() {
		list := spare(plain, power(1, 2, 3, 4))
		before := fmt.Sprint(list[:cap(list)])
		earlier, _ := impl.Duties(list)
		got, _ := impl.Duties(list)
		want := fmt.Sprint(got)
		for i, row := range got {
			rest := fmt.Sprint(got[:i], got[i+1:])
			overwrite(row)
			if fmt.Sprint(got[:i], got[i+1:]) != rest {
				t.Fatal("two lists of an answer share memory", plain)
			}
		}
		clear(got[:cap(got)])
		if fmt.Sprint(list[:cap(list)]) != before {
			t.Fatal("an answer shares memory with what was handed in", plain)
		}
		again, _ := impl.Duties(list)
		if fmt.Sprint(earlier) != want || fmt.Sprint(again) != want {
			t.Fatal("two answers share memory", plain)
		}
		clear(list[:cap(list)])
		if fmt.Sprint(earlier) != want {
			t.Fatal("an answer keeps the memory of what was handed in", plain)
		}
	}
}

func TestRulesAnswerAgainAndTogether(t *testing.T) {
	all := fleetsOfAllKinds()
	ask := func() string {
		told := ""
		for _, list := range all[len(all)-20:] {
			duties, ok := impl.Duties(list)
			told += fmt.Sprintln(duties, ok)
			for _, s := range list {
				when, far, _ := impl.Closest(list[0], s)
				moved, isThere := impl.Moved(s, 30)
				told += fmt.Sprintln(when, far, impl.Behind(list[0], s), impl.HeadOn(s, list[0]), moved, isThere)
			}
		}
		return told
	}
	want := ask()
	told := make(chan string)
	for range 8 {
		go func() { told <- ask() }()
	}
	for range 8 {
		if got := <-told; got != want {
			t.Error("answers hang on earlier calls")
		}
	}
}
