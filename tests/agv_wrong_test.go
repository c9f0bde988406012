package tests

import (
	"fmt"
	"math"
	"slices"
	"testing"

	"loop.example/g00059/impl"
)

// Promise 24: each function of vehicles answers, and writes into nothing that it is
// given.

func checkNoRound(t *testing.T, f impl.Floor, list carts) {
	t.Helper()
	if got, moved, ok := impl.Round(f, list); ok || len(got) != 0 || len(moved) != 0 {
		t.Error(f, list, "got", got, moved, ok)
	}
	if got, ok := impl.Stuck(f, list); ok || len(got) != 0 {
		t.Error(f, list, "got", got, ok)
	}
	for _, rounds := range []int{-1, 0, 1, 200, 201} {
		checkNoSettle(t, f, list, rounds)
	}
}

func TestRoundsOnFloorsThatAreNotSo(t *testing.T) {
	for _, f := range wrongFloors() {
		for _, list := range []carts{nil, {}, {parked(0)}, {going19(0, 1)}, {going19(0, 5), going19(5, 0)}, {going19(-1, 0)}, make(carts, 13)} {
			checkNoRound(t, f, list)
		}
	}
}

func TestRoundsOfCartsThatAreNotSo(t *testing.T) {
	for _, f := range []impl.Floor{evenFloor(3, 2, 15), evenFloor(2, 3, 0), lanes(">>v", "^<<")} {
		for _, list := range wrongCarts() {
			checkNoRound(t, f, list)
		}
	}
	checkNoRound(t, evenFloor(10, 10, 15), parkedUpTo(13))
	checkRound(t, evenFloor(10, 10, 15), parkedUpTo(12), parkedUpTo(12), nil)
}

func TestSettle19OfRoundsThatAreNotSo(t *testing.T) {
	f := evenFloor(3, 2, 15)
	for _, list := range []carts{nil, {}, {parked(0)}, {going19(0, 5), going19(5, 0)}} {
		for _, rounds := range []int{math.MinInt, math.MinInt + 1, -201, -2, -1, 201, 202, math.MaxInt - 1, math.MaxInt} {
			checkNoSettle(t, f, list, rounds)
		}
		if _, _, ok := impl.Round(f, list); !ok {
			t.Error(list)
		}
	}
}

func TestVehiclesOfGreatNumbers(t *testing.T) {
	great := []int{math.MinInt, math.MinInt + 1, -2, -1, 0, 1, 2, 3, 10, 11, 15, 16, 200, math.MaxInt - 1, math.MaxInt}
	for _, n := range great {
		for _, m := range great {
			plain := evenFloor(3, 2, 15)
			for _, f := range []impl.Floor{plain, {Wide: n, High: m, Ways: plain.Ways}, {Wide: n, High: 2, Ways: plain.Ways}, {Wide: n, High: m}, withWays(plain, 0, n), withWays(withWays(plain, 1, n), 5, m)} {
				checkFloorOk(t, f, floorOkOf(f))
				for _, list := range []carts{nil, {going19(n, m)}, {parked(n), going19(m, 0)}, {going19(0, 3), going19(5, n), going19(m, 0)}} {
					isOk := cartsOkOf(f, list)
					checkCartsOk(t, f, list, isOk)
					if !isOk {
						checkNoRound(t, f, list)
						continue
					}
					want, moved := roundOf(f, list)
					checkRound(t, f, list, want, moved)
					for _, rounds := range []int{n, m} {
						want, count, all := settle19Of(f, list, rounds)
						checkSettle(t, f, list, rounds, want, count, all)
					}
				}
				if floorOkOf(f) && n >= 0 && n < len(f.Ways) {
					checkHops(t, f, n, hopsOf(f, n)...)
				} else {
					checkNoHops(t, f, n)
				}
			}
			if _, ok := impl.OneWay(n, m); ok != (min(n, m) >= 2 && max(n, m) <= 10) {
				t.Error(n, m, ok)
			}
		}
	}
}

// Long lists are refused without being gone through for long.
func TestVehiclesOfLongLists(t *testing.T) {
	long := impl.Floor{Wide: 10, High: 10, Ways: make([]int, 1000000)}
	checkFloorOk(t, long, false)
	checkNoHops(t, long, 0)
	checkNoRound(t, long, nil)
	checkNoRound(t, evenFloor(10, 10, 15), make(carts, 1000000))
}

// traffic is all that the functions of the chapter take.
type traffic struct {
	f      impl.Floor
	list   carts
	goal   int
	rounds int
}

func trafficOfAllKinds() []traffic {
	d := &draws{state: 280}
	all := []traffic{{}, {evenFloor(10, 10, 15), parkedUpTo(12), 99, 200}, {evenFloor(10, 10, 15), parkedUpTo(13), 100, 201}}
	for range 250 {
		f, list := drawnTraffic(d)
		all = append(all, traffic{f, list, d.between(-1, len(f.Ways)), []int{200, d.between(-1, 201), d.below(4)}[d.below(3)]})
	}
	for _, f := range wrongFloors() {
		all = append(all, traffic{f, carts{going19(0, 1)}, 0, 9})
	}
	for _, list := range wrongCarts() {
		all = append(all, traffic{evenFloor(3, 2, 15), list, 5, 9})
	}
	return all
}

// roomyTraffic has right things behind each list, that would make a difference.
func roomyTraffic(g traffic) traffic {
	g.f.Ways, g.list = spare(g.f.Ways, 15), spare(g.list, parked(1))
	return g
}

func clippedTraffic(g traffic) traffic {
	g.f.Ways, g.list = slices.Clip(slices.Clone(g.f.Ways)), slices.Clip(slices.Clone(g.list))
	return g
}

// wholeTraffic tells all of it, and what lies behind each list.
func wholeTraffic(g traffic) string {
	return fmt.Sprint(g.f.Wide, g.f.High, g.f.Ways[:cap(g.f.Ways)], len(g.f.Ways), g.list[:cap(g.list)], len(g.list))
}

// allOfTraffic are the answers of all functions, as a text.
func allOfTraffic(g traffic) string {
	hops, isGoal := impl.Hops(g.f, g.goal)
	now, moved, ok := impl.Round(g.f, g.list)
	rest, count, all := impl.Settle19(g.f, g.list, g.rounds)
	stuck, isSo := impl.Stuck(g.f, g.list)
	ring, isRing := impl.OneWay(g.f.Wide, g.f.High)
	return fmt.Sprint(impl.FloorOk(g.f), impl.CartsOk(g.f, g.list), hops, isGoal, now, moved, ok, rest, count, all, stuck, isSo, ring, isRing)
}

func TestVehicleArgumentsAreNotChanged(t *testing.T) {
	for _, plain := range trafficOfAllKinds() {
		g := roomyTraffic(plain)
		before := wholeTraffic(g)
		got := allOfTraffic(g)
		if wholeTraffic(g) != before {
			t.Fatal("written into", plain)
		}
		if got != allOfTraffic(clippedTraffic(plain)) {
			t.Fatal("what lies behind a list is looked at", plain)
		}
	}
}

// checkTrafficNew writes over an answer: neither what was handed in nor another
// answer may change by it.
func checkTrafficNew[T comparable](t *testing.T, name string, plain traffic, other T, ask func(traffic) []T) {
	t.Helper()
	g := roomyTraffic(plain)
	before := wholeTraffic(g)
	earlier, got := ask(g), ask(g)
	want := slices.Clone(got)
	overwriteAll(got, other)
	if wholeTraffic(g) != before {
		t.Fatal(name, "shares memory with what was handed in", plain)
	}
	if !slices.Equal(earlier, want) || !slices.Equal(ask(g), want) {
		t.Fatal(name, "shares memory with another answer", plain)
	}
	overwrite(g.f.Ways)
	overwriteAll(g.list, going19(-99, -99))
	if !slices.Equal(earlier, want) {
		t.Fatal(name, "keeps the memory of what was handed in", plain)
	}
}

func TestVehicleAnswersAreNewMemory(t *testing.T) {
	gone := going19(-99, -99)
	for _, plain := range trafficOfAllKinds() {
		checkTrafficNew(t, "Hops", plain, -99, func(g traffic) []int {
			return first(impl.Hops(g.f, g.goal))
		})
		checkTrafficNew(t, "Round", plain, gone, func(g traffic) carts {
			now, _, _ := impl.Round(g.f, g.list)
			return now
		})
		checkTrafficNew(t, "Round, who moved", plain, -99, func(g traffic) []int {
			_, moved, _ := impl.Round(g.f, g.list)
			return moved
		})
		checkTrafficNew(t, "Settle19", plain, gone, func(g traffic) carts {
			rest, _, _ := impl.Settle19(g.f, g.list, g.rounds)
			return rest
		})
		checkTrafficNew(t, "Stuck", plain, -99, func(g traffic) []int {
			return first(impl.Stuck(g.f, g.list))
		})
		checkTrafficNew(t, "OneWay", plain, -99, func(g traffic) []int {
			f, _ := impl.OneWay(g.f.Wide, g.f.High)
			return f.Ways
		})
	}
}

func TestVehiclesAnswerAgainAndTogether(t *testing.T) {
	all := trafficOfAllKinds()[:120]
	ask := func() string {
		told := ""
		for _, g := range all {
			told += fmt.Sprintln(allOfTraffic(g))
		}
		return told
	}
	want := ask()
	told := make(chan string)
	for range 8 {
		go func() { told <- ask() }()
	}
	for range 8 {
		if got := <-told; got != want {
			t.Error("answers hang on earlier calls")
		}
	}
}
