package tests

import (
	"slices"
	"testing"

	"loop.example/g00059/impl"
)

// Promise 22, ways: when one can be at each port, and by which legs.

func TestEarliestByHand(t *testing.T) {
	list := legs{sail(1, 0, 1, 5, 9), sail(2, 1, 2, 10, 12), sail(1, 1, 2, 9, 20)}
	checkEarliest(t, list, 0, 3, 0, there(0, 3, 1, 9, 2, 12))
	checkEarliest(t, list, 0, 3, 1, there(0, 3, 1, 9, 2, 12))
	checkEarliest(t, list, 0, 3, 2, there(0, 3, 1, 9, 2, 20))
	checkEarliest(t, list, 0, 3, 10000, there(0, 3, 1, 9, 2, 20))
	checkEarliest(t, list, 1, 3, 2, there(1, 3, 2, 12))
	checkEarliest(t, list, 1, 9, 10000, there(1, 9, 2, 12))
	checkEarliest(t, list, 1, 10, 2, there(1, 10, 2, 12))
	checkEarliest(t, list, 1, 11, 2, there(1, 11))
	checkEarliest(t, list, 2, 0, 0, there(2, 0))
	checkEarliest(t, list, 19, 100000000, 0, there(19, 100000000))
	checkEarliest(t, nil, 7, 4, 5, there(7, 4))
	checkEarliest(t, legs{}, 0, 0, 10000, there(0, 0))
}

func TestEarliestArguments(t *testing.T) {
	list := legs{sail(1, 0, 19, 5, 9), sail(2, 19, 0, 15, 19), sail(3, 19, 4, 99999999, 100000000)}
	for _, from := range []int{-1 << 63, -1, 0, 1, 18, 19, 20, 21, 1<<63 - 1} {
		for _, at := range []int{-1 << 63, -1, 0, 5, 6, 99999999, 100000000, 100000001, 1<<63 - 1} {
			for _, change := range []int{-1 << 63, -1, 0, 6, 7, 9999, 10000, 10001, 1<<63 - 1} {
				isRight := isBetween(from, 0, 19) && isBetween(at, 0, 100000000) && isBetween(change, 0, 10000)
				for _, some := range []legs{list, nil} {
					checkTravelAsTold(t, some, from, 4, at, change)
					if !isRight {
						checkNoEarliest(t, some, from, at, change)
						checkNoTravel(t, some, from, 4, at, change)
						checkNoTravel(t, some, from, from, at, change)
						continue
					}
					checkTravel(t, some, from, from, at, change)
					for _, to := range []int{-1 << 63, -2, -1, 20, 21, 1<<63 - 1} {
						checkNoTravel(t, some, from, to, at, change)
					}
				}
			}
		}
	}
	checkEarliest(t, list, 0, 0, 10000, there(0, 0, 19, 9, 4, 100000000))
	checkTravel(t, list, 0, 4, 0, 10000, 0, 2)
	for _, wrong := range wrongLegs() {
		checkNoEarliest(t, wrong, 0, 0, 0)
		checkNoEarliest(t, wrong, 19, 100000000, 10000)
		checkNoTravel(t, wrong, 0, 1, 0, 0)
		checkNoTravel(t, wrong, 0, 0, 0, 0)
		checkNoTravel(t, wrong, 0, 20, 0, 0)
	}
}

// One is aboard who is there as a leg leaves, and none who comes a minute later.
func TestEarliestFirstLeg(t *testing.T) {
	for _, leaves := range []int{0, 1, 7, 99999999} {
		list := legs{sail(5, 3, 4, leaves, leaves+1)}
		for at := max(0, leaves-2); at <= leaves+2; at++ {
			for _, change := range []int{0, 1, 10000} {
				if at > 100000000 {
					checkNoEarliest(t, list, 3, at, change)
				} else if at > leaves {
					checkEarliest(t, list, 3, at, change, there(3, at))
					checkNoTravel(t, list, 3, 4, at, change)
				} else {
					checkEarliest(t, list, 3, at, change, there(3, at, 4, leaves+1))
					checkTravel(t, list, 3, 4, at, change, 0)
				}
			}
		}
	}
}

// A change wants its minutes between unlike Services, and none within one.
func TestEarliestChanges(t *testing.T) {
	for _, change := range []int{0, 1, 2, 9, 9999, 10000} {
		for wait := max(0, change-2); wait <= change+2; wait++ {
			list := legs{sail(1, 0, 1, 5, 9), sail(2, 1, 2, 9+wait, 30000)}
			if wait >= change {
				checkEarliest(t, list, 0, 3, change, there(0, 3, 1, 9, 2, 30000))
				checkTravel(t, list, 0, 2, 3, change, 0, 1)
			} else {
				checkEarliest(t, list, 0, 3, change, there(0, 3, 1, 9))
				checkNoTravel(t, list, 0, 2, 3, change)
			}
			list[1].Service = 1
			checkEarliest(t, list, 0, 3, change, there(0, 3, 1, 9, 2, 30000))
			checkTravel(t, list, 0, 2, 3, change, 0, 1)
		}
	}
	list := legs{sail(1, 0, 1, 5, 9), sail(2, 1, 2, 8, 12)}
	checkEarliest(t, list, 0, 3, 0, there(0, 3, 1, 9))
	checkEarliest(t, list, 0, 5, 0, there(0, 5, 1, 9))
	checkEarliest(t, list, 0, 6, 0, there(0, 6))
}

// Who comes to a port sooner by one Service may miss there what one who comes
// later by another needs no change for.
func TestEarliestByTheLaterService(t *testing.T) {
	list := legs{sail(1, 0, 1, 0, 5), sail(2, 0, 1, 0, 9), sail(2, 1, 2, 10, 15)}
	checkEarliest(t, list, 0, 0, 5, there(0, 0, 1, 5, 2, 15))
	checkTravel(t, list, 0, 2, 0, 5, 0, 2)
	checkEarliest(t, list, 0, 0, 6, there(0, 0, 1, 5, 2, 15))
	checkTravel(t, list, 0, 2, 0, 6, 1, 2)
	checkTravel(t, list, 0, 1, 0, 6, 0)
	checkTravel(t, list, 0, 2, 0, 10000, 1, 2)
	list[1].Service = 3
	checkEarliest(t, list, 0, 0, 5, there(0, 0, 1, 5, 2, 15))
	checkEarliest(t, list, 0, 0, 6, there(0, 0, 1, 5))
	checkNoTravel(t, list, 0, 2, 0, 6)

	far := legs{sail(1, 0, 1, 0, 5), sail(2, 0, 3, 0, 3), sail(2, 3, 1, 4, 9), sail(2, 1, 2, 10, 15), sail(3, 2, 4, 20, 25)}
	checkEarliest(t, far, 0, 0, 6, there(0, 0, 1, 5, 2, 15, 3, 3))
	checkEarliest(t, far, 0, 0, 5, there(0, 0, 1, 5, 2, 15, 3, 3, 4, 25))
	checkTravel(t, far, 0, 4, 0, 5, 0, 3, 4)
	checkTravel(t, far, 0, 2, 0, 6, 1, 2, 3)
}

// One who starts at a port needs no change there, but one who came back does.
func TestEarliestBackToTheFirstPort(t *testing.T) {
	list := legs{sail(1, 0, 1, 5, 9), sail(2, 1, 0, 10, 12), sail(3, 0, 2, 12, 13)}
	checkEarliest(t, list, 0, 3, 0, there(0, 3, 1, 9, 2, 13))
	checkEarliest(t, list, 0, 3, 10000, there(0, 3, 1, 9, 2, 13))
	checkTravel(t, list, 0, 2, 3, 0, 2)
	checkTravel(t, list, 0, 0, 3, 0)
	checkEarliest(t, list, 1, 3, 0, there(0, 12, 1, 3, 2, 13))
	checkEarliest(t, list, 1, 3, 1, there(0, 12, 1, 3))
	checkTravel(t, list, 1, 2, 3, 0, 1, 2)
	checkTravel(t, list, 1, 1, 3, 0)
}

func TestLegsInAnyOrder(t *testing.T) {
	list := legs{sail(3, 2, 3, 30, 35), sail(2, 1, 2, 20, 25), sail(1, 0, 1, 10, 15)}
	checkEarliest(t, list, 0, 10, 5, there(0, 10, 1, 15, 2, 25, 3, 35))
	checkTravel(t, list, 0, 3, 10, 5, 2, 1, 0)
	checkEarliest(t, list, 0, 10, 6, there(0, 10, 1, 15))
	checkEarliest(t, list, 0, 11, 0, there(0, 11))
	backwards := unlikeRow(19)
	slices.Reverse(backwards)
	checkEarliest(t, backwards, 0, 0, 5, there(0, 0, 1, 5, 2, 15, 3, 25, 4, 35, 5, 45, 6, 55, 7, 65, 8, 75, 9, 85, 10, 95, 11, 105, 12, 115, 13, 125, 14, 135, 15, 145, 16, 155, 17, 165, 18, 175, 19, 185))
	checkTravel(t, backwards, 0, 6, 0, 5, 18, 17, 16, 15, 14, 13)
}

func TestTravelOfSixLegs(t *testing.T) {
	for _, list := range []legs{rowOfLegs(9), unlikeRow(9), rowOfLegs(60), unlikeRow(60)} {
		for to := 1; to <= 9; to++ {
			if to <= 6 {
				checkTravel(t, list, 0, to, 0, 5, upTo(to)...)
			} else {
				checkNoTravel(t, list, 0, to, 0, 5)
			}
			if got, ok := impl.Earliest(list, 0, 0, 5); got[to] != 10*to-5 || !ok {
				t.Error(list, got)
			}
		}
	}
	row := append(rowOfLegs(7), sail(2, 0, 7, 0, 66))
	checkNoTravel(t, row, 0, 7, 0, 0)
	row[7].Comes = 65
	checkTravel(t, row, 0, 7, 0, 0, 7)
	row[7] = sail(2, 0, 2, 0, 10)
	checkTravel(t, row, 0, 7, 0, 10, 7, 2, 3, 4, 5, 6)
	checkNoTravel(t, row, 0, 7, 0, 11)
	row[7] = sail(2, 5, 7, 50, 64)
	checkTravel(t, row, 0, 7, 0, 0, 0, 1, 2, 3, 4, 7)
	checkNoTravel(t, row, 0, 7, 0, 6)
}

func TestTravelTakesTheFewestLegs(t *testing.T) {
	list := legs{sail(1, 0, 1, 0, 5), sail(1, 1, 3, 10, 20), sail(2, 0, 3, 0, 20), sail(3, 0, 2, 0, 1), sail(3, 2, 3, 2, 30)}
	checkTravel(t, list, 0, 3, 0, 0, 2)
	checkTravel(t, list, 0, 3, 0, 10000, 2)
	list[2].Comes = 21
	checkTravel(t, list, 0, 3, 0, 0, 0, 1)
	list[1].Comes = 22
	checkTravel(t, list, 0, 3, 0, 0, 2)
	list[4].Comes = 20
	checkTravel(t, list, 0, 3, 0, 0, 3, 4)
	list[4].Comes = 21
	checkTravel(t, list, 0, 3, 0, 0, 2)
}

func TestTravelTakesTheFirstPlaces(t *testing.T) {
	list := legs{sail(1, 0, 1, 0, 5), sail(2, 0, 2, 0, 5), sail(3, 2, 3, 10, 20), sail(4, 1, 3, 10, 20)}
	checkTravel(t, list, 0, 3, 0, 0, 0, 3)
	checkTravel(t, list, 0, 3, 0, 5, 0, 3)
	checkNoTravel(t, list, 0, 3, 0, 6)
	list[0].Comes = 6
	checkTravel(t, list, 0, 3, 0, 5, 1, 2)
	list[0].Comes = 5
	list[3].Service = 1
	checkTravel(t, list, 0, 3, 0, 6, 0, 3)
	list[3].Comes = 21
	checkTravel(t, list, 0, 3, 0, 5, 1, 2)
	same := legs{sail(1, 0, 1, 0, 5), sail(2, 0, 1, 0, 5), sail(3, 1, 2, 7, 9), sail(4, 1, 2, 6, 9), sail(2, 1, 2, 5, 9)}
	checkTravel(t, same, 0, 2, 0, 2, 0, 2)
	checkTravel(t, same, 0, 2, 0, 3, 1, 4)
	checkTravel(t, same, 0, 1, 0, 0, 0)
	lead := legs{sail(1, 0, 1, 5, 6), sail(2, 0, 1, 5, 6), sail(3, 0, 1, 4, 6)}
	checkTravel(t, lead, 0, 1, 0, 0, 0)
	checkTravel(t, lead, 0, 1, 5, 0, 0)
	checkTravel(t, legs{lead[2], lead[1], lead[0]}, 0, 1, 5, 0, 1)
}

func TestDrawnWays(t *testing.T) {
	d := &draws{state: 225}
	ended := [9]int{}
	for range 3000 {
		list := drawnLegs(d)
		if d.below(8) == 0 {
			list = spoiltLegs(d, list)
		}
		from, at, change := d.between(-1, 9), d.between(0, 20), d.below(8)
		if d.below(20) == 0 {
			change = -1
		}
		for to := -1; to < 10; to++ {
			checkTravelAsTold(t, list, from, to, at, change)
			way, ok := impl.Travel(list, from, to, at, change)
			if ok {
				ended[len(way)]++
			} else {
				ended[8]++
			}
		}
	}
	if ended[6] < 20 || min(ended[0], ended[1], ended[2], ended[3], ended[4], ended[8]) < 100 {
		t.Error("an end is seldom come to", ended)
	}
}

// goneWays tells each way from a port on of at most so many legs that goes by the
// rules; it stops at none.
func goneWays(list legs, came cameBy, minute, change, most int, tell func(way []int), way ...int) {
	if len(way) == most {
		return
	}
	for i, l := range list {
		if came.isAboard(l, minute, change) {
			now := append(slices.Clone(way), i)
			tell(now)
			goneWays(list, cameBy{l.To, l.Service}, l.Comes, change, most, tell, now...)
		}
	}
}

// Of few legs all ways can be gone: none comes sooner, none that comes as soon has
// fewer legs, and none with as many stands ahead of the one told.
func TestNoWayIsBetter(t *testing.T) {
	d := &draws{state: 226}
	for range 1500 {
		list := drawnLegs(d)
		list = list[:min(len(list), 12)]
		from, at, change := d.below(4), d.between(0, 12), d.below(6)
		minutes, best := there(from, at), make([][]int, 20)
		goneWays(list, cameBy{from, 0}, at, change, 12, func(way []int) {
			l := list[way[len(way)-1]]
			if old := minutes[l.To]; old >= 0 && (old < l.Comes || l.To == from) {
				return
			} else if old < 0 || l.Comes < old || len(way) < len(best[l.To]) || len(way) == len(best[l.To]) && slices.Compare(way, best[l.To]) < 0 {
				minutes[l.To], best[l.To] = l.Comes, way
			}
		})
		checkEarliest(t, list, from, at, change, minutes)
		for to, way := range best {
			if to != from && (way == nil || len(way) > 6) {
				checkNoTravel(t, list, from, to, at, change)
			} else {
				checkTravel(t, list, from, to, at, change, way...)
			}
		}
	}
}

// Each leg of a way leaves where the one ahead came, when one is there, with the
// change between unlike Services; and the last comes as Earliest tells. So what is
// told as a way can be loaded.
func TestWaysAreWays(t *testing.T) {
	d := &draws{state: 227}
	for range 3000 {
		list := drawnLegs(d)
		from, at, change := d.below(5), d.between(0, 15), d.below(6)
		minutes, _ := impl.Earliest(list, from, at, change)
		for to := range 20 {
			way, ok := impl.Travel(list, from, to, at, change)
			if !ok || to == from {
				continue
			}
			came, minute := cameBy{from, 0}, at
			for _, place := range way {
				l := list[place]
				if !came.isAboard(l, minute, change) {
					t.Fatal("nobody is there", list, from, to, at, change, way)
				}
				came, minute = cameBy{l.To, l.Service}, l.Comes
			}
			if came.port != to || minute != minutes[to] || !isBetween(len(way), 1, 6) {
				t.Fatal(list, from, to, at, change, way, minutes)
			}
			if _, code := impl.Load22(list, way, 1); code != impl.LineDone && code != impl.LineFull {
				t.Fatal("is no way", list, way, code)
			}
		}
	}
}

// Nobody is anywhere ahead of time: nothing comes ahead of at, and who starts later
// or wants more time for a change is nowhere sooner.
func TestNobodyIsAheadOfTime(t *testing.T) {
	d := &draws{state: 228}
	isSooner := func(a, b []int) bool {
		for port := range a {
			if a[port] >= 0 && (b[port] < 0 || a[port] < b[port]) {
				return true
			}
		}
		return false
	}
	for range 2000 {
		list := drawnLegs(d)
		from, at, change := d.below(5), d.between(0, 15), d.below(6)
		minutes := first(impl.Earliest(list, from, at, change))
		for port, minute := range minutes {
			if minute >= 0 && minute < at || (minute == at) != (port == from) {
				t.Fatal(list, from, at, change, minutes)
			}
		}
		if isSooner(first(impl.Earliest(list, from, at+1, change)), minutes) || isSooner(first(impl.Earliest(list, from, at, change+1)), minutes) {
			t.Fatal(list, from, at, change, minutes)
		}
	}
}

// The order of the list is seen in the places alone, not in the minutes.
func TestMinutesHangOnNoOrder(t *testing.T) {
	d := &draws{state: 229}
	for range 1000 {
		list := drawnLegs(d)
		from, at, change := d.below(5), d.between(0, 15), d.below(6)
		minutes, _ := impl.Earliest(list, from, at, change)
		byService := slices.Clone(list)
		slices.SortStableFunc(byService, func(a, b impl.Leg) int { return b.Service - a.Service })
		checkEarliest(t, byService, from, at, change, minutes)
	}
}
