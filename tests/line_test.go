package tests

import (
	"slices"
	"testing"

	"loop.example/g00059/impl"
)

// Promise 22, legs by themselves: which lists of them are so, what is loaded, what
// a delay does, and which changes are missed by it.

func TestLineConstants(t *testing.T) {
	got := []int{impl.MaxLegs, impl.MaxPorts, impl.LineDone, impl.LineBad, impl.LineWay, impl.LineFull}
	if !slices.Equal(got, []int{60, 20, 0, 1, 2, 3}) {
		t.Error(got)
	}
}

func TestLegsOkOfOne(t *testing.T) {
	right := func(l impl.Leg, want bool) {
		t.Helper()
		checkLegs(t, legs{l}, want)
		checkLegs(t, legs{sail(50, 3, 4, 0, 1), l, sail(51, 3, 4, 0, 1)}, want)
	}
	right(sail(1, 0, 1, 5, 9), true)
	for _, n := range []int{-1 << 63, -1, 0, 1, 2, 18, 19, 20, 21, 99, 100, 101, 1<<63 - 1} {
		right(sail(n, 0, 1, 5, 9), isBetween(n, 1, 100))
		right(sail(1, n, 7, 5, 9), isBetween(n, 0, 19))
		right(sail(1, 7, n, 5, 9), isBetween(n, 0, 19))
		right(sail(1, n, n, 5, 9), false)
	}
	for port := range 20 {
		right(sail(1, port, (port+1)%20, 5, 9), true)
		right(sail(1, port, port, 5, 9), false)
	}
	for _, n := range []int{-1 << 63, -2, -1, 0, 1, 99999998, 99999999} {
		right(sail(1, 0, 1, n, n+1), n >= 0)
		right(sail(1, 0, 1, n, 100000000), n >= 0)
		right(sail(1, 0, 1, n, n), false)
		right(sail(1, 0, 1, n+1, n), false)
		right(sail(1, 0, 1, n, 100000001), false)
	}
	right(sail(1, 0, 1, 100000000, 100000000), false)
	right(sail(1, 0, 1, 100000000, 100000001), false)
	right(sail(1, 0, 1, 0, 0), false)
	right(sail(1, 0, 1, -5, -3), false)
	for _, n := range []int{-1 << 63, -1, 0, 1, 999999, 1000000, 1000001, 1<<63 - 1} {
		right(legOf(1, 0, 1, 5, 9, n), isBetween(n, 0, 1000000))
	}
}

func TestLegsOkOfMany(t *testing.T) {
	checkLegs(t, nil, true)
	checkLegs(t, legs{}, true)
	for _, many := range []int{1, 2, 59, 60, 61, 62} {
		checkLegs(t, rowOfLegs(many), many <= 60)
		checkLegs(t, unlikeRow(many), many <= 60)
	}
	for name, wrong := range wrongLegs() {
		if lineOkOf(wrong) {
			t.Error(name, "is right")
		}
		checkLegs(t, wrong, false)
	}
}

func TestLegsOfOneServiceFollow(t *testing.T) {
	one := sail(1, 0, 1, 5, 9)
	for leaves := 0; leaves <= 12; leaves++ {
		for from := range 4 {
			next := sail(1, from, 5, leaves, 20)
			want := from == 1 && leaves >= 9
			checkLegs(t, legs{one, next}, want)
			checkLegs(t, legs{one, sail(2, 7, 8, 0, 3), next}, want)
			checkLegs(t, legs{one, sail(2, from, 8, 0, 3), sail(3, 1, 2, 2, 3), next, sail(2, 8, 0, 3, 4)}, want)
			checkLegs(t, legs{sail(2, 5, 6, 1, 2), one, next, sail(1, 5, 0, 20, 21)}, want)
			next.Service = 2
			checkLegs(t, legs{one, next}, true)
		}
	}
	checkLegs(t, legs{one, sail(1, 1, 0, 9, 10), sail(1, 0, 1, 10, 11)}, true)
	checkLegs(t, legs{one, sail(1, 1, 0, 9, 12), sail(1, 0, 1, 10, 11)}, false)
	checkLegs(t, legs{one, sail(1, 1, 0, 9, 10), sail(1, 1, 2, 10, 11)}, false)
	checkLegs(t, legs{sail(1, 0, 1, 99999990, 99999999), sail(1, 1, 0, 99999999, 100000000)}, true)
}

func TestLoadByHand(t *testing.T) {
	list := legs{sail(1, 0, 1, 5, 9), sail(2, 1, 2, 9, 12), sail(1, 1, 2, 9, 20), sail(3, 2, 3, 12, 13)}
	checkLoad22(t, list, []int{0}, 3, withRoom(list, 7), 0)
	checkLoad22(t, list, []int{0, 1}, 10, withRoom(list, 0, 0), 0)
	checkLoad22(t, list, []int{0, 2}, 1, withRoom(list, 9, 10, 9), 0)
	checkLoad22(t, list, []int{0, 1, 3}, 4, withRoom(list, 6, 6, 10, 6), 0)
	checkLoad22(t, list, []int{3}, 4, withRoom(list, 10, 10, 10, 6), 0)
	checkNoLoad22(t, list, []int{0, 1}, 11, 3)
	checkNoLoad22(t, list, []int{0, 3}, 1, 2)
	checkNoLoad22(t, list, []int{1, 0}, 1, 2)
	checkNoLoad22(t, list, []int{2, 3}, 1, 2)
}

func TestLoadMany(t *testing.T) {
	list := legs{legOf(1, 0, 1, 5, 9, 1000000), legOf(2, 1, 2, 9, 12, 999999)}
	for _, many := range []int{-1 << 63, -1000000, -1, 0, 1000001, 1000002, 1<<63 - 1} {
		for _, way := range [][]int{{0}, {0, 1}, {}, {1, 0}, {-1}, {2}} {
			checkNoLoad22(t, list, way, many, 1)
			checkNoLoad22(t, nil, way, many, 1)
		}
	}
	checkLoad22(t, list, []int{0}, 1, withRoom(list, 999999), 0)
	checkLoad22(t, list, []int{0}, 999999, withRoom(list, 1), 0)
	checkLoad22(t, list, []int{0}, 1000000, withRoom(list, 0), 0)
	checkLoad22(t, list, []int{0, 1}, 999999, withRoom(list, 1, 0), 0)
	checkNoLoad22(t, list, []int{0, 1}, 1000000, 3)
	checkNoLoad22(t, list, []int{1}, 1000000, 3)
	for room := range 5 {
		for place := range 6 {
			row := rowOfLegs(6)
			row[place].Room = room
			for many := 1; many <= 6; many++ {
				checkLoad22AsTold(t, row, upTo(6), many)
				checkLoad22AsTold(t, row, upTo(place+1), many)
				checkLoad22AsTold(t, row, upTo(place), many)
				if many > room {
					checkNoLoad22(t, row, []int{place}, many, 3)
					checkNoLoad22(t, row, upTo(6), many, 3)
				}
			}
		}
	}
	checkNoLoad22(t, legs{legOf(1, 0, 1, 5, 9, 0)}, []int{0}, 1, 3)
}

func TestLoadWays(t *testing.T) {
	row := rowOfLegs(9)
	for many := range 10 {
		if isBetween(many, 1, 6) {
			var rooms []int
			for range many {
				rooms = append(rooms, 8)
			}
			checkLoad22(t, row, upTo(many), 2, withRoom(row, rooms...), 0)
		} else {
			checkNoLoad22(t, row, upTo(many), 2, 2)
		}
	}
	for _, way := range [][]int{nil, {}, {-1}, {9}, {10}, {-1 << 63}, {1<<63 - 1}, {0, -1}, {8, 9}, {0, 1, 9}, {-1, 0}, {9, 0}, {0, 0}, {0, 1, 1}, {0, 1, 0}, {1, 0}, {0, 2}, {0, 1, 3}} {
		checkNoLoad22(t, row, way, 2, 2)
		checkNoLoad22(t, row, way, 11, 2)
		checkNoLoad22(t, row, way, 0, 1)
		checkNoLoad22(t, nil, way, 1, 2)
	}
	circle := legs{sail(1, 0, 1, 1, 2), sail(1, 1, 0, 3, 4), sail(1, 0, 1, 5, 6), sail(2, 1, 0, 2, 3)}
	checkLoad22(t, circle, []int{0, 1, 2}, 1, withRoom(circle, 9, 9, 9), 0)
	checkLoad22(t, circle, []int{0, 3, 2}, 1, withRoom(circle, 9, 10, 9, 9), 0)
	checkNoLoad22(t, circle, []int{0, 1, 0}, 1, 2)
	checkNoLoad22(t, circle, []int{0, 3, 0}, 1, 2)
	checkNoLoad22(t, circle, []int{2, 3}, 1, 2)
	checkNoLoad22(t, circle, []int{2, 1}, 1, 2)
}

// What is loaded needs no change, but is never ahead of time.
func TestLoadInTime(t *testing.T) {
	for leaves := range 20 {
		for from := range 4 {
			list := legs{sail(1, 0, 1, 5, 9), sail(2, from, 5, leaves, 20)}
			if from == 1 && leaves >= 9 {
				checkLoad22(t, list, []int{0, 1}, 10, withRoom(list, 0, 0), 0)
			} else {
				checkNoLoad22(t, list, []int{0, 1}, 10, 2)
				checkNoLoad22(t, list, []int{0, 1}, 11, 2)
			}
		}
	}
}

func TestLoadOfLegsThatAreNotSo(t *testing.T) {
	for _, wrong := range wrongLegs() {
		for _, way := range [][]int{nil, {0}, {0, 1}, {-1}, upTo(7)} {
			checkNoLoad22(t, wrong, way, 1, 1)
			checkNoLoad22(t, wrong, way, 0, 1)
			checkNoLoad22(t, wrong, way, 1000000, 1)
		}
	}
}

func TestDelayByHand(t *testing.T) {
	list := legs{sail(1, 0, 1, 5, 9), sail(2, 1, 2, 10, 12), sail(1, 1, 2, 12, 20), sail(2, 2, 0, 15, 16), sail(1, 2, 3, 30, 31)}
	checkDelay(t, list, 0, 0, 0, list)
	checkDelay(t, list, 0, 0, 3, list)
	checkDelay(t, list, 0, 3, 0, withTimes(list, 8, 12, 10, 12, 12, 20, 15, 16, 30, 31))
	checkDelay(t, list, 0, 3, 1, withTimes(list, 8, 12, 10, 12, 13, 21, 15, 16, 30, 31))
	checkDelay(t, list, 0, 4, 0, withTimes(list, 9, 13, 10, 12, 13, 21, 15, 16, 30, 31))
	checkDelay(t, list, 0, 13, 0, withTimes(list, 18, 22, 10, 12, 22, 30, 15, 16, 30, 31))
	checkDelay(t, list, 0, 13, 2, withTimes(list, 18, 22, 10, 12, 24, 32, 15, 16, 34, 35))
	checkDelay(t, list, 0, 14, 0, withTimes(list, 19, 23, 10, 12, 23, 31, 15, 16, 31, 32))
	checkDelay(t, list, 2, 11, 0, withTimes(list, 5, 9, 10, 12, 23, 31, 15, 16, 31, 32))
	checkDelay(t, list, 4, 11, 5, withTimes(list, 5, 9, 10, 12, 12, 20, 15, 16, 41, 42))
	checkDelay(t, list, 1, 3, 0, withTimes(list, 5, 9, 13, 15, 12, 20, 15, 16, 30, 31))
	checkDelay(t, list, 1, 3, 4, withTimes(list, 5, 9, 13, 15, 12, 20, 19, 20, 30, 31))
	checkDelay(t, legs{sail(7, 0, 1, 5, 9)}, 0, 10000, 1000, legs{sail(7, 0, 1, 10005, 10009)})
}

// A turn that is longer than what lies between two legs makes the second one late,
// also without a delay.
func TestDelayByTurns(t *testing.T) {
	list := legs{sail(1, 0, 1, 5, 9), sail(1, 1, 2, 12, 20), sail(2, 0, 1, 9, 10), sail(1, 2, 3, 20, 21)}
	checkDelay(t, list, 0, 0, 0, list)
	checkDelay(t, list, 0, 0, 4, withTimes(list, 5, 9, 13, 21, 9, 10, 25, 26))
	checkDelay(t, list, 0, 0, 3, withTimes(list, 5, 9, 12, 20, 9, 10, 23, 24))
	checkDelay(t, list, 1, 0, 3, withTimes(list, 5, 9, 12, 20, 9, 10, 23, 24))
	checkDelay(t, list, 3, 0, 1000, list)
	checkDelay(t, list, 2, 0, 1000, list)
	checkDelay(t, list, 0, 0, 1000, withTimes(list, 5, 9, 1009, 1017, 9, 10, 2017, 2018))
}

func TestDelayArguments(t *testing.T) {
	list := legs{sail(1, 0, 1, 5, 9), sail(1, 1, 2, 12, 20), sail(2, 0, 1, 9, 10)}
	for _, at := range []int{-1 << 63, -1, 0, 1, 2, 3, 4, 1<<63 - 1} {
		for _, by := range []int{-1 << 63, -1, 0, 1, 9999, 10000, 10001, 1<<63 - 1} {
			for _, turn := range []int{-1 << 63, -1, 0, 1, 999, 1000, 1001, 1<<63 - 1} {
				checkDelayAsTold(t, list, at, by, turn)
				if !isBetween(at, 0, 2) || !isBetween(by, 0, 10000) || !isBetween(turn, 0, 1000) {
					checkNoDelay(t, list, at, by, turn)
				}
				checkNoDelay(t, nil, at, by, turn)
			}
		}
	}
	for _, wrong := range wrongLegs() {
		checkNoDelay(t, wrong, 0, 0, 0)
		checkNoDelay(t, wrong, 0, 1, 1)
	}
}

func TestDelayAtTheEndOfTime(t *testing.T) {
	const end = 100000000
	one := legs{sail(1, 0, 1, end-50, end-40)}
	checkDelay(t, one, 0, 39, 1000, withTimes(one, end-11, end-1))
	checkDelay(t, one, 0, 40, 1000, withTimes(one, end-10, end))
	checkNoDelay(t, one, 0, 41, 0)
	checkNoDelay(t, one, 0, 10000, 0)
	two := legs{sail(1, 0, 1, end-50, end-40), sail(2, 0, 1, 5, 6), sail(1, 1, 2, end-30, end-10)}
	checkDelay(t, two, 0, 20, 0, withTimes(two, end-30, end-20, 5, 6, end-20, end))
	checkDelay(t, two, 0, 5, 15, withTimes(two, end-45, end-35, 5, 6, end-20, end))
	checkNoDelay(t, two, 0, 21, 0)
	checkNoDelay(t, two, 0, 5, 16)
	checkNoDelay(t, two, 0, 0, 21)
	checkDelay(t, two, 1, 10000, 0, withTimes(two, end-50, end-40, 10005, 10006, end-30, end-10))
}

func TestMissedByHand(t *testing.T) {
	list := legs{sail(1, 0, 1, 5, 9), sail(2, 1, 2, 10, 12), sail(3, 1, 3, 14, 15), sail(1, 1, 2, 9, 20)}
	late := withTimes(list, 9, 13, 10, 12, 14, 15, 13, 24)
	checkMissed(t, list, late, 0, 1)
	checkMissed(t, list, late, 1, 1)
	checkMissed(t, list, late, 2, 2)
	checkMissed(t, list, late, 5, 2)
	checkMissed(t, list, late, 6)
	checkMissed(t, list, list, 0)
	checkMissed(t, late, list, 0)
	checkMissed(t, nil, nil, 0)
	checkMissed(t, legs{}, nil, 10000)
	round := legs{sail(1, 0, 1, 0, 5), sail(2, 1, 0, 6, 9), sail(1, 1, 0, 7, 11), sail(3, 0, 2, 11, 12)}
	checkMissed(t, round, withTimes(round, 0, 7, 6, 9, 7, 11, 8, 9), 0, 1, 7, 11)
	checkMissed(t, round, withTimes(round, 0, 7, 6, 9, 7, 11, 8, 9), 1, 1, 7)
	checkMissed(t, round, withTimes(round, 1, 5, 10, 11, 12, 13, 11, 12), 0, 11)
	checkMissed(t, round, withTimes(round, 1, 5, 10, 11, 12, 13, 11, 12), 2, 7)
}

// A change that is just long enough before, and short by one minute behind.
func TestMissedByOneMinute(t *testing.T) {
	before := func(gap int) legs { return legs{sail(1, 0, 1, 5, 9), sail(2, 1, 2, 9+gap, 30000)} }
	for _, change := range []int{0, 1, 7, 9999, 10000} {
		for gap := change - 2; gap <= change+2; gap++ {
			for moved := change - 2; moved <= change+2; moved++ {
				if min(gap, moved) < -9 {
					continue
				}
				if gap >= change && moved < change {
					checkMissed(t, before(gap), before(moved), change, 1)
				} else {
					checkMissed(t, before(gap), before(moved), change)
				}
			}
		}
	}
}

func TestMissedOnlyBetweenUnlikeServices(t *testing.T) {
	list := legs{sail(1, 0, 1, 5, 9), sail(1, 1, 2, 19, 20)}
	checkMissed(t, list, withTimes(list, 5, 9, 9, 10), 5)
	list[1].Service = 2
	checkMissed(t, list, withTimes(list, 5, 9, 9, 10), 5, 1)
	list[1].From, list[1].To = 3, 1
	checkMissed(t, list, withTimes(list, 5, 9, 9, 10), 5)
	list[1].From = 0
	checkMissed(t, list, withTimes(list, 5, 9, 9, 10), 5)
	list = legs{sail(1, 1, 2, 19, 20), sail(2, 0, 1, 5, 9)}
	checkMissed(t, list, withTimes(list, 9, 10, 5, 9), 5, 2)
	self := legs{sail(1, 0, 1, 5, 9)}
	checkMissed(t, self, withTimes(self, 50, 90), 0)
	checkMissed(t, self, withTimes(self, 0, 1), 0)
}

func TestMissedOfListsThatAreNotAlike(t *testing.T) {
	list := legs{sail(1, 0, 1, 5, 9), sail(2, 1, 2, 10, 12), sail(4, 3, 4, 10, 12)}
	late := withTimes(list, 15, 19, 10, 12, 10, 12)
	checkMissed(t, list, late, 1, 1)
	for _, change := range []int{-1 << 63, -2, -1, 10001, 10002, 1<<63 - 1} {
		checkNotMissed(t, list, late, change)
		checkNotMissed(t, nil, nil, change)
	}
	for place := range list {
		for field := range 4 {
			other := slices.Clone(late)
			l := &other[place]
			*[]*int{&l.Service, &l.From, &l.To, &l.Room}[field] += 5
			checkLegs(t, other, true)
			checkNotMissed(t, list, other, 1)
			checkNotMissed(t, other, list, 1)
		}
	}
	for _, other := range []legs{nil, late[:1], late[:2], late[1:], append(slices.Clone(late), sail(9, 0, 1, 0, 1))} {
		checkNotMissed(t, list, other, 1)
		checkNotMissed(t, other, list, 1)
	}
	swapped := legs{late[0], late[2], late[1]}
	checkNotMissed(t, list, swapped, 1)
	for _, wrong := range wrongLegs() {
		checkNotMissed(t, wrong, wrong, 1)
		checkNotMissed(t, list, wrong, 1)
		checkNotMissed(t, wrong, list, 1)
	}
	one := legs{sail(1, 0, 1, 5, 9)}
	for _, minutes := range [][2]int{{-1, 9}, {9, 9}, {9, 8}, {9, 100000001}} {
		wrong := withTimes(one, minutes[0], minutes[1])
		checkNotMissed(t, one, wrong, 0)
		checkNotMissed(t, wrong, one, 0)
	}
}

func TestDrawnLegsAsTold(t *testing.T) {
	d := &draws{state: 221}
	ended := map[int]int{}
	for range 4000 {
		list := drawnLegs(d)
		checkLegs(t, list, true)
		wrong := spoiltLegs(d, list)
		checkLegs(t, wrong, lineOkOf(wrong))
		way, many := wayFrom(d, list), d.between(0, 9)
		checkLoad22AsTold(t, list, way, many)
		checkLoad22AsTold(t, wrong, way, many)
		_, code := load22Of(list, way, many)
		ended[code]++
		at, by, turn := d.between(-1, len(list)), d.between(0, 12), d.below(4)
		checkDelayAsTold(t, list, at, by, turn)
		checkDelayAsTold(t, wrong, at, by, turn)
		late, _ := delayOf(list, at, by, turn)
		checkMissedAsTold(t, list, late, d.below(6))
		checkMissedAsTold(t, late, list, d.below(6))
		checkMissedAsTold(t, list, list, d.below(6))
		checkMissedAsTold(t, list, wrong, d.below(6))
		checkMissedAsTold(t, wrong, wrong, d.below(6))
	}
	for code := range 4 {
		if ended[code] < 300 {
			t.Error("a code is seldom come to", ended)
		}
	}
}

// A delay makes no leg leave or come sooner, and changes none ahead of it and none
// of another Service.
func TestDelaysMakeNothingSooner(t *testing.T) {
	d := &draws{state: 222}
	for range 3000 {
		list := drawnLegs(d)
		if len(list) == 0 {
			continue
		}
		at, by, turn := d.below(len(list)), d.between(0, 30), d.below(6)
		late, ok := impl.Delay(list, at, by, turn)
		if !ok || len(late) != len(list) || !impl.LegsOk(late) {
			t.Fatal(list, at, by, turn, late, ok)
		}
		for i, l := range late {
			was := list[i]
			isLater := l.Leaves >= was.Leaves && l.Comes-l.Leaves == was.Comes-was.Leaves
			isApart := i < at || was.Service != list[at].Service
			if !isLater || isApart && l != was || i == at && l.Leaves != was.Leaves+by {
				t.Fatal(list, at, by, turn, late)
			}
		}
	}
}

// What a delay does is not less where it is greater.
func TestDelaysGrow(t *testing.T) {
	d := &draws{state: 223}
	for range 1000 {
		list := drawnLegs(d)
		if len(list) == 0 {
			continue
		}
		at, turn := d.below(len(list)), d.below(6)
		ahead := first(impl.Delay(list, at, 0, turn))
		for by := 1; by < 15; by++ {
			late := first(impl.Delay(list, at, by, turn))
			longer := first(impl.Delay(list, at, by, turn+1))
			for i := range late {
				if late[i].Leaves < ahead[i].Leaves || longer[i].Leaves < late[i].Leaves {
					t.Fatal(list, at, by, turn, late, ahead)
				}
			}
			ahead = late
		}
	}
}

// What is loaded is taken of each leg of the way and of no other; and what a way
// has room for may be loaded in parts too.
func TestLoadTakesOfTheWayAlone(t *testing.T) {
	d := &draws{state: 224}
	loaded := 0
	for range 6000 {
		list := drawnLegs(d)
		way, many := wayFrom(d, list), d.between(1, 9)
		now, code := impl.Load22(list, way, many)
		if code != impl.LineDone {
			if !slices.Equal(now, list) {
				t.Fatal(list, way, many, now, code)
			}
			continue
		}
		loaded++
		for i, l := range now {
			if slices.Contains(way, i) {
				l.Room += many
			}
			if l != list[i] || now[i].Room < 0 {
				t.Fatal(list, way, many, now)
			}
		}
		parts := list
		for range many {
			parts, _ = impl.Load22(parts, way, 1)
		}
		if !slices.Equal(parts, now) || !impl.LegsOk(now) {
			t.Fatal(list, way, many, now, parts)
		}
	}
	if loaded < 300 {
		t.Error("seldom loaded", loaded)
	}
}
