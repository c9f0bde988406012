package tests

import (
	"math"
	"slices"
	"testing"

	"loop.example/g00059/impl"
)

// Promise 19 rests on these: what a floor is, who stands on it, how few steps lead
// to a place, and rings.

func TestVehicleConstants(t *testing.T) {
	if got := []int{impl.MaxLanes, impl.MaxCarts, impl.MaxRounds}; !slices.Equal(got, []int{10, 12, 200}) {
		t.Error(got)
	}
}

func checkFloorOk(t *testing.T, f impl.Floor, want bool) {
	t.Helper()
	if impl.FloorOk(f) != want {
		t.Error(f, "is", !want)
	}
}

func checkCartsOk(t *testing.T, f impl.Floor, list carts, want bool) {
	t.Helper()
	if impl.CartsOk(f, list) != want {
		t.Error(f, list, "is", !want)
	}
}

func checkHops(t *testing.T, f impl.Floor, goal int, want ...int) {
	t.Helper()
	if got, ok := impl.Hops(f, goal); !ok || !slices.Equal(got, want) {
		t.Error(f, goal, "got", got, ok, "not", want)
	}
}

func checkNoHops(t *testing.T, f impl.Floor, goal int) {
	t.Helper()
	if got, ok := impl.Hops(f, goal); ok || len(got) != 0 {
		t.Error(f, goal, "got", got, ok)
	}
}

func TestFloorOkAtItsLimits(t *testing.T) {
	for name, f := range map[string]impl.Floor{
		"one place": lanes("."), "one place that names all": lanes("+"), "a row": evenFloor(10, 1, 5), "a column": evenFloor(1, 10, 10), "the greatest": evenFloor(10, 10, 15), "the greatest without ways": evenFloor(10, 10, 0),
		"all ways": lanes("0123", "4567", "89ab", "cdef"), "10 by 2": evenFloor(10, 2, 7), "2 by 10": evenFloor(2, 10, 14),
	} {
		if !impl.FloorOk(f) {
			t.Error(name, "is not ok")
		}
	}
	for name, f := range wrongFloors() {
		if impl.FloorOk(f) {
			t.Error(name, "is ok")
		}
	}
}

// Each size takes just as many places as it has.
func TestFloorOkOfEachSize(t *testing.T) {
	for wide := -1; wide <= 12; wide++ {
		for high := -1; high <= 12; high++ {
			isSize := wide >= 1 && wide <= 10 && high >= 1 && high <= 10
			for more := -1; more <= 1; more++ {
				f := impl.Floor{Wide: wide, High: high, Ways: make([]int, max(0, wide*high+more))}
				checkFloorOk(t, f, isSize && more == 0)
			}
		}
	}
}

func TestFloorOkOfEachWays(t *testing.T) {
	plain := evenFloor(3, 4, 9)
	for place := range plain.Ways {
		for ways := -20; ways <= 40; ways++ {
			checkFloorOk(t, withWays(plain, place, ways), ways >= 0 && ways <= 15)
		}
	}
}

func TestCartsOkAtTheirLimits(t *testing.T) {
	f := evenFloor(3, 2, 15)
	for name, list := range map[string]carts{
		"none": nil, "an empty list": {}, "the first place": {parked(0)}, "the last place": {parked(5)}, "at its Goal": {going19(2, 2)}, "from the first to the last": {going19(0, 5)}, "from the last to the first": {going19(5, 0)},
		"one Goal": {going19(0, 3), going19(1, 3), going19(3, 3)}, "each at the other's Goal": {going19(0, 1), going19(1, 0)}, "at all places": parkedUpTo(6), "in no order": {going19(4, 0), parked(1), going19(5, 4), going19(0, 0)},
	} {
		if !impl.CartsOk(f, list) {
			t.Error(name, "are not ok")
		}
	}
	for name, list := range wrongCarts() {
		if impl.CartsOk(f, list) {
			t.Error(name, "are ok")
		}
	}
	great := evenFloor(10, 10, 15)
	for count := range 16 {
		checkCartsOk(t, great, parkedUpTo(count), count <= 12)
	}
	checkCartsOk(t, evenFloor(13, 1, 15), parkedUpTo(13), false)
	checkCartsOk(t, evenFloor(4, 3, 15), parkedUpTo(12), true)
	checkCartsOk(t, evenFloor(4, 3, 15), append(parkedUpTo(12), parked(0)), false)
}

// Places are bounded by the floor, not by the greatest one.
func TestCartsOkOfEachPlace(t *testing.T) {
	for _, f := range []impl.Floor{lanes("+"), evenFloor(3, 2, 15), evenFloor(2, 3, 0), evenFloor(10, 10, 5), evenFloor(10, 1, 1)} {
		for at := -3; at <= len(f.Ways)+2; at++ {
			for goal := -3; goal <= len(f.Ways)+2; goal++ {
				want := at >= 0 && at < len(f.Ways) && goal >= -1 && goal < len(f.Ways)
				checkCartsOk(t, f, carts{going19(at, goal)}, want)
			}
		}
	}
}

// Two at one place, wherever both are in the list.
func TestCartsOkOfEachPair(t *testing.T) {
	f, all := evenFloor(4, 4, 15), parkedUpTo(12)
	for a := range all {
		for b := range all {
			checkCartsOk(t, f, withCart(all, a, going19(all[b].At, a)), a == b)
		}
		checkCartsOk(t, f, withCart(all, a, going19(12, 12)), true)
	}
}

func TestCartsOkWithoutFloor(t *testing.T) {
	for name, f := range wrongFloors() {
		for _, list := range []carts{nil, {}, {parked(0)}, {going19(0, 1), parked(2)}, make(carts, 13)} {
			if impl.CartsOk(f, list) {
				t.Error(name, list)
			}
		}
	}
}

func TestTrafficOkOfDrawnOnes(t *testing.T) {
	d := &draws{state: 270}
	seen := map[bool]int{}
	for range 6000 {
		f, list := drawnTraffic(d)
		checkFloorOk(t, f, true)
		checkCartsOk(t, f, list, true)
		spoilTraffic(d, &f, &list)
		checkFloorOk(t, f, floorOkOf(f))
		want := cartsOkOf(f, list)
		checkCartsOk(t, f, list, want)
		seen[want]++
	}
	if min(seen[true], seen[false]) < 1000 {
		t.Error("few drawn", seen)
	}
}

func TestHopsByHand(t *testing.T) {
	ring := lanes(">>v", "^<<")
	checkHops(t, ring, 0, 0, 5, 4, 1, 2, 3)
	checkHops(t, ring, 5, 3, 2, 1, 4, 5, 0)
	checkHops(t, lanes("+++", "+++"), 4, 2, 1, 2, 1, 0, 1)
	checkHops(t, lanes("."), 0, 0)
	checkHops(t, lanes("+"), 0, 0)
	// Round about, where the straight way leads the other way.
	checkHops(t, lanes(">>v", "^.v", "^<<"), 0, 0, 7, 6, 1, -1, 5, 2, 3, 4)
	checkHops(t, lanes("--v", "..v", "-<<"), 6, 6, 5, 4, -1, -1, 3, 0, 1, 2)
}

// Steps that lead one way only.
func TestHopsOneWayOnly(t *testing.T) {
	for _, c := range []struct {
		f           impl.Floor
		first, last []int
	}{
		{lanes(">>>"), []int{0, -1, -1}, []int{2, 1, 0}},
		{lanes("<<<"), []int{0, 1, 2}, []int{-1, -1, 0}},
		{lanes("v", "v", "v"), []int{0, -1, -1}, []int{2, 1, 0}},
		{lanes("^", "^", "^"), []int{0, 1, 2}, []int{-1, -1, 0}},
		{lanes("---"), []int{0, 1, 2}, []int{2, 1, 0}},
		{lanes("|", "|", "|"), []int{0, 1, 2}, []int{2, 1, 0}},
		{lanes("..."), []int{0, -1, -1}, []int{-1, -1, 0}},
		{lanes(">.<"), []int{0, -1, -1}, []int{-1, -1, 0}},
	} {
		checkHops(t, c.f, 0, c.first...)
		checkHops(t, c.f, 2, c.last...)
	}
}

// A way that names a place beyond the floor leads nowhere: not to the other edge,
// nor to the row above or below.
func TestHopsBeyondEachEdge(t *testing.T) {
	for ways, leads := range map[string][]int{">": {1, 4, 7}, "<": {1, 4, 7}, "v": {3, 4, 5}, "^": {3, 4, 5}} {
		row := ways + ways + ways
		f := lanes(row, row, row)
		for goal := range 9 {
			checkHops(t, f, goal, hopsOf(f, goal)...)
		}
		for _, place := range leads {
			if got, _ := impl.Hops(f, place); !slices.Contains(got, 1) {
				t.Error(ways, place, got)
			}
		}
	}
	checkHops(t, lanes(">>", ">>"), 2, -1, -1, 0, -1)
	checkHops(t, lanes("<<", "<<"), 1, -1, 0, -1, -1)
	checkHops(t, lanes("vv", "vv"), 1, -1, 0, -1, -1)
	checkHops(t, lanes("^^", "^^"), 2, -1, -1, 0, -1)
	checkHops(t, lanes("+++"), 0, 0, 1, 2)
	checkHops(t, lanes("+", "+", "+"), 2, 2, 1, 0)
}

// Each ways of one place in the middle: it leads to just those sides.
func TestHopsOfEachWays(t *testing.T) {
	sides := [4]int{5, 7, 3, 1}
	for ways := range 16 {
		f := withWays(evenFloor(3, 3, 0), 4, ways)
		for bit, side := range sides {
			want := slices.Repeat([]int{-1}, 9)
			want[side] = 0
			if ways>>bit&1 == 1 {
				want[4] = 1
			}
			checkHops(t, f, side, want...)
		}
		for _, corner := range []int{0, 2, 6, 8} {
			want := slices.Repeat([]int{-1}, 9)
			want[corner] = 0
			checkHops(t, f, corner, want...)
		}
	}
}

// Where all ways are, the steps are those across and along together.
func TestHopsOnOpenFloors(t *testing.T) {
	size := func(n int) int { return max(n, -n) }
	for _, sizes := range [][2]int{{1, 1}, {1, 10}, {10, 1}, {2, 2}, {4, 7}, {10, 10}} {
		f := evenFloor(sizes[0], sizes[1], 15)
		for goal := range f.Ways {
			var want []int
			for place := range f.Ways {
				want = append(want, size(place%f.Wide-goal%f.Wide)+size(place/f.Wide-goal/f.Wide))
			}
			checkHops(t, f, goal, want...)
		}
	}
}

// snake is the longest way there is: 10 rows, one behind the other.
func snake() impl.Floor {
	return lanes(">>>>>>>>>v", "v<<<<<<<<<", ">>>>>>>>>v", "v<<<<<<<<<", ">>>>>>>>>v", "v<<<<<<<<<", ">>>>>>>>>v", "v<<<<<<<<<", ">>>>>>>>>v", ".<<<<<<<<<")
}

func TestHopsOfTheLongestWay(t *testing.T) {
	got, ok := impl.Hops(snake(), 90)
	if !ok || got[0] != 99 || got[9] != 90 || got[19] != 89 || got[10] != 80 || got[99] != 9 || got[90] != 0 {
		t.Error(got, ok)
	}
}

func TestHopsOfDrawnFloors(t *testing.T) {
	d := &draws{state: 271}
	for range 2000 {
		f := drawnFloor(d)
		goal := d.below(len(f.Ways))
		want := hopsOf(f, goal)
		checkHops(t, f, goal, want...)
		for place, many := range want {
			if many > 0 && !slices.ContainsFunc(leadsTo(f, place), func(to int) bool { return want[to] == many-1 }) {
				t.Fatal(f, goal, want)
			}
		}
	}
}

func TestHopsToNoPlace(t *testing.T) {
	for _, f := range []impl.Floor{lanes("+"), evenFloor(3, 2, 15), evenFloor(10, 10, 15)} {
		last := len(f.Ways) - 1
		checkHops(t, f, last, hopsOf(f, last)...)
		checkHops(t, f, 0, hopsOf(f, 0)...)
		for _, goal := range []int{math.MinInt, -2, -1, last + 1, last + 2, 1000, math.MaxInt} {
			checkNoHops(t, f, goal)
		}
	}
	for _, f := range wrongFloors() {
		for _, goal := range []int{-1, 0, 1, 5, 99, 100} {
			checkNoHops(t, f, goal)
		}
	}
}

func checkOneWay(t *testing.T, drawn ...string) {
	t.Helper()
	want := lanes(drawn...)
	if got, ok := impl.OneWay(want.Wide, want.High); !ok || !sameFloor(got, want) {
		t.Error("got", got, ok, "not", want)
	}
}

func TestOneWayByHand(t *testing.T) {
	checkOneWay(t, ">v", "^<")
	checkOneWay(t, ">>v", "^<<")
	checkOneWay(t, ">v", "^v", "^<")
	checkOneWay(t, ">>v", "^+v", "^<<")
	checkOneWay(t, ">>>v", "^++v", "^<<<")
	checkOneWay(t, ">>>>>v", "^++++v", "^++++v", "^++++v", "^<<<<<")
	checkOneWay(t, ">>>>>>>>>v", "^<<<<<<<<<")
	checkOneWay(t, ">v", "^v", "^v", "^v", "^v", "^v", "^v", "^v", "^v", "^<")
	within := "^++++++++v"
	checkOneWay(t, ">>>>>>>>>v", within, within, within, within, within, within, within, within, "^<<<<<<<<<")
}

// Along the edge each place is come to once, and then the first again; within, all
// four neighbours are.
func TestOneWayOfEachSize(t *testing.T) {
	for wide := 2; wide <= 10; wide++ {
		for high := 2; high <= 10; high++ {
			f, ok := impl.OneWay(wide, high)
			if !ok || f.Wide != wide || f.High != high || !impl.FloorOk(f) {
				t.Fatal(wide, high, f, ok)
			}
			seen, place := map[int]int{}, 0
			for range 2*wide + 2*high - 4 {
				seen[place]++
				beside := leadsTo(f, place)
				if len(beside) != 1 || seen[place] > 1 {
					t.Fatal(wide, high, f, place)
				}
				place = beside[0]
			}
			if place != 0 || seen[1] != 1 {
				t.Fatal(wide, high, f)
			}
			for place := range f.Ways {
				x, y := place%wide, place/wide
				isWithin := x > 0 && x < wide-1 && y > 0 && y < high-1
				if isWithin != (seen[place] == 0) || isWithin && f.Ways[place] != 15 {
					t.Fatal(wide, high, f, place)
				}
			}
		}
	}
}

func TestOneWayOfSizesThatAreNotSo(t *testing.T) {
	wrong := []int{math.MinInt, math.MinInt + 1, -2, -1, 0, 1, 11, 12, 100, math.MaxInt - 1, math.MaxInt}
	for _, n := range wrong {
		for _, other := range append([]int{2, 3, 10}, wrong...) {
			for _, sizes := range [][2]int{{n, other}, {other, n}} {
				if f, ok := impl.OneWay(sizes[0], sizes[1]); ok || !sameFloor(f, impl.Floor{}) {
					t.Error(sizes, f, ok)
				}
			}
		}
	}
}
