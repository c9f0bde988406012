package tests

import (
	"math"
	"slices"
	"testing"

	"loop.example/g00059/impl"
)

// Promise 20, of pushes: shaped ones leave a hanging load hanging.

func checkShaped(t *testing.T, pushes []int, want ...int) {
	t.Helper()
	if got, ok := impl.Shaped(pushes); !ok || !slices.Equal(got, want) {
		t.Error(pushes, "got", got, ok, "not", want)
	}
}

func checkNotShaped(t *testing.T, pushes []int) {
	t.Helper()
	if got, ok := impl.Shaped(pushes); ok || len(got) != 0 {
		t.Error(pushes, "got", got, ok)
	}
}

func checkPlan(t *testing.T, way, most int, want ...int) {
	t.Helper()
	if got, ok := impl.Plan(way, most); !ok || !slices.Equal(got, want) {
		t.Error(way, most, "got", got, ok, "not", want)
	}
}

func checkNoPlan(t *testing.T, way, most int) {
	t.Helper()
	if got, ok := impl.Plan(way, most); ok || len(got) != 0 {
		t.Error(way, most, "got", got, ok)
	}
}

func TestShapedByHand(t *testing.T) {
	checkShaped(t, nil, 0, 0)
	checkShaped(t, []int{}, 0, 0)
	checkShaped(t, []int{0}, 0, 0, 0)
	checkShaped(t, []int{6}, 3, 0, 3)
	checkShaped(t, []int{-6}, -3, 0, -3)
	checkShaped(t, []int{6, 2}, 3, 1, 3, 1)
	checkShaped(t, []int{2, -4}, 1, -2, 1, -2)
	checkShaped(t, []int{-4, -4, -2}, -2, -2, -3, -2, -1)
	checkShaped(t, []int{10, 20, 30, 40, 50}, 5, 10, 20, 30, 40, 20, 25)
	checkShaped(t, []int{4, 0, -4}, 2, 0, 0, 0, -2)
}

func TestShapedAtItsLimit(t *testing.T) {
	for _, push := range []int{1000, -1000, 998, -998} {
		checkShaped(t, []int{push}, push/2, 0, push/2)
		checkShaped(t, []int{push, push, push}, push/2, push/2, push, push/2, push/2)
		most := slices.Repeat([]int{push}, 38)
		end := []int{push / 2, push / 2}
		checkShaped(t, most, slices.Concat(end, most[2:], end)...)
		checkShaped(t, most[1:], slices.Concat(end, most[3:], end)...)
		checkNotShaped(t, append(slices.Clone(most), push))
		checkNotShaped(t, append(slices.Clone(most), 0))
	}
	for _, count := range []int{39, 40, 41, 1000} {
		checkNotShaped(t, make([]int, count))
	}
}

// One push that is odd or beyond makes none of them, wherever it stands.
func TestShapedWithAPushThatIsNotSo(t *testing.T) {
	right := []int{4, -8, 0, 1000, -1000}
	for _, wrong := range append(wrongPushes(), -999, -3, -1, 1, 3, 999) {
		for at := range len(right) + 1 {
			checkNotShaped(t, slices.Insert(slices.Clone(right), at, wrong))
		}
		checkNotShaped(t, []int{wrong})
		checkNotShaped(t, append(make([]int, 37), wrong))
		checkNotShaped(t, append(make([]int, 38), wrong))
	}
}

func TestShapedOfDrawnOnes(t *testing.T) {
	d := &draws{state: 304}
	count := map[bool]int{}
	for range 3000 {
		pushes := drawnEven(d)
		if len(pushes) > 0 && d.below(3) == 0 {
			pushes[d.below(len(pushes))] += []int{1, -1, 1000, 2000}[d.below(4)]
		}
		want, ok := shapedOf(pushes)
		count[ok]++
		if ok {
			checkShaped(t, pushes, want...)
		} else {
			checkNotShaped(t, pushes)
		}
	}
	if min(count[true], count[false]) < 500 {
		t.Error("few drawn of a kind", count)
	}
}

// A load that hung still does so again, and the trolley is where the pushes by
// themselves would have it.
func TestShapedPushesLeaveAHangingLoadHanging(t *testing.T) {
	d := &draws{state: 305}
	swinging := 0
	for range 5000 {
		pushes, at := drawnEven(d), d.between(-900000, 900000)
		shaped, ok := impl.Shaped(pushes)
		if !ok || len(shaped) != len(pushes)+2 {
			t.Fatal(pushes, "got", shaped, ok)
		}
		plain, ok := impl.Beats(hanging(at), pushes)
		if !ok || plain.At != at+sumOf(pushes) {
			t.Fatal(at, pushes, "got", plain, ok)
		}
		if plain != hanging(plain.At) {
			swinging++
		}
		checkBeats(t, hanging(at), shaped, hanging(plain.At))
	}
	if swinging < 3000 {
		t.Error("few that swing when they are not shaped:", swinging)
	}
}

// Shaped pushes never take the trolley further than the pushes by themselves do.
func TestShapedPushesBesideTheBounds(t *testing.T) {
	d := &draws{state: 306}
	for range 2000 {
		pushes := drawnEven(d)
		low, high, now := 0, 0, 0
		for _, push := range pushes {
			now += push
			low, high = min(low, now), max(high, now)
		}
		shaped, _ := impl.Shaped(pushes)
		checkBeats(t, hanging(1000000-high), shaped, hanging(1000000-high+now))
		checkBeats(t, hanging(-1000000-low), shaped, hanging(-1000000-low+now))
	}
}

// A load that swings goes on just as if nobody had pushed.
func TestShapedPushesLeaveASwingAsItIs(t *testing.T) {
	d := &draws{state: 307}
	for range 3000 {
		pushes := drawnEven(d)
		s := sway(d.between(-900000, 900000), d.between(-900000, 900000), d.between(-900000, 900000))
		shaped, _ := impl.Shaped(pushes)
		want, ok := impl.Beats(s, make([]int, len(shaped)))
		if !ok {
			t.Fatal(s, "does not swing")
		}
		want.At += sumOf(pushes)
		checkBeats(t, s, shaped, want)
	}
}

func TestPlanByHand(t *testing.T) {
	checkPlan(t, 0, 4)
	checkPlan(t, 0, 2)
	checkPlan(t, 0, 1000)
	checkPlan(t, 2, 2, 2)
	checkPlan(t, -2, 2, -2)
	checkPlan(t, 2, 1000, 2)
	checkPlan(t, -2, 1000, -2)
	checkPlan(t, 4, 4, 4)
	checkPlan(t, 8, 4, 4, 4)
	checkPlan(t, 10, 4, 4, 4, 2)
	checkPlan(t, -10, 4, -4, -4, -2)
	checkPlan(t, 14, 6, 6, 6, 2)
	checkPlan(t, 3000, 1000, 1000, 1000, 1000)
	checkPlan(t, 2998, 1000, 1000, 1000, 998)
	checkPlan(t, -3002, 1000, -1000, -1000, -1000, -2)
	checkPlan(t, 10000, 1000, slices.Repeat([]int{1000}, 10)...)
	checkPlan(t, -10000, 1000, slices.Repeat([]int{-1000}, 10)...)
	checkPlan(t, 9998, 998, append(slices.Repeat([]int{998}, 10), 18)...)
}

// Just as many pushes as can be shaped, and one more.
func TestPlanOfAsManyAsCanBeShaped(t *testing.T) {
	for most := 2; most <= 262; most += 2 {
		for sign := -1; sign <= 1; sign += 2 {
			all := slices.Repeat([]int{sign * most}, 38)
			checkPlan(t, sign*most*38, most, all...)
			checkPlan(t, sign*most*37, most, all[1:]...)
			checkNoPlan(t, sign*(most*38+2), most)
			checkNoPlan(t, sign*most*39, most)
			if most > 2 {
				checkPlan(t, sign*(most*37+2), most, append(all[1:], sign*2)...)
				checkPlan(t, sign*(most*38-2), most, append(all[1:], sign*(most-2))...)
			}
		}
	}
	checkNoPlan(t, 10000, 2)
	checkNoPlan(t, -10000, 2)
	checkNoPlan(t, 10000, 262)
	checkNoPlan(t, -10000, 262)
	checkPlan(t, 10000, 264, append(slices.Repeat([]int{264}, 37), 232)...)
	checkPlan(t, -10000, 264, append(slices.Repeat([]int{-264}, 37), -232)...)
}

func TestPlanOfWaysThatAreNotSo(t *testing.T) {
	for _, way := range []int{math.MinInt, math.MinInt + 1, -20000, -10002, -10001, -9999, -3, -1, 1, 3, 9999, 10001, 10002, 20000, math.MaxInt - 1, math.MaxInt} {
		for _, most := range []int{2, 4, 264, 998, 1000, 1001, 0} {
			checkNoPlan(t, way, most)
		}
	}
}

func TestPlanOfMostsThatAreNotSo(t *testing.T) {
	for _, most := range []int{math.MinInt, math.MinInt + 1, -1000, -4, -2, -1, 0, 1, 3, 5, 263, 999, 1001, 1002, 1004, math.MaxInt - 1, math.MaxInt} {
		for _, way := range []int{0, 2, -2, 4, 1000, -1000, 10000, -10000, 1, 10002} {
			checkNoPlan(t, way, most)
		}
	}
}

// Each way by each most: the pushes are right ones, make the way, and one less
// would not.
func TestPlanOfAllWays(t *testing.T) {
	for way := -10002; way <= 10002; way++ {
		for most := (way+10002)%7 - 2; most <= 1002; most += 61 {
			got, ok := impl.Plan(way, most)
			want, isSo := planOf(way, most)
			if ok != isSo || !slices.Equal(got, want) {
				t.Fatal(way, most, "got", got, ok, "not", want, isSo)
			}
			if ok && (sumOf(got) != way || len(got) > 0 && int(math.Abs(float64(way))) <= (len(got)-1)*most) {
				t.Fatal(way, most, "got", got)
			}
		}
	}
}

// A plan can be shaped, and the trolley then gets there with its load at rest.
func TestPlansThatAreShapedGetThere(t *testing.T) {
	for way := -10000; way <= 10000; way += 2 {
		for _, most := range []int{264, 500, 1000} {
			pushes, ok := impl.Plan(way, most)
			if !ok {
				t.Fatal(way, most, "no plan")
			}
			shaped, ok := impl.Shaped(pushes)
			if !ok {
				t.Fatal(way, most, "not shaped")
			}
			checkBeats(t, hanging(5), shaped, hanging(5+way))
		}
	}
}
