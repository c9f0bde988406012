package tests

import (
	"math"
	"slices"
	"testing"

	"loop.example/g00059/impl"
)

// Promise 11 for stacks: what they may bear, and the lashings they want.

func checkStack(t *testing.T, list boxes, most int, want bool) {
	t.Helper()
	if got := impl.StackOk(list, most); got != want {
		t.Errorf("%+v of at most %d: %t", list, most, got)
	}
}

func TestStackByHand(t *testing.T) {
	checkStack(t, crates(9), 9, true)
	checkStack(t, crates(9), 8, false)
	checkStack(t, crates(9, 5, 2), 16, true)
	checkStack(t, crates(9, 5, 2), 17, true)
	checkStack(t, crates(9, 5, 2), 15, false)
	checkStack(t, crates(9, 9), 18, true)
	checkStack(t, crates(9, 10), 100, false)
	checkStack(t, crates(9, 8), 100, true)
	checkStack(t, crates(9, 8, 8), 100, true)
	checkStack(t, crates(9, 8, 9), 100, false)
	checkStack(t, crates(9, 5, 2, 1, 1, 2), 100, false)
	checkStack(t, crates(1, 40000), 1000000, false)
	checkStack(t, crates(40000, 1), 1000000, true)
	checkStack(t, boxes{ofClass(1), ofClass(2), ofClass(3)}, 27, true)
}

func TestColdInAStack(t *testing.T) {
	checkStack(t, boxes{cold(crate(5))}, 100, true)
	for at, want := range []bool{true, true, false, false, false} {
		checkStack(t, chilledAt(at, 5), 100, want)
	}
	checkStack(t, chilledAt(2, 3), 100, false)
	checkStack(t, chilledAt(19, 20), 100, false)
	checkStack(t, chilledAt(1, 20), 100, true)
	both := chilledAt(0, 3)
	both[1] = cold(both[1])
	checkStack(t, both, 100, true)
	both[2] = cold(both[2])
	checkStack(t, both, 100, false)
	// What is dangerous too needs its plug all the same, and is kept so.
	for at, want := range []bool{true, true, false} {
		list := chilledAt(at, 3)
		list[at].Class = 4
		checkStack(t, list, 100, want)
		list[at].Cold = false
		checkStack(t, list, 100, true)
		list[at].Cold = true
		list[at].Weight = 6
		checkStack(t, list, 100, at == 0)
	}
}

func TestStackLimits(t *testing.T) {
	for most, want := range map[int]bool{-1: false, 0: true, 1: true, 1000000: true, 1000001: false, math.MinInt: false, math.MaxInt: false} {
		checkStack(t, nil, most, want)
		checkStack(t, boxes{}, most, want)
		checkStack(t, crates(1), most, want && most > 0)
	}
	twenty := slices.Repeat(crates(40000), 20)
	checkStack(t, twenty, 800000, true)
	checkStack(t, twenty, 799999, false)
	checkStack(t, twenty, 1000000, true)
	checkStack(t, twenty, 1000001, false)
	checkStack(t, append(slices.Clone(twenty), crate(1)), 1000000, false)
	light := slices.Repeat(crates(1), 21)
	checkStack(t, light, 1000000, false)
	checkStack(t, light[:20], 20, true)
	checkStack(t, light[:20], 19, false)
}

func TestStackOfMany(t *testing.T) {
	d := &draws{state: 143}
	well := 0
	for range 5000 {
		list := drawnBoxes(d)
		sum := weightIn(list)
		for _, most := range []int{sum - 1, sum, sum + 1, 1000000, d.below(1000001)} {
			want := stackOf(list, most)
			checkStack(t, list, most, want)
			if want {
				well++
			}
		}
	}
	if well < 2000 {
		t.Error("few are so", well)
	}
}

func TestStackWithoutItsTopmost(t *testing.T) {
	d := &draws{state: 144}
	for range 3000 {
		list := drawnBoxes(d)
		most := weightIn(list) + d.below(3)
		isSo := impl.StackOk(list, most)
		for len(list) > 0 {
			list = list[:len(list)-1]
			if isSo && !impl.StackOk(list, most) {
				t.Fatal("not so without its topmost", list, most)
			}
			isSo = isSo || impl.StackOk(list, most)
		}
		if !isSo {
			t.Fatal("no box at all is not so", most)
		}
	}
}

func checkLashes(t *testing.T, list boxes, wind, want int, ok bool) {
	t.Helper()
	if got, told := impl.Lashes(list, wind); got != want || told != ok {
		t.Errorf("%+v in a wind of %d: %d %t, not %d %t", list, wind, got, told, want, ok)
	}
}

func TestLashesByHand(t *testing.T) {
	checkLashes(t, nil, 0, 0, true)
	checkLashes(t, boxes{}, 100, 0, true)
	// A force of 100 for each wind, and a tenth of the weight held.
	checkLashes(t, crates(1), 1, 1, true)
	checkLashes(t, crates(1), 5, 1, true)
	checkLashes(t, crates(1), 6, 2, true)
	checkLashes(t, crates(1), 100, 20, true)
	checkLashes(t, crates(40000), 100, 12, true)
	checkLashes(t, crates(40000), 40, 0, true)
	checkLashes(t, crates(40000), 41, 1, true)
	// 100 wind 2 for the lowest, 100 wind for the upper one, which both weights hold.
	checkLashes(t, crates(9, 9), 3, 3, true)
	checkLashes(t, crates(10000, 10000), 10, 2, true)
	checkLashes(t, crates(10000, 10000), 20, 6, true)
	checkLashes(t, crates(10000, 10000), 21, 8, true)
	checkLashes(t, crates(20000, 1), 10, 0, true)
	checkLashes(t, crates(1, 20000), 10, 4, true)
}

// What holds is just the force, or one less; and a tenth is taken down.
func TestLashesAtTheirBounds(t *testing.T) {
	for weight, want := range map[int]int{999: 1, 1000: 0, 1001: 0, 1009: 0, 990: 1, 991: 1} {
		checkLashes(t, crates(weight), 1, want, true)
	}
	for weight, want := range map[int]int{1: 2, 9: 2, 10: 2, 999: 2, 1000: 1, 1009: 1, 5999: 1, 6000: 0} {
		checkLashes(t, crates(weight), 6, want, true)
	}
	// Tenths of the sums of weights, not sums of tenths: 995 and 5 hold 100, and 99.
	checkLashes(t, crates(995, 5), 1, 1, true)
	checkLashes(t, crates(995, 4), 1, 2, true)
	checkLashes(t, crates(1995, 5), 2, 1, true)
	checkLashes(t, crates(1999, 1), 1, 1, true)
	checkLashes(t, crates(2000, 1), 1, 0, true)
	checkLashes(t, crates(5, 5, 5), 1, 3, true)
}

func TestLashesLimits(t *testing.T) {
	list := crates(9, 9)
	for wind, ok := range map[int]bool{-1: false, 0: true, 1: true, 100: true, 101: false, math.MinInt: false, math.MaxInt: false} {
		want, _ := lashesOf(list, wind)
		checkLashes(t, list, wind, want, ok)
		checkLashes(t, nil, wind, 0, ok)
	}
	twenty := slices.Repeat(crates(1), 20)
	// They weigh too little to save one: 20 for each box from each one up.
	checkLashes(t, twenty, 100, 20*210, true)
	checkLashes(t, append(slices.Clone(twenty), crate(1)), 100, 0, false)
	checkLashes(t, append(slices.Clone(twenty), crate(1)), 0, 0, false)
	heavy := slices.Repeat(crates(40000), 20)
	want, _ := lashesOf(heavy, 100)
	checkLashes(t, heavy, 100, want, true)
	checkLashes(t, heavy, 2, 0, true)
}

// Neither the order of weights, nor plugs, nor classes count for lashings.
func TestLashesOfAnyStack(t *testing.T) {
	list := boxes{cold(ofClass(1)), cold(ofClass(2)), cold(ofClass(3)), ofClass(4)}
	checkLashes(t, list, 3, 3+2+2+1, true)
	checkLashes(t, crates(9, 9, 9, 9), 3, 3+2+2+1, true)
	checkLashes(t, crates(1, 40000), 3, 2, true)
}

func TestLashesOfMany(t *testing.T) {
	d := &draws{state: 145}
	for range 3000 {
		list := drawnBoxes(d)
		for _, wind := range []int{0, 1, 2, 100, d.below(101)} {
			want, ok := lashesOf(list, wind)
			checkLashes(t, list, wind, want, ok)
		}
	}
}

func TestMoreWindWantsNoFewerLashings(t *testing.T) {
	d := &draws{state: 146}
	for range 500 {
		list := drawnBoxes(d)
		checkLashes(t, list, 0, 0, true)
		before := 0
		for wind := range 101 {
			lashings, ok := impl.Lashes(list, wind)
			if !ok || lashings < before {
				t.Fatal(list, wind, lashings, ok, "behind", before)
			}
			before = lashings
		}
	}
}
