package tests

import (
	"math"
	"slices"
	"testing"

	"loop.example/g00059/impl"
)

// Promise 18: boxes are neither made nor lost, and what is found is where it is
// told.

func TestYardConstants(t *testing.T) {
	got := []int{impl.MaxYard, impl.MaxHigh, impl.MaxYardOps, impl.YardIn, impl.YardOut, impl.YardShift, impl.YardDone, impl.YardBad, impl.YardHas, impl.YardNone, impl.YardFull}
	if want := []int{12, 6, 200, 1, 2, 3, 0, 1, 2, 3, 4}; !slices.Equal(got, want) {
		t.Error(got, "not", want)
	}
}

func checkYardOk(t *testing.T, y impl.Yard, want bool) {
	t.Helper()
	if impl.YardOk(y) != want {
		t.Error(y, "is", !want)
	}
}

func checkFind(t *testing.T, y impl.Yard, box, stack, tier int) {
	t.Helper()
	if at, high, ok := impl.FindBox(y, box); at != stack || high != tier || ok != (stack != -1) {
		t.Error(y, box, "got", at, high, ok, "not", stack, tier)
	}
}

func checkYard(t *testing.T, y impl.Yard, op impl.YardOp, want impl.Yard, many, code int) {
	t.Helper()
	if got, count, told := impl.DoYard(y, op); !sameYard(got, want) || count != many || told != code {
		t.Error(y, op, "got", got, count, told, "not", want, many, code)
	}
}

// checkStacks tells only what stands where then.
func checkStacks(t *testing.T, y impl.Yard, op impl.YardOp, want rows, many int) {
	t.Helper()
	checkYard(t, y, op, yard(y.High, want), many, impl.YardDone)
}

func checkYardNot(t *testing.T, y impl.Yard, op impl.YardOp, code int) {
	t.Helper()
	checkYard(t, y, op, y, 0, code)
}

func TestYardOkAtItsLimits(t *testing.T) {
	for name, y := range map[string]impl.Yard{
		"High 1": yard(1, rows{{1}}), "High 1, empty": yard(1, rows{{}}), "High 6": yard(6, rows{{1}}), "High 6, empty": yard(6, rows{nil}), "one stack": yard(3, rows{{1, 2}}), "12 stacks": yard(3, make(rows, 12)),
		"11 stacks": yard(3, make(rows, 11)), "empty ones between": yard(3, rows{nil, {1}, {}, {2, 3}, nil}), "one just full": yard(3, rows{{1, 2, 3}, {}}), "all just full": fullYard(6, 12), "all of one": fullYard(1, 12), "six in one": fullYard(6, 1),
		"box 1": yard(3, rows{{1}}), "box 10^6": yard(3, rows{{1000000}}), "both": yard(3, rows{{1000000, 1}}), "in no order": yard(3, rows{{9, 2, 5}, {3, 8, 1}}), "numbers side by side": yard(3, rows{{5, 6}, {4, 7}}),
	} {
		if !impl.YardOk(y) {
			t.Error(name, "is not ok")
		}
	}
	for name, y := range wrongYards() {
		if impl.YardOk(y) {
			t.Error(name, "is ok")
		}
	}
}

// Each High takes stacks of each height, and each number of stacks, up to its
// limit.
func TestYardOkOfEachSize(t *testing.T) {
	for high := -1; high <= 8; high++ {
		for many := range 9 {
			want := high >= 1 && high <= 6 && many <= high
			checkYardOk(t, yard(high, rows{numbers(1, many)}), want)
			checkYardOk(t, yard(high, rows{nil, {20}, numbers(1, many)}), want)
			checkYardOk(t, yard(high, rows{numbers(1, many), {}}), want)
		}
		for stacks := range 15 {
			want := high >= 1 && high <= 6 && stacks >= 1 && stacks <= 12
			checkYardOk(t, yard(high, make(rows, stacks)), want)
			checkYardOk(t, fullYard(max(high, 1), stacks), stacks >= 1 && stacks <= 12 && high <= 6)
		}
	}
}

// A number that is there twice, wherever both are.
func TestYardOkOfEachPairOfPlaces(t *testing.T) {
	full := fullYard(3, 4)
	for a := range 12 {
		for b := range 12 {
			y := cloneYard(full)
			y.Stacks[a/3][a%3] = y.Stacks[b/3][b%3]
			checkYardOk(t, y, a == b)
		}
	}
}

func TestYardOkOfDrawnOnes(t *testing.T) {
	d := &draws{state: 240}
	seen := map[bool]int{}
	for range 6000 {
		y := drawnYard(d)
		checkYardOk(t, y, true)
		spoilYard(d, &y)
		want := yardOkOf(y)
		checkYardOk(t, y, want)
		seen[want]++
	}
	if min(seen[true], seen[false]) < 1000 {
		t.Error("few drawn", seen)
	}
}

func TestFindBoxByHand(t *testing.T) {
	y := yard(3, rows{{7, 2, 9}, {}, {4}, {1, 1000000}})
	for box, place := range map[int][2]int{7: {0, 0}, 2: {0, 1}, 9: {0, 2}, 4: {2, 0}, 1: {3, 0}, 1000000: {3, 1}, 3: {-1, -1}, 0: {-1, -1}, -1: {-1, -1}, 999999: {-1, -1}, 1000001: {-1, -1}, math.MaxInt: {-1, -1}, math.MinInt: {-1, -1}} {
		checkFind(t, y, box, place[0], place[1])
	}
	checkFind(t, yard(1, rows{{5}}), 5, 0, 0)
	checkFind(t, yard(1, rows{{}}), 5, -1, -1)
	checkFind(t, yard(1, rows{{}}), 0, -1, -1)
}

func TestFindBoxOfAllBoxes(t *testing.T) {
	full := fullYard(6, 12)
	for box := -3; box <= 80; box++ {
		if box >= 1 && box <= 72 {
			checkFind(t, full, box, (box-1)/6, (box-1)%6)
		} else {
			checkFind(t, full, box, -1, -1)
		}
	}
}

// A box that stands in a yard that is not so is not found.
func TestFindBoxOfYardsThatAreNotSo(t *testing.T) {
	for _, y := range wrongYards() {
		for _, box := range []int{math.MinInt, -1, 0, 1, 2, 3, 4, 5, 6, 1000000, 1000001, math.MaxInt} {
			checkFind(t, y, box, -1, -1)
		}
	}
}

// What is found is where it is told, and what is not is nowhere.
func TestWhatIsFoundIsWhereItIsTold(t *testing.T) {
	d := &draws{state: 241}
	seen := map[bool]int{}
	for range 3000 {
		y := drawnYard(d)
		for range 20 {
			box := drawnBoxNumber(d, y)
			at, tier, ok := impl.FindBox(y, box)
			if ok != slices.Contains(inYard(y), box) || ok && y.Stacks[at][tier] != box || !ok && (at != -1 || tier != -1) {
				t.Fatal(y, box, at, tier, ok)
			}
			seen[ok]++
		}
		for at, stack := range y.Stacks {
			for tier, box := range stack {
				checkFind(t, y, box, at, tier)
			}
		}
	}
	if min(seen[true], seen[false]) < 5000 {
		t.Error("few drawn", seen)
	}
}

func TestYardInByHand(t *testing.T) {
	y := yard(3, rows{{1, 2}, {}, {3, 4, 5}, {6}})
	checkStacks(t, y, bringing(9, 0), rows{{1, 2, 9}, {}, {3, 4, 5}, {6}}, 0)
	checkStacks(t, y, bringing(9, 1), rows{{1, 2}, {9}, {3, 4, 5}, {6}}, 0)
	checkStacks(t, y, bringing(9, 3), rows{{1, 2}, {}, {3, 4, 5}, {6, 9}}, 0)
	checkStacks(t, y, bringing(1000000, 3), rows{{1, 2}, {}, {3, 4, 5}, {6, 1000000}}, 0)
	checkStacks(t, yard(3, rows{{2}}), bringing(1, 0), rows{{2, 1}}, 0)
	checkStacks(t, yard(1, rows{nil}), bringing(1, 0), rows{{1}}, 0)
	for _, stack := range []int{-1, 4, 5, -4, 12, math.MinInt, math.MaxInt} {
		checkYardNot(t, y, bringing(9, stack), impl.YardBad)
		checkYardNot(t, y, bringing(1, stack), impl.YardBad)
	}
	for _, box := range []int{0, -1, 1000001, math.MinInt, math.MaxInt} {
		for stack := -1; stack <= 4; stack++ {
			checkYardNot(t, y, bringing(box, stack), impl.YardBad)
		}
	}
}

// That it is there is told ahead of that its stack is full.
func TestYardInOfABoxThatIsThere(t *testing.T) {
	y := yard(3, rows{{1, 2}, {}, {3, 4, 5}, {6}})
	for box := 1; box <= 6; box++ {
		for stack := range 4 {
			checkYardNot(t, y, bringing(box, stack), impl.YardHas)
		}
	}
	checkYardNot(t, y, bringing(9, 2), impl.YardFull)
	checkYardNot(t, yard(1, rows{{1}}), bringing(2, 0), impl.YardFull)
	checkYardNot(t, yard(1, rows{{1}}), bringing(1, 0), impl.YardHas)
	for stack := range 12 {
		checkYardNot(t, fullYard(6, 12), bringing(73, stack), impl.YardFull)
		checkYardNot(t, fullYard(6, 12), bringing(72, stack), impl.YardHas)
	}
}

func TestYardShiftByHand(t *testing.T) {
	y := yard(3, rows{{1, 2}, {}, {3, 4, 5}, {6}})
	checkStacks(t, y, shifting(0, 1), rows{{1}, {2}, {3, 4, 5}, {6}}, 0)
	checkStacks(t, y, shifting(2, 0), rows{{1, 2, 5}, {}, {3, 4}, {6}}, 0)
	checkStacks(t, y, shifting(3, 0), rows{{1, 2, 6}, {}, {3, 4, 5}, {}}, 0)
	checkStacks(t, y, shifting(0, 3), rows{{1}, {}, {3, 4, 5}, {6, 2}}, 0)
	checkYardNot(t, y, shifting(0, 2), impl.YardFull)
	checkYardNot(t, y, shifting(3, 2), impl.YardFull)
	checkYardNot(t, y, shifting(1, 0), impl.YardNone)
	checkYardNot(t, y, shifting(1, 3), impl.YardNone)
	checkYardNot(t, y, shifting(1, 2), impl.YardNone)
	for at := range 4 {
		checkYardNot(t, y, shifting(at, at), impl.YardBad)
		for _, none := range []int{-1, 4, 6, math.MinInt, math.MaxInt} {
			checkYardNot(t, y, shifting(at, none), impl.YardBad)
			checkYardNot(t, y, shifting(none, at), impl.YardBad)
			checkYardNot(t, y, shifting(none, none), impl.YardBad)
		}
	}
	checkYardNot(t, yard(3, rows{{1, 2}}), shifting(0, 0), impl.YardBad)
	checkYardNot(t, yard(3, rows{{1, 2}}), shifting(0, 1), impl.YardBad)
}

// A shift names stacks: boxes with the same numbers count for nothing.
func TestYardShiftIsOfStacks(t *testing.T) {
	y := yard(2, rows{{2, 1}, {3}})
	checkStacks(t, y, shifting(0, 1), rows{{2}, {3, 1}}, 0)
	checkYardNot(t, y, shifting(2, 1), impl.YardBad)
	checkYardNot(t, y, shifting(3, 0), impl.YardBad)
	checkYardNot(t, y, shifting(1, 0), impl.YardFull)
}

func TestYardOutByHand(t *testing.T) {
	y := yard(3, rows{{1, 2, 3}, {4}, {5}})
	checkStacks(t, y, fetching(3), rows{{1, 2}, {4}, {5}}, 0)
	checkStacks(t, y, fetching(4), rows{{1, 2, 3}, {}, {5}}, 0)
	checkStacks(t, y, fetching(2), rows{{1}, {4, 3}, {5}}, 1)
	checkStacks(t, y, fetching(1), rows{{}, {4, 3}, {5, 2}}, 2)
	for _, box := range []int{6, 0, -1, 1000000, 1000001, math.MinInt, math.MaxInt} {
		checkYardNot(t, y, fetching(box), impl.YardNone)
	}
	six := yard(6, rows{{1, 2, 3, 4, 5, 6}, {}})
	for box := 1; box <= 6; box++ {
		moved := numbers(box+1, 6)
		slices.Reverse(moved)
		checkStacks(t, six, fetching(box), rows{numbers(1, box-1), moved}, 6-box)
	}
}

// Stack is not looked at, whatever it is.
func TestYardOutLooksAtNoStack(t *testing.T) {
	y := yard(3, rows{{1, 2, 3}, {4}, {5}})
	for _, stack := range []int{-1, 0, 1, 2, 3, math.MinInt, math.MaxInt} {
		checkStacks(t, y, withStack(fetching(2), stack), rows{{1}, {4, 3}, {5}}, 1)
		checkYardNot(t, y, withStack(fetching(6), stack), impl.YardNone)
	}
}

// The lowest other stack, wherever it is; of several the first, also where its
// own would be lower.
func TestYardOutOntoTheLowestOther(t *testing.T) {
	checkStacks(t, yard(4, rows{{}, {1, 2}, {3}}), fetching(1), rows{{2}, {}, {3}}, 1)
	checkStacks(t, yard(4, rows{{3, 4}, {1, 2}, {5}}), fetching(1), rows{{3, 4}, {}, {5, 2}}, 1)
	checkStacks(t, yard(4, rows{{3, 4}, {5}, {6, 7}, {1, 2}, {8}}), fetching(1), rows{{3, 4}, {5, 2}, {6, 7}, {}, {8}}, 1)
	checkStacks(t, yard(4, rows{{1, 2}, {3, 4, 5}, {6, 7, 8}, {9, 10, 11}}), fetching(1), rows{{}, {3, 4, 5, 2}, {6, 7, 8}, {9, 10, 11}}, 1)
	checkStacks(t, yard(4, rows{{3, 4, 5}, {6, 7, 8}, {1, 2}}), fetching(1), rows{{3, 4, 5, 2}, {6, 7, 8}, {}}, 1)
	checkStacks(t, yard(3, rows{{3, 4, 5}, {1, 2}, {6, 7}}), fetching(1), rows{{3, 4, 5}, {}, {6, 7, 2}}, 1)
	checkStacks(t, yard(3, rows{{6, 7, 8}, {1, 2}, {3, 4, 5}, {9, 10}, {11, 12, 13}}), fetching(1), rows{{6, 7, 8}, {}, {3, 4, 5}, {9, 10, 2}, {11, 12, 13}}, 1)
}

// Each reshuffle looks at the stacks as the one ahead of it left them.
func TestYardOutReshufflesOneByOne(t *testing.T) {
	checkStacks(t, yard(6, rows{{1, 2, 3, 4, 5, 6}, {}, {7}, {8, 9}}), fetching(1), rows{{}, {6, 5, 3}, {7, 4, 2}, {8, 9}}, 5)
	checkStacks(t, yard(6, rows{{8, 9}, {7}, {1, 2, 3, 4, 5, 6}, {}}), fetching(1), rows{{8, 9, 3}, {7, 5, 2}, {}, {6, 4}}, 5)
	checkStacks(t, yard(6, rows{{1, 2, 3, 4, 5, 6}, {}, {}, {}}), fetching(2), rows{{1}, {6, 3}, {5}, {4}}, 4)
	checkStacks(t, yard(3, rows{{4, 5}, {1, 2, 3}, {6, 7}}), fetching(1), rows{{4, 5, 3}, {}, {6, 7, 2}}, 2)
	checkStacks(t, yard(3, rows{{4, 5, 6}, {1, 2, 3}, {7}}), fetching(1), rows{{4, 5, 6}, {}, {7, 3, 2}}, 2)
	checkStacks(t, yard(2, rows{{3, 4}, {1, 2}, {5}}), fetching(1), rows{{3, 4}, {}, {5, 2}}, 1)
}

// All others may be full at once, or only behind some reshuffles; then nothing is
// moved at all.
func TestYardOutWhereAllOthersAreFull(t *testing.T) {
	checkYardNot(t, yard(2, rows{{1, 2}, {3, 4}}), fetching(1), impl.YardFull)
	checkYardNot(t, yard(2, rows{{3, 4}, {1, 2}, {5, 6}}), fetching(1), impl.YardFull)
	checkYardNot(t, yard(3, rows{{1, 2, 3}, {4, 5}}), fetching(1), impl.YardFull)
	checkStacks(t, yard(3, rows{{1, 2, 3}, {4, 5}}), fetching(2), rows{{1}, {4, 5, 3}}, 1)
	checkYardNot(t, yard(5, rows{{1, 2, 3, 4, 5}, {6, 7, 8, 9}, {10, 11, 12}}), fetching(1), impl.YardFull)
	checkStacks(t, yard(5, rows{{1, 2, 3, 4, 5}, {6, 7, 8, 9}, {10, 11, 12}}), fetching(2), rows{{1}, {6, 7, 8, 9, 4}, {10, 11, 12, 5, 3}}, 3)
	full := fullYard(6, 12)
	for box := 1; box <= 72; box++ {
		if box%6 == 0 {
			want := cloneYard(full)
			want.Stacks[(box-1)/6] = want.Stacks[(box-1)/6][:5]
			checkYard(t, full, fetching(box), want, 0, impl.YardDone)
		} else {
			checkYardNot(t, full, fetching(box), impl.YardFull)
		}
	}
}

// A yard of one stack has no other one.
func TestYardOfOneStack(t *testing.T) {
	y := yard(6, rows{{1, 2, 3}})
	checkStacks(t, y, fetching(3), rows{{1, 2}}, 0)
	checkYardNot(t, y, fetching(2), impl.YardFull)
	checkYardNot(t, y, fetching(1), impl.YardFull)
	checkYardNot(t, y, fetching(4), impl.YardNone)
	checkStacks(t, yard(1, rows{{1}}), fetching(1), rows{{}}, 0)
	checkYardNot(t, yard(1, rows{{}}), fetching(1), impl.YardNone)
	checkStacks(t, y, bringing(4, 0), rows{{1, 2, 3, 4}}, 0)
}

func TestYardKindsThatAreNone(t *testing.T) {
	y := yard(3, rows{{1, 2}, {}, {3}})
	for _, kind := range []int{math.MinInt, -3, -2, -1, 0, 4, 5, 6, 7, math.MaxInt} {
		for _, op := range []impl.YardOp{{}, bringing(9, 0), bringing(1, 0), fetching(1), fetching(9), shifting(0, 1), shifting(0, 2), shifting(-1, -1)} {
			checkYardNot(t, y, withKind(op, kind), impl.YardBad)
		}
	}
}

// A yard that is not so is told as it was, whatever is asked.
func TestOpsOnYardsThatAreNotSo(t *testing.T) {
	for _, y := range wrongYards() {
		for _, op := range []impl.YardOp{{}, bringing(9, 0), bringing(1, 0), bringing(9, -1), fetching(1), fetching(3), fetching(9), shifting(0, 1), shifting(1, 0), shifting(2, 0), shifting(0, 0)} {
			checkYardNot(t, y, op, impl.YardBad)
		}
	}
}

// All yards of at most three stacks, three high, and four boxes, with all ops.
func TestAllOpsOnSmallYards(t *testing.T) {
	seen := [5]int{}
	for high := 1; high <= 3; high++ {
		for stacks := 1; stacks <= 3; stacks++ {
			for many := 0; many <= 4; many++ {
				for _, y := range allYards(high, stacks, many) {
					for kind := 0; kind <= 4; kind++ {
						for box := -1; box <= many+1; box++ {
							for stack := -1; stack <= stacks; stack++ {
								op := impl.YardOp{Kind: kind, Box: box, Stack: stack}
								want, count, code := doYardOf(y, op)
								checkYard(t, y, op, want, count, code)
								seen[code]++
							}
						}
					}
				}
			}
		}
	}
	if slices.Min(seen[:]) < 1000 {
		t.Error("few of a code", seen)
	}
}

// allYards are all ways in which boxes from 1 on can stand on so many stacks.
func allYards(high, stacks, many int) []impl.Yard {
	all := []impl.Yard{{High: high, Stacks: make(rows, stacks)}}
	for box := 1; box <= many; box++ {
		var next []impl.Yard
		for _, y := range all {
			for at, stack := range y.Stacks {
				for tier := 0; tier <= len(stack) && len(stack) < high; tier++ {
					more := cloneYard(y)
					more.Stacks[at] = slices.Insert(more.Stacks[at], tier, box)
					next = append(next, more)
				}
			}
		}
		all = next
	}
	return all
}

func TestDoYardOfDrawnOnes(t *testing.T) {
	d := &draws{state: 242}
	seen := [5]int{}
	for range 20000 {
		y := drawnYard(d)
		op := drawnYardOp(d, y)
		if d.below(12) == 0 {
			spoilYard(d, &y)
		}
		want, count, code := doYardOf(y, op)
		checkYard(t, y, op, want, count, code)
		seen[code]++
	}
	if slices.Min(seen[:]) < 1000 {
		t.Error("few drawn of a code", seen)
	}
}
