package tests

import (
	"math"
	"slices"
	"testing"

	"loop.example/g00059/impl"
)

// Promise 18, of orders: the least number of moves is at least what blocks.

func checkBlocking(t *testing.T, y impl.Yard, order []int, want int) {
	t.Helper()
	if got, ok := impl.Blocking(y, order); got != want || !ok {
		t.Error(y, order, "got", got, ok, "not", want)
	}
}

func checkNotBlocking(t *testing.T, y impl.Yard, order []int) {
	t.Helper()
	if got, ok := impl.Blocking(y, order); got != 0 || ok {
		t.Error(y, order, "got", got, ok)
	}
}

func checkLeast(t *testing.T, y impl.Yard, order []int, most, want int) {
	t.Helper()
	if got, ok := impl.LeastShuffles(y, order, most); got != want || ok != (want != -1) {
		t.Error(y, order, most, "got", got, ok, "not", want)
	}
}

// checkNeeds tells the least number with each bound: just that many do, and one
// less does not.
func checkNeeds(t *testing.T, y impl.Yard, order []int, want int) {
	t.Helper()
	for most := -1; most <= 9; most++ {
		if most >= want && most <= 8 {
			checkLeast(t, y, order, most, want)
		} else {
			checkLeast(t, y, order, most, -1)
		}
	}
}

// checkNever is what no number of moves does that may be asked for.
func checkNever(t *testing.T, y impl.Yard, order []int) {
	t.Helper()
	for most := -1; most <= 9; most++ {
		checkLeast(t, y, order, most, -1)
	}
}

func TestBlockingByHand(t *testing.T) {
	y := yard(3, rows{{1, 2, 3}, {4}, {5}})
	checkBlocking(t, y, []int{1, 3}, 2)
	checkBlocking(t, y, []int{1, 2, 3}, 2)
	checkBlocking(t, y, []int{3, 2, 1}, 0)
	checkBlocking(t, y, []int{2, 1, 3}, 1)
	checkBlocking(t, y, []int{2, 3, 1}, 1)
	checkBlocking(t, y, []int{3, 1, 2}, 1)
	checkBlocking(t, y, []int{1, 3, 2}, 2)
	checkBlocking(t, y, []int{5, 4}, 0)
	checkBlocking(t, y, []int{2}, 1)
	checkBlocking(t, y, []int{3}, 0)
	checkBlocking(t, y, []int{1}, 2)
	checkBlocking(t, yard(6, rows{{6, 1, 5, 2, 4, 3}}), numbers(1, 6), 4)
	checkBlocking(t, yard(6, rows{{1, 6, 5, 4, 3, 2}}), numbers(1, 6), 5)
	checkBlocking(t, yard(6, rows{{6, 5, 4, 3, 1, 2}}), numbers(1, 6), 1)
}

func TestBlockingOfNoOrder(t *testing.T) {
	for _, y := range []impl.Yard{yard(1, rows{nil}), yard(3, rows{{1, 2, 3}, {4}, {5}}), fullYard(6, 12)} {
		checkBlocking(t, y, nil, 0)
		checkBlocking(t, y, []int{}, 0)
	}
}

// One that is not in the order goes last: it blocks what is below it and in the
// order, and nothing else.
func TestBlockingOfBoxesThatAreNotInTheOrder(t *testing.T) {
	checkBlocking(t, yard(3, rows{{1, 9}}), []int{1}, 1)
	checkBlocking(t, yard(3, rows{{9, 1}}), []int{1}, 0)
	checkBlocking(t, yard(3, rows{{8, 9}}), []int{1}, 0)
	checkBlocking(t, yard(3, rows{{9, 8, 7}}), []int{1}, 0)
	checkBlocking(t, yard(3, rows{{9, 1, 8}}), []int{1}, 1)
	checkBlocking(t, yard(3, rows{{1, 9, 8}}), []int{1}, 2)
	checkBlocking(t, yard(3, rows{{1, 9, 2}}), []int{2, 1}, 1)
	checkBlocking(t, yard(3, rows{{1, 9, 2}}), []int{1, 2}, 2)
	checkBlocking(t, yard(3, rows{{1}, {9, 8}}), []int{1}, 0)
}

// Numbers that are not in the yard do nothing, whatever they are and wherever
// they stand.
func TestBlockingOfNumbersThatAreNotThere(t *testing.T) {
	y := yard(3, rows{{1, 2, 3}, {4}})
	for _, other := range []int{5, 1000000, 1000001, 0, -1, math.MinInt, math.MaxInt} {
		checkBlocking(t, y, []int{other}, 0)
		checkBlocking(t, y, []int{other, 1, 3}, 2)
		checkBlocking(t, y, []int{2, other, 3}, 1)
		checkBlocking(t, y, []int{3, 2, other, 1}, 0)
		checkBlocking(t, y, []int{3, 2, 1, 4, other}, 0)
		checkNotBlocking(t, y, []int{other, other})
		checkNotBlocking(t, y, []int{other, 1, 3, other})
	}
}

func TestBlockingAtItsLimit(t *testing.T) {
	full := fullYard(6, 12)
	checkBlocking(t, full, numbers(1, 72), 60)
	checkBlocking(t, full, numbers(1, 71), 60)
	back := numbers(1, 72)
	slices.Reverse(back)
	checkBlocking(t, full, back, 0)
	checkBlocking(t, full, numbers(1001, 1072), 0)
	checkNotBlocking(t, full, numbers(1, 73))
	checkNotBlocking(t, full, numbers(1001, 1073))
	checkNotBlocking(t, yard(1, rows{nil}), numbers(1, 73))
	checkNotBlocking(t, full, numbers(1, 3000))
	checkBlocking(t, yard(1, rows{nil}), numbers(1, 72), 0)
}

func TestBlockingOfOrdersWithANumberTwice(t *testing.T) {
	y := yard(3, rows{{1, 2, 3}, {4}})
	for _, order := range [][]int{{1, 1}, {1, 2, 1}, {4, 3, 3}, {1, 2, 3, 4, 4}, {9, 9}, {9, 1, 9}, {0, 0}} {
		checkNotBlocking(t, y, order)
	}
	most := numbers(1, 72)
	for _, at := range []int{0, 1, 35, 70} {
		twice := slices.Clone(most)
		twice[71] = twice[at]
		checkNotBlocking(t, y, twice)
	}
	checkNotBlocking(t, y, make([]int, 72))
	checkNotBlocking(t, y, make([]int, 2))
}

func TestBlockingOfYardsThatAreNotSo(t *testing.T) {
	for _, y := range wrongYards() {
		for _, order := range [][]int{nil, {}, {1}, {1, 2, 3}, {5}, {3, 2, 1}, {1, 1}, numbers(1, 73)} {
			checkNotBlocking(t, y, order)
			checkNever(t, y, order)
		}
	}
}

func TestBlockingOfDrawnOnes(t *testing.T) {
	d := &draws{state: 251}
	seen := map[bool]int{}
	for range 6000 {
		y := drawnYard(d)
		order := drawnOrderOf(d, y, true)
		if d.below(10) == 0 && len(order) > 1 {
			order[d.below(len(order))] = order[0]
		}
		if d.below(10) == 0 {
			spoilYard(d, &y)
		}
		want, ok := blockingOf(y, order)
		if got, told := impl.Blocking(y, order); got != want || told != ok {
			t.Error(y, order, "got", got, told, "not", want, ok)
		}
		seen[ok]++
	}
	if min(seen[true], seen[false]) < 500 {
		t.Error("few drawn", seen)
	}
}

// What comes last in the order blocks as if it were not in it, where it is the
// only one.
func TestBlockingOfAWholeOrder(t *testing.T) {
	d := &draws{state: 252}
	for range 2000 {
		y := drawnYard(d)
		order := shuffled(d, inYard(y))
		if len(order) == 0 {
			continue
		}
		want, _ := impl.Blocking(y, order)
		checkBlocking(t, y, order[:len(order)-1], want)
		checkBlocking(t, y, append(slices.Clone(order[:len(order)-1]), 2000, order[len(order)-1])[:min(72, len(order)+1)], want)
	}
}

func TestLeastShufflesByHand(t *testing.T) {
	y := yard(3, rows{{1, 2, 3}, {4}, {5}})
	checkNeeds(t, y, []int{1, 2, 3}, 2)
	checkNeeds(t, y, []int{1, 3}, 2)
	checkNeeds(t, y, []int{3, 2, 1}, 0)
	checkNeeds(t, y, []int{5, 4, 3, 2, 1}, 0)
	checkNeeds(t, y, []int{1, 4, 5, 2, 3}, 3)
	checkNeeds(t, y, []int{2, 4, 5, 1, 3}, 2)
	checkNeeds(t, yard(2, rows{{1, 2}, {}}), []int{1}, 1)
	checkNeeds(t, yard(2, rows{{1, 2}, {}}), []int{1, 2}, 1)
	checkNeeds(t, yard(6, rows{{1, 2, 3, 4, 5, 6}, {7}}), []int{1}, 5)
	checkNeeds(t, yard(6, rows{{1, 2, 3, 4, 5, 6}, {7}, {}}), []int{1}, 5)
	checkNeeds(t, yard(6, rows{{1, 2, 3, 4, 5, 6}, {7}, {}}), []int{1, 6, 5, 4, 3}, 8)
}

// Where more must be moved than what blocks: a box has to go twice, or one goes
// that blocks nothing yet.
func TestLeastShufflesAboveBlocking(t *testing.T) {
	twice := yard(3, rows{{1, 2, 3}, {}})
	checkBlocking(t, twice, []int{1, 3, 2}, 2)
	checkNeeds(t, twice, []int{1, 3, 2}, 3)
	checkNeeds(t, twice, []int{1, 2, 3}, 2)
	ahead := yard(2, rows{{1, 2}, {3, 4}, {5}})
	checkNeeds(t, ahead, []int{1, 3}, 2)
	checkBlocking(t, ahead, []int{1, 3}, 2)
	tight := yard(2, rows{{1, 2}, {3}})
	checkNeeds(t, tight, []int{1, 3}, 2)
	checkBlocking(t, tight, []int{1, 3}, 1)
	for _, y := range []impl.Yard{twice, ahead, tight} {
		checkNeeds(t, y, nil, 0)
	}
}

// A box may be moved away before it blocks anything, which saves a move.
func TestLeastShufflesMovesAhead(t *testing.T) {
	d := &draws{state: 253}
	found := 0
	for range 3000 {
		y, order := drawnSmall(d)
		least, ok := impl.LeastShuffles(y, order, 8)
		if ok && least > 0 && least < onlyAbove(y, order) {
			found++
		}
	}
	if found < 20 {
		t.Error("few where it pays", found)
	}
}

// onlyAbove is the number where just boxes are moved that stand on the one whose
// turn it is; 9 where 8 do not do.
func onlyAbove(y impl.Yard, order []int) int {
	level := []impl.Yard{outOf(cloneYard(y), order)}
	for moves := range 9 {
		var next []impl.Yard
		for _, now := range level {
			if len(inYard(now)) == len(inYard(y))-len(order) {
				return moves
			}
			own := order[slices.IndexFunc(order, func(box int) bool { return slices.Contains(inYard(now), box) })]
			from, _, _ := standsAt(now, own)
			for to := range now.Stacks {
				if yardCodeOf(now, shifting(from, to)) == 0 {
					moved := cloneYard(now)
					liftTo(moved, from, to)
					next = append(next, outOf(moved, order))
				}
			}
		}
		level = next
	}
	return 9
}

func TestLeastShufflesOfNoOrder(t *testing.T) {
	for _, y := range []impl.Yard{yard(1, rows{nil}), yard(1, rows{{1}}), yard(2, rows{{1, 2}, {3, 4}}), yard(6, rows{{1, 2, 3, 4, 5, 6}, {7}, {}})} {
		checkNeeds(t, y, nil, 0)
		checkNeeds(t, y, []int{}, 0)
	}
}

// Nothing blocks: all go out one by one, with no move at all.
func TestLeastShufflesWhereNothingBlocks(t *testing.T) {
	checkNeeds(t, yard(6, rows{{1, 2, 3, 4, 5, 6}}), []int{6, 5, 4, 3, 2, 1}, 0)
	checkNeeds(t, yard(3, rows{{1, 2, 3}, {4, 5}, {6, 7}}), []int{7, 5, 3, 6, 2, 4, 1}, 0)
	checkNeeds(t, yard(3, rows{{1, 2, 3}, {4, 5, 6}, {7}}), []int{7, 6}, 0)
	checkNeeds(t, yard(1, rows{{1}, {2}, {3}}), []int{2, 3, 1}, 0)
}

func TestLeastShufflesThatCanNotBe(t *testing.T) {
	checkNever(t, yard(2, rows{{1, 2}}), []int{1})
	checkNever(t, yard(6, rows{{1, 2, 3}}), []int{1})
	checkNever(t, yard(2, rows{{1, 2}, {3, 4}}), []int{1})
	checkNever(t, yard(2, rows{{1, 2}, {3, 4}, {5, 6}}), []int{1, 2})
	checkNever(t, yard(3, rows{{1, 2, 3}, {4, 5}}), []int{1})
	checkNeeds(t, yard(2, rows{{1, 2}, {3, 4}}), []int{4, 1}, 1)
	checkNeeds(t, yard(2, rows{{1, 2}, {3, 4}}), []int{2, 4, 1, 3}, 0)
	checkNever(t, yard(6, rows{{1, 2}, {}}), []int{1, 2, 3})
}

// With two stacks it may well take 8 moves, 9 or a lot more; of those above 8 none
// is told.
func TestLeastShufflesOfMoreThanMayBeAskedFor(t *testing.T) {
	checkNeeds(t, yard(3, rows{{1, 2, 3}, {4, 5, 6}, {7}}), []int{1, 4, 7, 2, 5}, 6)
	checkNeeds(t, yard(6, rows{{1, 4, 5, 6}, {2, 3, 7}}), []int{4, 3, 5, 6, 1, 2, 7}, 8)
	checkNeeds(t, yard(4, rows{{1, 3, 4, 6}, {2, 5, 7}}), []int{4, 5, 7, 1, 2, 3, 6}, 8)
	checkNever(t, yard(6, rows{{2, 4, 5}, {1, 3, 6, 7}}), []int{2, 1, 3, 5, 7, 4, 6})
	checkNever(t, yard(4, rows{{1, 2, 3, 5}, {4, 6, 7}}), []int{3, 6, 2, 4, 1, 5, 7})
	checkNever(t, yard(6, rows{{1, 2, 3, 4, 5, 6}, {7}}), []int{1, 7, 2, 6, 4, 5, 3})
}

func TestLeastShufflesAtItsLimits(t *testing.T) {
	three, four := yard(6, rows{{1, 2}, {}, {3}}), yard(6, rows{{1, 2}, {}, {3}, {}})
	checkNeeds(t, three, []int{1}, 1)
	checkNever(t, four, []int{1})
	checkNever(t, four, nil)
	checkNever(t, yard(1, rows{nil, nil, nil, nil}), nil)
	checkNever(t, fullYard(1, 12), nil)
	seven, eight := yard(6, rows{{1, 2, 3}, {4, 5, 6}, {7}}), yard(6, rows{{1, 2, 3}, {4, 5, 6}, {7, 8}})
	checkNeeds(t, seven, []int{2}, 1)
	checkNever(t, eight, []int{2})
	checkNever(t, eight, []int{8})
	checkNever(t, eight, nil)
	checkNever(t, fullYard(6, 3), nil)
	all := []int{7, 6, 5, 3, 4, 2, 1}
	checkNeeds(t, seven, all, 0)
	for _, other := range []int{8, 1, 0, -1, 1000000} {
		checkNever(t, seven, append(slices.Clone(all), other))
	}
	checkNever(t, eight, []int{8, 7, 6, 5, 3, 4, 2, 1})
	checkNever(t, seven, numbers(1, 3000))
}

func TestLeastShufflesOfOrdersThatAreNotSo(t *testing.T) {
	y := yard(3, rows{{1, 2, 3}, {4}, {5}})
	for _, order := range [][]int{{6}, {0}, {-1}, {1000001}, {math.MinInt}, {math.MaxInt}, {3, 6}, {6, 3}, {3, 2, 1, 9}, {3, 3}, {3, 2, 3}, {1, 1}, {5, 4, 4}, {6, 6}, make([]int, 7), make([]int, 8)} {
		checkNever(t, y, order)
	}
	checkNever(t, yard(1, rows{nil}), []int{1})
	for _, most := range []int{math.MinInt, -8, -1, 9, 10, 100, math.MaxInt} {
		checkLeast(t, y, []int{3}, most, -1)
		checkLeast(t, y, []int{1}, most, -1)
		checkLeast(t, y, nil, most, -1)
	}
	for most := range 9 {
		checkLeast(t, y, []int{3}, most, 0)
	}
}

// All yards of few boxes, with all orders of some of them.
func TestLeastShufflesOfAllSmallYards(t *testing.T) {
	seen := map[int]int{}
	for stacks := 1; stacks <= 3; stacks++ {
		for high := 1; high <= 4; high++ {
			for many := 0; many <= 5; many++ {
				if many == 5 && high == 4 {
					continue
				}
				for _, y := range allYards(high, stacks, many) {
					order := numbers(1, many)
					for count := range many + 1 {
						want, _ := leastOf(y, order[:count], 8)
						checkLeast(t, y, order[:count], 8, want)
						seen[want]++
					}
				}
			}
		}
	}
	if len(seen) != 8 || seen[-1] < 500 || seen[5] < 20 {
		t.Error("few of a kind", seen)
	}
}

func TestLeastShufflesOfDrawnOnes(t *testing.T) {
	d := &draws{state: 254}
	seen := map[int]int{}
	for range 6000 {
		y, order := drawnSmall(d)
		most := []int{8, d.between(-1, 9)}[d.below(2)]
		if d.below(12) == 0 {
			spoilYard(d, &y)
		}
		want, _ := leastOf(y, order, most)
		checkLeast(t, y, order, most, want)
		seen[want]++
	}
	if len(seen) != 10 || min(seen[-1], seen[0], seen[1], seen[2], seen[3]) < 50 || min(seen[7], seen[8]) < 3 {
		t.Error("few drawn", seen)
	}
}

// The least number is at least what blocks, and none of both where nothing does.
func TestLeastIsAtLeastWhatBlocks(t *testing.T) {
	d := &draws{state: 255}
	more := 0
	for range 20000 {
		y, order := drawnSmall(d)
		blocks, ok := impl.Blocking(y, order)
		if !ok {
			t.Fatal(y, order)
		}
		least, isDone := impl.LeastShuffles(y, order, 8)
		if isDone && least < blocks || (blocks == 0) != (least == 0) {
			t.Fatal(y, order, blocks, least, isDone)
		}
		if isDone && least > blocks {
			more++
		}
	}
	if more < 500 {
		t.Error("few with more", more)
	}
}

// One box after the other by DoYard takes at least as many reshuffles as blocked,
// and where it can be done by at most 8, never fewer than the least.
func TestReshufflesAreNoFewerThanTheLeast(t *testing.T) {
	d := &draws{state: 256}
	better := 0
	for range 20000 {
		y, order := drawnSmall(d)
		var ops yardOps
		for _, box := range order {
			ops = append(ops, fetching(box))
		}
		_, codes, many := impl.RunYard(y, ops)
		if slices.Contains(codes, impl.YardFull) {
			continue
		}
		blocks, _ := impl.Blocking(y, order)
		least, ok := impl.LeastShuffles(y, order, 8)
		if many < blocks || ok && many < least || !ok && many <= 8 {
			t.Fatal(y, order, many, blocks, least, ok)
		}
		if ok && least < many {
			better++
		}
	}
	if better < 500 {
		t.Error("few where the least is better", better)
	}
}

// The order in which stacks stand changes nothing, nor do the numbers of boxes.
func TestOrdersOfOtherNumbers(t *testing.T) {
	d := &draws{state: 257}
	for range 3000 {
		y, order := drawnSmall(d)
		other := cloneYard(y)
		other.Stacks = shuffled(d, other.Stacks)
		names := shuffled(d, numbers(999991, 1000000))
		var asked []int
		for _, stack := range other.Stacks {
			for tier := range stack {
				stack[tier] = names[stack[tier]]
			}
		}
		for _, box := range order {
			asked = append(asked, names[box])
		}
		blocks, _ := impl.Blocking(y, order)
		checkBlocking(t, other, asked, blocks)
		least, _ := impl.LeastShuffles(y, order, 8)
		checkLeast(t, other, asked, 8, least)
	}
}
