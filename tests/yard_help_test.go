package tests

import (
	"cmp"
	"fmt"
	"math"
	"slices"

	"loop.example/g00059/impl"
)

type (
	rows    = [][]int
	yardOps = []impl.YardOp
)

func yard(high int, stacks rows) impl.Yard { return impl.Yard{High: high, Stacks: stacks} }

// bringing, fetching and shifting are a YardIn, a YardOut and a YardShift.
func bringing(box, stack int) impl.YardOp { return impl.YardOp{Kind: 1, Box: box, Stack: stack} }

func fetching(box int) impl.YardOp { return impl.YardOp{Kind: 2, Box: box} }

func shifting(from, to int) impl.YardOp { return impl.YardOp{Kind: 3, Box: from, Stack: to} }

func withKind(op impl.YardOp, kind int) impl.YardOp {
	op.Kind = kind
	return op
}

func withStack(op impl.YardOp, stack int) impl.YardOp {
	op.Stack = stack
	return op
}

// numbers are those from one to another, both with it.
func numbers(first, last int) []int {
	var list []int
	for n := first; n <= last; n++ {
		list = append(list, n)
	}
	return list
}

// fullYard has boxes from 1 on, so many stacks of them, all full.
func fullYard(high, stacks int) impl.Yard {
	y := impl.Yard{High: high}
	for at := range stacks {
		y.Stacks = append(y.Stacks, numbers(at*high+1, at*high+high))
	}
	return y
}

func sameYard(a, b impl.Yard) bool {
	return a.High == b.High && slices.EqualFunc(a.Stacks, b.Stacks, slices.Equal[[]int])
}

func cloneYard(y impl.Yard) impl.Yard {
	stacks := slices.Clone(y.Stacks)
	for i, stack := range stacks {
		stacks[i] = slices.Clone(stack)
	}
	return impl.Yard{High: y.High, Stacks: stacks}
}

// inYard are its boxes, ascending.
func inYard(y impl.Yard) []int { return slices.Sorted(slices.Values(slices.Concat(y.Stacks...))) }

func yardOkOf(y impl.Yard) bool {
	if y.High < 1 || y.High > 6 || len(y.Stacks) < 1 || len(y.Stacks) > 12 {
		return false
	}
	seen := map[int]int{}
	for _, stack := range y.Stacks {
		if len(stack) > y.High {
			return false
		}
		for _, box := range stack {
			seen[box]++
			if box < 1 || box > 1000000 || seen[box] > 1 {
				return false
			}
		}
	}
	return true
}

// standsAt is where a box stands, whatever else does.
func standsAt(y impl.Yard, box int) (int, int, bool) {
	for at := range y.Stacks {
		for tier := range y.Stacks[at] {
			if y.Stacks[at][tier] == box {
				return at, tier, true
			}
		}
	}
	return -1, -1, false
}

func findBoxOf(y impl.Yard, box int) (int, int, bool) {
	if !yardOkOf(y) {
		return -1, -1, false
	}
	return standsAt(y, box)
}

// lowestOf has those that may be taken in the order in which they are.
func lowestOf(y impl.Yard, but int) int {
	var may []int
	for at, stack := range y.Stacks {
		if at != but && len(stack) < y.High {
			may = append(may, at)
		}
	}
	slices.SortFunc(may, func(a, b int) int { return cmp.Or(len(y.Stacks[a])-len(y.Stacks[b]), a-b) })
	return append(may, -1)[0]
}

// liftTo changes the yard.
func liftTo(y impl.Yard, from, to int) {
	last := len(y.Stacks[from]) - 1
	y.Stacks[to] = append(y.Stacks[to], y.Stacks[from][last])
	y.Stacks[from] = y.Stacks[from][:last]
}

func yardCodeOf(y impl.Yard, op impl.YardOp) int {
	isStack := func(n int) bool { return n > -1 && len(y.Stacks) > n }
	_, _, isThere := standsAt(y, op.Box)
	switch {
	case !yardOkOf(y) || op.Kind != 1 && op.Kind != 2 && op.Kind != 3:
		return 1
	case op.Kind == 2 && !isThere:
		return 3
	case op.Kind == 2:
		return 0
	case !isStack(op.Stack):
		return 1
	case op.Kind == 1 && (op.Box < 1 || op.Box > 1000000):
		return 1
	case op.Kind == 1 && isThere:
		return 2
	case op.Kind == 3 && (!isStack(op.Box) || op.Box == op.Stack):
		return 1
	case op.Kind == 3 && len(y.Stacks[op.Box]) == 0:
		return 3
	case len(y.Stacks[op.Stack]) == y.High:
		return 4
	}
	return 0
}

func doYardOf(y impl.Yard, op impl.YardOp) (impl.Yard, int, int) {
	now := cloneYard(y)
	if code := yardCodeOf(y, op); code != 0 {
		return now, 0, code
	}
	switch op.Kind {
	case 1:
		now.Stacks[op.Stack] = append(now.Stacks[op.Stack], op.Box)
		return now, 0, 0
	case 3:
		liftTo(now, op.Box, op.Stack)
		return now, 0, 0
	}
	at, tier, _ := standsAt(y, op.Box)
	above := len(y.Stacks[at]) - 1 - tier
	for range above {
		to := lowestOf(now, at)
		if to < 0 {
			return cloneYard(y), 0, 4
		}
		liftTo(now, at, to)
	}
	now.Stacks[at] = now.Stacks[at][:tier]
	return now, above, 0
}

func runYardOf(y impl.Yard, ops yardOps) (impl.Yard, []int, int) {
	now := cloneYard(y)
	if len(ops) > 200 {
		return now, nil, 0
	}
	var codes []int
	all := 0
	for _, op := range ops {
		var many, code int
		now, many, code = doYardOf(now, op)
		codes = append(codes, code)
		all += many
	}
	return now, codes, all
}

func isTwiceIn(list []int) bool {
	sorted := slices.Sorted(slices.Values(list))
	return len(slices.Compact(sorted)) != len(list)
}

// blockingOf looks at each box with each one below it.
func blockingOf(y impl.Yard, order []int) (int, bool) {
	if !yardOkOf(y) || len(order) > 72 || isTwiceIn(order) {
		return 0, false
	}
	goes := func(box int) int {
		if at := slices.Index(order, box); at >= 0 {
			return at
		}
		return math.MaxInt
	}
	count := 0
	for _, stack := range y.Stacks {
		for tier, box := range stack {
			if slices.ContainsFunc(stack[:tier], func(below int) bool { return goes(below) < goes(box) }) {
				count++
			}
		}
	}
	return count, true
}

// outOf takes off all of order whose turn it is and that are topmost.
func outOf(y impl.Yard, order []int) impl.Yard {
	for _, box := range order {
		at, tier, isThere := standsAt(y, box)
		if isThere && tier < len(y.Stacks[at])-1 {
			break
		}
		if isThere {
			y.Stacks[at] = y.Stacks[at][:tier]
		}
	}
	return y
}

// leastOf has all yards that some moves lead to, then all that one more does.
func leastOf(y impl.Yard, order []int, most int) (int, bool) {
	isThere := func(box int) bool { return slices.Contains(inYard(y), box) }
	if !yardOkOf(y) || len(y.Stacks) > 3 || len(inYard(y)) > 7 || len(order) > 7 || isTwiceIn(order) || most < 0 || most > 8 {
		return -1, false
	}
	if slices.ContainsFunc(order, func(box int) bool { return !isThere(box) }) {
		return -1, false
	}
	level, seen := []impl.Yard{outOf(cloneYard(y), order)}, map[[3][6]int]bool{}
	for moves := 0; moves <= most; moves++ {
		var next []impl.Yard
		for _, now := range level {
			if len(inYard(now)) == len(inYard(y))-len(order) {
				return moves, true
			}
			for _, moved := range movedOf(now) {
				moved = outOf(moved, order)
				if key := looksOf(moved); !seen[key] {
					seen[key] = true
					next = append(next, moved)
				}
			}
		}
		level = next
	}
	return -1, false
}

// movedOf are all yards that one move leads to.
func movedOf(y impl.Yard) []impl.Yard {
	var all []impl.Yard
	for from := range y.Stacks {
		for to := range y.Stacks {
			if yardCodeOf(y, shifting(from, to)) == 0 {
				moved := cloneYard(y)
				liftTo(moved, from, to)
				all = append(all, moved)
			}
		}
	}
	return all
}

// looksOf is a yard of at most three stacks as one value.
func looksOf(y impl.Yard) [3][6]int {
	var looks [3][6]int
	for at, stack := range y.Stacks {
		copy(looks[at][:], stack)
	}
	return looks
}

// drawnPiles lays so many of the boxes on stacks, in any order.
func drawnPiles(d *draws, high, stacks, many int) impl.Yard {
	y := impl.Yard{High: high, Stacks: make(rows, stacks)}
	for _, n := range shuffled(d, upTo(many)) {
		if at := d.below(stacks); len(y.Stacks[at]) < high {
			y.Stacks[at] = append(y.Stacks[at], n+1)
		} else if at = lowestOf(y, -1); at >= 0 {
			y.Stacks[at] = append(y.Stacks[at], n+1)
		}
	}
	return y
}

// drawnYard is full, nearly full or has a lot of room; some boxes have great
// numbers.
func drawnYard(d *draws) impl.Yard {
	high, stacks := []int{1, 2, 3, d.between(1, 6), 6}[d.below(5)], []int{1, 2, 3, d.between(1, 12), 12}[d.below(5)]
	room := high * stacks
	y := drawnPiles(d, high, stacks, []int{room, max(0, room-d.below(6)), d.below(room + 1), d.below(room + 1)}[d.below(4)])
	for _, stack := range y.Stacks {
		if len(stack) > 0 && d.below(6) == 0 {
			stack[d.below(len(stack))] += 1000000 - 72
		}
	}
	return y
}

// drawnBoxNumber is mostly one that is there.
func drawnBoxNumber(d *draws, y impl.Yard) int {
	if all := inYard(y); len(all) > 0 && d.below(4) != 0 {
		return all[d.below(len(all))]
	}
	return []int{d.between(0, 80), d.between(73, 90), 1000000, 1000001, 0, -1}[d.below(6)]
}

func drawnYardOp(d *draws, y impl.Yard) impl.YardOp {
	stack := func() int {
		return []int{d.below(len(y.Stacks)), d.below(len(y.Stacks)), d.between(-1, len(y.Stacks))}[d.below(3)]
	}
	switch d.below(10) {
	case 0:
		return impl.YardOp{Kind: []int{0, 4, -1, d.between(-2, 6)}[d.below(4)], Box: drawnBoxNumber(d, y), Stack: stack()}
	case 1, 2, 3:
		return bringing([]int{drawnBoxNumber(d, y), d.between(73, 900), d.between(73, 900)}[d.below(3)], stack())
	case 4, 5, 6:
		return shifting(stack(), stack())
	}
	return withStack(fetching(drawnBoxNumber(d, y)), d.between(-2, 13))
}

func drawnYardOps(d *draws, y impl.Yard) yardOps {
	ops := make(yardOps, []int{d.below(6), d.below(201), 200}[d.below(3)])
	for i := range ops {
		ops[i] = drawnYardOp(d, y)
		y, _, _ = doYardOf(y, ops[i])
	}
	return ops
}

// drawnOrderOf has boxes of the yard, and perhaps others.
func drawnOrderOf(d *draws, y impl.Yard, others bool) []int {
	list := inYard(y)
	if others && d.below(3) == 0 {
		list = append(list, 80, 81, 999999)
	}
	return shuffled(d, list)[:d.below(min(len(list), 72)+1)]
}

// drawnSmall is what LeastShuffles takes: a yard and an order.
func drawnSmall(d *draws) (impl.Yard, []int) {
	high, stacks := d.between(1, 6), []int{1, 2, 2, 3, 3, 3, 3, 3}[d.below(8)]
	y := drawnPiles(d, high, stacks, []int{min(7, high*stacks), d.below(8)}[d.below(2)])
	return y, drawnOrderOf(d, y, false)
}

// spoilYard changes something that may well stay right.
func spoilYard(d *draws, y *impl.Yard) {
	at := d.below(len(y.Stacks))
	switch d.below(6) {
	case 0:
		y.High += d.between(-2, 2)
	case 1:
		y.Stacks = append(y.Stacks, []int{900}, nil)[:len(y.Stacks)+d.below(3)]
	case 2:
		y.Stacks[at] = append(y.Stacks[at], d.between(0, 90))
	case 3, 4:
		if len(y.Stacks[at]) > 0 {
			y.Stacks[at][d.below(len(y.Stacks[at]))] = []int{0, 1, d.between(1, 80), 1000000, 1000001}[d.below(5)]
		}
	case 5:
		y.Stacks = y.Stacks[:d.below(len(y.Stacks)+1)]
	}
}

// wrongYards pass one limit each, most of them by one.
func wrongYards() map[string]impl.Yard {
	all := map[string]impl.Yard{
		"empty": {}, "no stack": yard(3, nil), "no stack, but a list": yard(3, rows{}), "13 stacks": yard(3, make(rows, 13)), "13 stacks with boxes": fullYard(3, 13), "1000 stacks": yard(3, make(rows, 1000)),
		"a first stack too high": yard(2, rows{{1, 2, 3}, {4}}), "a last stack too high": yard(2, rows{{4}, {1, 2, 3}}), "a middle one too high": yard(1, rows{{1}, {2, 3}, {4}}), "one of 7": yard(6, rows{numbers(1, 7)}), "one of 1000": yard(6, rows{{}, numbers(1, 1000)}),
		"twice in one stack": yard(3, rows{{5, 5}}), "twice, with one between": yard(3, rows{{5, 1, 5}}), "twice in two stacks": yard(3, rows{{5}, {5}}), "twice in the first and the last": yard(3, rows{{1, 5}, {2}, {}, {4, 6, 5}}), "thrice": yard(3, rows{{5}, {5}, {5}}),
		"one too many of a full yard": fullYard(6, 13),
	}
	for _, high := range []int{math.MinInt, math.MinInt + 1, -6, -1, 0, 7, 8, math.MaxInt - 1, math.MaxInt} {
		all[fmt.Sprint("High ", high)] = yard(high, rows{{1, 2}, {3}, {}})
		all[fmt.Sprint("High ", high, " without boxes")] = yard(high, rows{nil})
	}
	for _, box := range []int{math.MinInt, math.MinInt + 1, -1, 0, 1000001, 1000002, math.MaxInt - 1, math.MaxInt} {
		all[fmt.Sprint("box ", box, " alone")] = yard(3, rows{{box}})
		all[fmt.Sprint("box ", box, " the lowest")] = yard(3, rows{{box, 1, 2}, {3}})
		all[fmt.Sprint("box ", box, " the topmost")] = yard(3, rows{{3}, {}, {1, 2, box}})
		all[fmt.Sprint("box ", box, " between")] = yard(3, rows{{3}, {1, box, 2}, {}})
	}
	last := fullYard(6, 12)
	last.Stacks[11][5] = 1
	all["a full yard with its last one as its first"] = last
	return all
}
