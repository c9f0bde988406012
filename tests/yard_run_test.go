package tests

import (
	"slices"
	"testing"

	"loop.example/g00059/impl"
)

func checkYardRun(t *testing.T, y impl.Yard, ops yardOps, want impl.Yard, codes []int, many int) {
	t.Helper()
	if got, told, count := impl.RunYard(y, ops); !sameYard(got, want) || !slices.Equal(told, codes) || count != many {
		t.Error(y, ops, "got", got, told, count, "not", want, codes, many)
	}
}

func TestRunYardByHand(t *testing.T) {
	ops := yardOps{
		bringing(1, 0), bringing(2, 0), bringing(3, 0), bringing(4, 0), bringing(3, 1), fetching(9), shifting(1, 0), fetching(1), shifting(0, 1), shifting(1, 0),
		bringing(1, 1), shifting(0, 0), fetching(2), {},
	}
	codes := []int{0, 0, 0, 4, 2, 3, 3, 0, 3, 0, 0, 1, 0, 1}
	y := yard(3, rows{nil, nil})
	checkYardRun(t, y, ops[:3], yard(3, rows{{1, 2, 3}, {}}), codes[:3], 0)
	checkYardRun(t, y, ops[:7], yard(3, rows{{1, 2, 3}, {}}), codes[:7], 0)
	checkYardRun(t, y, ops[:8], yard(3, rows{{}, {3, 2}}), codes[:8], 2)
	checkYardRun(t, y, ops[:10], yard(3, rows{{2}, {3}}), codes[:10], 2)
	checkYardRun(t, y, ops[:12], yard(3, rows{{2}, {3, 1}}), codes[:12], 2)
	checkYardRun(t, y, ops, yard(3, rows{{}, {3, 1}}), codes, 2)
}

// What several ops reshuffle is told as one sum; shifts and what is refused count
// for nothing.
func TestRunYardSums(t *testing.T) {
	y := yard(4, rows{{1, 2, 3, 4}, {5}, {}})
	checkYardRun(t, y, yardOps{fetching(3)}, yard(4, rows{{1, 2}, {5}, {4}}), []int{0}, 1)
	checkYardRun(t, y, yardOps{fetching(3), fetching(1)}, yard(4, rows{{}, {5, 2}, {4}}), []int{0, 0}, 2)
	checkYardRun(t, y, yardOps{fetching(3), fetching(1), fetching(5)}, yard(4, rows{{2}, {}, {4}}), []int{0, 0, 0}, 3)
	checkYardRun(t, y, yardOps{fetching(1), fetching(5)}, yard(4, rows{{3}, {}, {4, 2}}), []int{0, 0}, 4)
	checkYardRun(t, y, yardOps{shifting(0, 1), shifting(0, 2), shifting(0, 2), fetching(1)}, yard(4, rows{{}, {5, 4}, {3, 2}}), []int{0, 0, 0, 0}, 0)
	full := yard(2, rows{{1, 2}, {3, 4}, {5}})
	checkYardRun(t, full, yardOps{fetching(1), fetching(3), fetching(5)}, yard(2, rows{{4}, {2}, {}}), []int{0, 0, 0}, 3)
	checkYardRun(t, full, yardOps{bringing(6, 2), fetching(1), fetching(3), fetching(6), fetching(3)}, yard(2, rows{{1, 2}, {}, {5, 4}}), []int{0, 4, 4, 0, 0}, 1)
}

// An op works on what the ones ahead left, also behind one that is refused.
func TestRunYardWithSomeThatAreRefused(t *testing.T) {
	y := yard(2, rows{{1, 2}, {3}, {}})
	done := yardOps{bringing(7, 1), fetching(1), shifting(1, 2), fetching(3)}
	want := yard(2, rows{{}, {}, {2, 7}})
	checkYardRun(t, y, done, want, []int{0, 0, 0, 0}, 1)
	for refused, code := range map[impl.YardOp]int{
		{}: impl.YardBad, {Kind: 4}: impl.YardBad, {Kind: -1}: impl.YardBad, bringing(8, 3): impl.YardBad, bringing(8, -1): impl.YardBad, bringing(0, 0): impl.YardBad, bringing(2, 0): impl.YardHas, bringing(2, 2): impl.YardHas,
		fetching(9): impl.YardNone, fetching(0): impl.YardNone, shifting(1, 1): impl.YardBad, shifting(3, 1): impl.YardBad, shifting(0, -1): impl.YardBad,
	} {
		for at := range 5 {
			checkYardRun(t, y, slices.Insert(slices.Clone(done), at, refused), want, slices.Insert([]int{0, 0, 0, 0}, at, code), 1)
		}
	}
	checkYardRun(t, y, yardOps{done[0], bringing(8, 1), shifting(2, 1), done[1], done[2], done[3]}, want, []int{0, impl.YardFull, impl.YardNone, 0, 0, 0}, 1)
}

func TestRunYardAtItsLimit(t *testing.T) {
	y, there := yard(2, rows{{1}, {}}), yard(2, rows{{}, {1}})
	most := slices.Repeat(yardOps{shifting(0, 1), shifting(1, 0)}, 100)
	checkYardRun(t, y, nil, y, nil, 0)
	checkYardRun(t, y, yardOps{}, y, nil, 0)
	checkYardRun(t, y, most[:1], there, []int{0}, 0)
	checkYardRun(t, y, most[:199], there, make([]int, 199), 0)
	checkYardRun(t, y, most, y, make([]int, 200), 0)
	checkYardRun(t, y, append(most[:199:199], fetching(2)), there, append(make([]int, 199), impl.YardNone), 0)
	checkYardRun(t, y, append(slices.Clone(most), shifting(0, 1)), y, nil, 0)
	checkYardRun(t, y, append(yardOps{shifting(0, 1)}, most...), y, nil, 0)
	checkYardRun(t, y, make(yardOps, 200), y, slices.Repeat([]int{impl.YardBad}, 200), 0)
	checkYardRun(t, y, make(yardOps, 201), y, nil, 0)
	checkYardRun(t, y, slices.Repeat(yardOps{fetching(1)}, 3000), y, nil, 0)
}

// The lowest goes out from below five others, and comes back on top of them.
func TestRunYardOfManyReshuffles(t *testing.T) {
	y := yard(6, rows{{1, 2, 3, 4, 5, 6}, {}})
	ops := slices.Repeat(yardOps{fetching(1), bringing(1, 1), fetching(6), bringing(6, 0)}, 50)
	checkYardRun(t, y, ops[:2], yard(6, rows{{}, {6, 5, 4, 3, 2, 1}}), []int{0, 0}, 5)
	checkYardRun(t, y, ops[:3], yard(6, rows{{1, 2, 3, 4, 5}, {}}), []int{0, 0, 0}, 10)
	checkYardRun(t, y, ops[:199], yard(6, rows{{1, 2, 3, 4, 5}, {}}), make([]int, 199), 500)
	checkYardRun(t, y, ops, y, make([]int, 200), 500)
}

func TestRunYardOfYardsThatAreNotSo(t *testing.T) {
	ops := yardOps{bringing(9, 0), fetching(1), shifting(0, 1), shifting(1, 0), fetching(5), {}}
	for _, y := range wrongYards() {
		for count := range len(ops) + 1 {
			checkYardRun(t, y, ops[:count], y, slices.Repeat([]int{impl.YardBad}, count), 0)
		}
		checkYardRun(t, y, slices.Repeat(ops, 50)[:200], y, slices.Repeat([]int{impl.YardBad}, 200), 0)
		checkYardRun(t, y, slices.Repeat(ops, 50)[:201], y, nil, 0)
	}
}

// An op never mends a yard that is not so.
func TestOpsMendNoYard(t *testing.T) {
	high, twice := yard(1, rows{{1, 2}, {}}), yard(3, rows{{1}, {1}})
	checkYardRun(t, high, yardOps{shifting(0, 1), fetching(2), fetching(1)}, high, []int{1, 1, 1}, 0)
	checkYardRun(t, twice, yardOps{fetching(1), shifting(0, 1), fetching(1)}, twice, []int{1, 1, 1}, 0)
}

func TestRunYardOfDrawnOnes(t *testing.T) {
	d := &draws{state: 243}
	seen := [5]int{}
	for range 1000 {
		y := drawnYard(d)
		ops := drawnYardOps(d, y)
		if d.below(10) == 0 {
			spoilYard(d, &y)
		}
		want, codes, many := runYardOf(y, ops)
		checkYardRun(t, y, ops, want, codes, many)
		for _, code := range codes {
			seen[code]++
		}
	}
	if slices.Min(seen[:]) < 1000 {
		t.Error("few drawn of a code", seen)
	}
}

// A run is its ops, one behind the other.
func TestRunYardIsEachStep(t *testing.T) {
	d := &draws{state: 244}
	for range 500 {
		y := drawnYard(d)
		ops := drawnYardOps(d, y)
		now, all := y, 0
		var codes []int
		for _, op := range ops {
			var many, code int
			now, many, code = impl.DoYard(now, op)
			codes = append(codes, code)
			all += many
		}
		checkYardRun(t, y, ops, now, codes, all)
	}
}

// All short rows of ops on two boxes and two stacks.
func TestAllShortRowsOfYardOps(t *testing.T) {
	all := yardOps{shifting(0, 1), shifting(1, 0)}
	for box := 1; box <= 3; box++ {
		all = append(all, bringing(box, 0), bringing(box, 1), fetching(box))
	}
	for _, y := range []impl.Yard{yard(2, rows{nil, nil}), yard(1, rows{{1}, nil}), yard(2, rows{{1, 2}, {3}})} {
		for _, a := range all {
			for _, b := range all {
				for _, c := range all {
					for _, d := range all {
						ops := yardOps{a, b, c, d}
						want, codes, many := runYardOf(y, ops)
						checkYardRun(t, y, ops, want, codes, many)
					}
				}
			}
		}
	}
}

// walkYard tells each step of many runs: the yard ahead of it, and behind it.
func walkYard(t *testing.T, state uint64, look func(was impl.Yard, op impl.YardOp, now impl.Yard, many, code int)) {
	t.Helper()
	d := &draws{state: state}
	done := [4]int{}
	for range 500 {
		now := drawnYard(d)
		for range 100 {
			op := drawnYardOp(d, now)
			next, many, code := impl.DoYard(now, op)
			if !impl.YardOk(next) || next.High != now.High || len(next.Stacks) != len(now.Stacks) {
				t.Fatal("another yard", now, op, next)
			}
			look(now, op, next, many, code)
			if code == impl.YardDone {
				done[op.Kind]++
			}
			now = next
		}
	}
	if slices.Min(done[1:]) < 1000 {
		t.Error("few were done of a kind", done)
	}
}

// A box is there just if it was, but for the one that comes in or goes out.
func TestBoxesAreNeitherMadeNorLost(t *testing.T) {
	walkYard(t, 245, func(was impl.Yard, op impl.YardOp, now impl.Yard, many, code int) {
		want := inYard(was)
		switch {
		case code != impl.YardDone:
		case op.Kind == impl.YardIn:
			want = slices.Sorted(slices.Values(append(want, op.Box)))
		case op.Kind == impl.YardOut:
			want = slices.DeleteFunc(want, func(box int) bool { return box == op.Box })
		}
		if !slices.Equal(inYard(now), want) {
			t.Fatal(was, op, now, code)
		}
	})
}

func TestRefusedYardOpsChangeNothing(t *testing.T) {
	refused := [5]int{}
	walkYard(t, 246, func(was impl.Yard, op impl.YardOp, now impl.Yard, many, code int) {
		refused[code]++
		if code != impl.YardDone && (!sameYard(was, now) || many != 0) {
			t.Fatal(was, op, now, many, code)
		}
		if code == impl.YardDone && sameYard(was, now) {
			t.Fatal("done and nothing changed", was, op)
		}
	})
	if slices.Min(refused[1:]) < 1000 {
		t.Error("few were refused with a code", refused)
	}
}

// A box that comes in, or is shifted, is found on top of its stack.
func TestWhatComesIsFoundOnTop(t *testing.T) {
	walkYard(t, 247, func(was impl.Yard, op impl.YardOp, now impl.Yard, many, code int) {
		if code != impl.YardDone || op.Kind == impl.YardOut {
			return
		}
		box := op.Box
		if op.Kind == impl.YardShift {
			box = was.Stacks[op.Box][len(was.Stacks[op.Box])-1]
		}
		at, tier, ok := impl.FindBox(now, box)
		if !ok || at != op.Stack || tier != len(was.Stacks[op.Stack]) || many != 0 {
			t.Fatal(was, op, now, at, tier, ok, many)
		}
	})
}

// As many are reshuffled as stood above, and none else moves; it is refused just
// where the others have less room than that.
func TestWhatGoesOutMovesWhatIsAboveIt(t *testing.T) {
	above := map[int]int{}
	walkYard(t, 248, func(was impl.Yard, op impl.YardOp, now impl.Yard, many, code int) {
		own, tier, ok := impl.FindBox(was, op.Box)
		if op.Kind != impl.YardOut || !ok {
			return
		}
		standing := len(was.Stacks[own]) - 1 - tier
		room := (len(was.Stacks)-1)*was.High - (len(inYard(was)) - len(was.Stacks[own]))
		if (code == impl.YardDone) != (standing <= room) || code == impl.YardDone && many != standing {
			t.Fatal(was, op, now, many, code)
		}
		if code != impl.YardDone {
			return
		}
		above[many]++
		for at, stack := range was.Stacks {
			if at == own {
				stack = stack[:tier]
			}
			if at == own && !slices.Equal(now.Stacks[at], stack) || !slices.Equal(now.Stacks[at][:len(stack)], stack) {
				t.Fatal("others were moved", was, op, now)
			}
		}
		if _, _, isThere := impl.FindBox(now, op.Box); isThere {
			t.Fatal("still there", was, op, now)
		}
	})
	if len(above) != 6 || above[5] < 20 {
		t.Error("few of a kind", above)
	}
}

// No reshuffle leaves a stack higher by two than another that could have had it.
func TestReshufflesGoToTheLowest(t *testing.T) {
	walkYard(t, 249, func(was impl.Yard, op impl.YardOp, now impl.Yard, many, code int) {
		own, _, ok := impl.FindBox(was, op.Box)
		if op.Kind != impl.YardOut || !ok || code != impl.YardDone {
			return
		}
		for at, stack := range now.Stacks {
			for other := range now.Stacks {
				grew := len(stack) > len(was.Stacks[at])
				if at != own && other != own && grew && len(now.Stacks[other]) < len(stack)-1 {
					t.Fatal(was, op, now)
				}
			}
		}
	})
}

// A shift there and back leaves the yard as it was.
func TestShiftsThereAndBack(t *testing.T) {
	d := &draws{state: 250}
	for range 2000 {
		y := drawnYard(d)
		for from := range y.Stacks {
			for to := range y.Stacks {
				now, _, code := impl.DoYard(y, shifting(from, to))
				if code != impl.YardDone {
					continue
				}
				checkYard(t, now, shifting(to, from), y, 0, impl.YardDone)
				checkYard(t, now, fetching(y.Stacks[from][len(y.Stacks[from])-1]), yardWithout(y, from), 0, impl.YardDone)
			}
		}
	}
}

// yardWithout has one box less on a stack.
func yardWithout(y impl.Yard, at int) impl.Yard {
	y = cloneYard(y)
	y.Stacks[at] = y.Stacks[at][:len(y.Stacks[at])-1]
	return y
}
