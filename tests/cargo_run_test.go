package tests

import (
	"slices"
	"testing"

	"loop.example/g00059/impl"
)

func checkCargoRun(t *testing.T, list cargoes, ops cargoOps, lean int, want cargoes, codes []int) {
	t.Helper()
	if got, told := impl.CargoRun(list, ops, lean); !slices.Equal(got, want) || !slices.Equal(told, codes) {
		t.Fatal(list, ops, lean, "got", got, told, "not", want, codes)
	}
}

func TestCargoRunByHand(t *testing.T) {
	list := cargoes{cargo(50, 100, 1, 100, 50), cargo(0, 60, -1, 0, 0)}
	ops := cargoOps{
		pouring(0, 1, 50), emptying(0, 1), pouring(1, 0, 60), filling(0, 30), filling(1, 11), venting(0, 7), venting(0, 2),
		{Kind: 9, Many: 1}, inerting(0, 50), venting(0, 5), pouring(1, 0, 50), pouring(1, 0, 40), emptying(0, 70), emptying(0, 1),
	}
	codes := []int{0, 2, 2, 0, 3, 0, 4, 1, 0, 0, 5, 0, 0, 2}
	checkCargoRun(t, list, ops[:1], 70, cargoes{cargo(0, 100, 1, 50, 25), cargo(50, 60, -1, 0, 0)}, codes[:1])
	checkCargoRun(t, list, ops[:7], 70, cargoes{cargo(30, 100, 1, 46, 93), cargo(50, 60, -1, 0, 0)}, codes[:7])
	checkCargoRun(t, list, ops[:11], 70, cargoes{cargo(30, 100, 1, 21, 93), cargo(50, 60, -1, 0, 0)}, codes[:11])
	checkCargoRun(t, list, ops, 70, cargoes{cargo(0, 100, 1, 6, 27), cargo(10, 60, -1, 0, 0)}, codes)
}

// An op works on what the ones ahead left, also behind one that is refused.
func TestCargoRunWithOpsThatAreRefused(t *testing.T) {
	list := cargoes{inert(5, 9), inert(0, 4)}
	done := cargoOps{pouring(0, 1, 3), emptying(1, 1), filling(0, 7)}
	want := cargoes{inert(9, 9), inert(2, 4)}
	checkCargoRun(t, list, done, 0, want, []int{0, 0, 0})
	for refused, code := range map[impl.CargoOp]int{
		{}: impl.CargoBad, pouring(0, 0, 1): impl.CargoBad, filling(2, 1): impl.CargoBad, emptying(1, 4): impl.CargoDry, filling(0, 8): impl.CargoOver,
	} {
		for at := range 4 {
			checkCargoRun(t, list, slices.Insert(slices.Clone(done), at, refused), 0, want, slices.Insert([]int{0, 0, 0}, at, code))
		}
	}
}

func TestCargoRunAtItsLimit(t *testing.T) {
	list := cargoes{inert(0, 100000)}
	hundred := slices.Repeat(cargoOps{filling(0, 100000), emptying(0, 100000)}, 50)
	checkCargoRun(t, list, nil, 0, list, nil)
	checkCargoRun(t, list, cargoOps{}, 0, list, nil)
	checkCargoRun(t, list, hundred, 0, list, make([]int, 100))
	checkCargoRun(t, list, hundred[:99], 0, cargoes{inert(100000, 100000)}, make([]int, 99))
	checkCargoRun(t, list, append(slices.Clone(hundred), filling(0, 1)), 0, list, nil)
	checkCargoRun(t, list, append(cargoOps{filling(0, 1)}, hundred...), 0, list, nil)
	checkCargoRun(t, list, make(cargoOps, 3000), 0, list, nil)
	checkCargoRun(t, list, make(cargoOps, 101), -1, list, nil)
	checkCargoRun(t, list, nil, -1, list, nil)
	checkCargoRun(t, nil, nil, 0, nil, nil)
	checkCargoRun(t, nil, hundred[:2], 0, nil, []int{1, 1})
	checkCargoRun(t, nil, make(cargoOps, 101), 0, nil, nil)
}

func TestCargoRunOfManyTanks(t *testing.T) {
	d := &draws{state: 161}
	seen := [6]int{}
	for range 1000 {
		list := drawnCargoes(d)
		ops, lean := drawnCargoOps(d, list), drawnLean(d, list)
		want, codes := cargoRunOf(list, ops, lean)
		checkCargoRun(t, list, ops, lean, want, codes)
		for _, code := range codes {
			seen[code]++
		}
	}
	for code, times := range seen {
		if times < 500 {
			t.Error("few drawn of code", code, seen)
		}
	}
}

// comesIn is by how much an op that is done changes all cargo.
func comesIn(op impl.CargoOp) int {
	switch op.Kind {
	case impl.CargoFill:
		return op.Many
	case impl.CargoEmpty:
		return -op.Many
	}
	return 0
}

func TestCargoIsNeitherMadeNorLost(t *testing.T) {
	d := &draws{state: 162}
	done := [6]int{}
	for range 1000 {
		list := drawnCargoes(d)
		ops, lean := drawnCargoOps(d, list), drawnLean(d, list)
		now, codes := impl.CargoRun(list, ops, lean)
		sum := cargoIn(list)
		for i, code := range codes {
			if code == impl.CargoDone {
				sum += comesIn(ops[i])
				done[ops[i].Kind]++
			}
		}
		if cargoIn(now) != sum {
			t.Fatal("made or lost", list, ops, lean, now)
		}
		for i, c := range now {
			if c.Most != list[i].Most || c.Side != list[i].Side {
				t.Fatal("another tank", list, ops, lean, now)
			}
		}
		if len(now) != len(list) || !impl.TanksOk(now) {
			t.Fatal("no tanks any more", list, ops, lean, now)
		}
	}
	if slices.Min(done[1:]) < 500 {
		t.Error("few were done of a kind", done)
	}
}

// A step that is done changes no tank but those that it names, of which none
// may burn, and leans no further than it may; one that is not changes nothing.
func TestStepsThatAreDone(t *testing.T) {
	d := &draws{state: 163}
	done := [6]int{}
	for range 1000 {
		now := drawnCargoes(d)
		lean := drawnLean(d, now)
		for _, op := range drawnCargoOps(d, now) {
			next, code := impl.CargoStep(now, op, lean)
			if code != impl.CargoDone {
				if !slices.Equal(next, now) {
					t.Fatal("refused, but not as it was", now, op, lean, next)
				}
				continue
			}
			done[op.Kind]++
			for i, c := range next {
				isNamed := slices.Contains(namesOf(op), i)
				if isNamed && mayBurnOf(c) || !isNamed && c != now[i] {
					t.Fatal(now, op, lean, next)
				}
			}
			if is := apart(leanOf(next), 0); is > lean && is > apart(leanOf(now), 0) {
				t.Fatal("leans", now, op, lean, next)
			}
			now = next
		}
	}
	if slices.Min(done[1:]) < 300 {
		t.Error("few were done of a kind", done)
	}
}

// What goes to a tank and comes back is as much as there was, with no more gas
// and air above it.
func TestMovesThereAndBack(t *testing.T) {
	d := &draws{state: 164}
	there := 0
	for range 20000 {
		list := drawnCargoes(d)
		op := drawnCargoOp(d, list)
		op.Kind = impl.CargoMove
		behind, code := impl.CargoStep(list, op, 100000000)
		if code != impl.CargoDone {
			continue
		}
		back, code := impl.CargoStep(behind, pouring(op.B, op.A, op.Many), 100000000)
		if code != impl.CargoDone && code != impl.CargoBurns {
			t.Fatal(list, op, behind, code)
		}
		if code != impl.CargoDone {
			continue
		}
		there++
		for i, c := range back {
			if c.Has != list[i].Has || c.Gas > list[i].Gas || c.Air > list[i].Air {
				t.Fatal(list, op, behind, back)
			}
		}
	}
	if there < 500 {
		t.Error("few came back", there)
	}
}

// One blow of nothing but inert gas is done in any tank, and leaves no gas that
// air could burn with.
func TestWhatIsInertedNeverBurns(t *testing.T) {
	d := &draws{state: 165}
	for range 1000 {
		list := drawnCargoes(d)
		at := d.below(len(list))
		now, code := impl.CargoStep(list, inerting(at, 100), 0)
		if code != impl.CargoDone || now[at].Gas != 0 || now[at].Air != 0 {
			t.Fatal(list, at, now, code)
		}
		ops := make(cargoOps, 100)
		for i := range ops {
			ops[i] = []impl.CargoOp{inerting(at, d.between(1, 100)), venting(at, d.between(1, 100)), filling(at, d.between(1, 100)), emptying(at, d.between(1, 100))}[d.below(4)]
		}
		if _, codes := impl.CargoRun(now, ops, 100000000); slices.Contains(codes, impl.CargoBurns) || slices.Contains(codes, impl.CargoLeans) {
			t.Fatal(now, ops, codes)
		}
	}
}

// Each small blow leaves less of both, until there is none.
func TestSmallBlowsComeToNothing(t *testing.T) {
	for _, c := range []impl.CargoTank{above(1000, 0), above(0, 1000), above(890, 110), above(19, 981)} {
		now := cargoes{c}
		for range 20 {
			next, codes := impl.CargoRun(now, slices.Repeat(cargoOps{inerting(0, 1)}, 100), 0)
			if slices.Max(codes) != impl.CargoDone || next[0].Gas > now[0].Gas || next[0].Air > now[0].Air {
				t.Fatal(now, next, codes)
			}
			now = next
		}
		if now[0] != above(0, 0) {
			t.Error(c, now)
		}
	}
}
