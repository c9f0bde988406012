package tests

import (
	"fmt"
	"math"
	"slices"
	"testing"

	"loop.example/g00059/impl"
)

// Promise 24: each function of liquid cargo answers, and writes into nothing
// that it is given.

func TestCargoTanksThatAreNotSo(t *testing.T) {
	ops := cargoOps{filling(0, 1), emptying(0, 1), pouring(0, 1, 1), inerting(0, 100), venting(0, 1), filling(99, 1), {}}
	for name, list := range wrongCargoes() {
		for _, op := range ops {
			for _, lean := range []int{-1, 0, 100000000, 100000001} {
				if got, code := impl.CargoStep(list, op, lean); !slices.Equal(got, list) || code != impl.CargoBad {
					t.Error(name, op, lean, got, code)
				}
			}
		}
		checkCargoRun(t, list, ops, 100, list, []int{1, 1, 1, 1, 1, 1, 1})
		checkCargoRun(t, list, nil, 100, list, nil)
		checkCargoRun(t, list, make(cargoOps, 101), 100, list, nil)
	}
}

func TestCargoOpsThatAreNotSo(t *testing.T) {
	list := cargoes{inert(4, 9), inert(4, 9), inert(4, 9)}
	for name, op := range wrongCargoOps() {
		if got, code := impl.CargoStep(list, op, 100); !slices.Equal(got, list) || code != impl.CargoBad {
			t.Error(name, got, code)
		}
		if got, code := impl.CargoStep(nil, op, 100); len(got) != 0 || code != impl.CargoBad {
			t.Error(name, "without a tank", got, code)
		}
		ops := cargoOps{filling(0, 1), op, pouring(0, 2, 2)}
		checkCargoRun(t, list, ops, 100, cargoes{inert(3, 9), inert(4, 9), inert(6, 9)}, []int{0, 1, 0})
	}
}

func TestCargoLeansThatAreNotSo(t *testing.T) {
	list := cargoes{cargo(4, 9, 5, 0, 0), inert(4, 9)}
	ops := cargoOps{filling(0, 1), emptying(0, 1), pouring(0, 1, 1), inerting(0, 100), venting(0, 1)}
	for _, lean := range []int{-1, -2, 100000001, math.MinInt, math.MaxInt} {
		for _, op := range ops {
			checkCargoNot(t, list, op, lean, impl.CargoBad)
		}
		checkCargoRun(t, list, ops, lean, list, []int{1, 1, 1, 1, 1})
		checkCargoRun(t, list, nil, lean, list, nil)
	}
}

func TestUllagesThatAreNotSo(t *testing.T) {
	for name, table := range wrongUllages() {
		for _, has := range []int{-1, 0, 1, 50, 100, 101, 200, 2900, 3000, math.MinInt, math.MaxInt} {
			if got, ok := impl.Ullage(table, has); got != 0 || ok {
				t.Error(name, has, got, ok)
			}
		}
	}
}

func TestCargoOfGreatNumbers(t *testing.T) {
	numbers := []int{math.MinInt, math.MinInt + 1, -1, 0, 1, 100, math.MaxInt - 1, math.MaxInt}
	list := cargoes{cargo(50, 100, 1, 100, 50), cargo(10, 60, -1, 0, 0)}
	for _, n := range numbers {
		for _, m := range numbers {
			for kind := range 7 {
				op := impl.CargoOp{Kind: kind, A: n, B: m, Many: 1}
				want, code := cargoStepOf(list, op, 100)
				checkCargo(t, list, op, 100, want, code)
				op = impl.CargoOp{Kind: kind, A: 0, B: 1, Many: n}
				want, code = cargoStepOf(list, op, m)
				checkCargo(t, list, op, m, want, code)
			}
			for _, wrong := range []impl.CargoTank{cargo(n, m, 0, 0, 0), cargo(m, m, n, 0, 0), cargo(0, 0, 0, n, m), cargo(n, n, n, m, m)} {
				if impl.TanksOk(cargoes{wrong}) != cargoOk(wrong) {
					t.Error(wrong)
				}
				want, code := cargoStepOf(cargoes{wrong}, inerting(0, 7), 100)
				checkCargo(t, cargoes{wrong}, inerting(0, 7), 100, want, code)
			}
			for _, table := range [][]int{{n, m}, {m, n, m}, {100000, n, m}} {
				want, ok := ullageOf(table, 60)
				checkUllage(t, table, 60, want, ok)
			}
			want, ok := surveyOf(n, m, n, m)
			checkSurvey(t, n, m, n, m, want, ok)
		}
	}
}

// tanker is all that the functions of the chapter take, drafts aside.
type tanker struct {
	list  cargoes
	ops   cargoOps
	table []int
	lean  int
}

func tankersOfAllKinds() []tanker {
	d := &draws{state: 169}
	all := []tanker{{}, {list: make(cargoes, 12), ops: make(cargoOps, 100), table: downTo0(30)}, {list: make(cargoes, 13), ops: make(cargoOps, 101), table: downTo0(31)}}
	for range 200 {
		list := drawnCargoes(d)
		all = append(all, tanker{list, drawnCargoOps(d, list), drawnUllages(d), drawnLean(d, list)})
	}
	for _, list := range wrongCargoes() {
		all = append(all, tanker{list: list, ops: cargoOps{filling(0, 1), inerting(0, 1)}})
	}
	for _, table := range wrongUllages() {
		all = append(all, tanker{list: cargoes{inert(5, 9)}, ops: cargoOps{filling(0, 1)}, table: table, lean: -1})
	}
	return all
}

// roomyTanker has right things behind each list, that would make a difference.
func roomyTanker(k tanker) tanker {
	return tanker{spare(k.list, cargo(5, 9, 50, 300, 300)), spare(k.ops, filling(0, 1)), spare(k.table, 0), k.lean}
}

func clippedTanker(k tanker) tanker {
	return tanker{slices.Clip(slices.Clone(k.list)), slices.Clip(slices.Clone(k.ops)), slices.Clip(slices.Clone(k.table)), k.lean}
}

func wholeTanker(k tanker) string {
	return fmt.Sprint(k.list[:cap(k.list)], k.ops[:cap(k.ops)], k.table[:cap(k.table)])
}

func overwriteTanker(k tanker) {
	for i := range k.list[:cap(k.list)] {
		k.list[:cap(k.list)][i] = cargo(-99, -99, -99, -99, -99)
	}
	clear(k.ops[:cap(k.ops)])
	overwrite(k.table)
}

// opsAt are ops for each tank of the list and the ones just beyond it.
func opsAt(k tanker) cargoOps {
	ops := slices.Clone(k.ops[:min(len(k.ops), 5)])
	for _, at := range []int{0, len(k.list) - 1, len(k.list)} {
		ops = append(ops, filling(at, 1), emptying(at, 1), inerting(at, 9), venting(at, 9), pouring(at, 0, 1), pouring(0, at, 1))
	}
	return ops
}

// allOfTanker are the answers of all functions, as texts.
func allOfTanker(k tanker) []string {
	all := []string{fmt.Sprint(impl.TanksOk(k.list))}
	for _, op := range opsAt(k) {
		now, code := impl.CargoStep(k.list, op, k.lean)
		all = append(all, fmt.Sprint(now, code))
	}
	now, codes := impl.CargoRun(k.list, k.ops, k.lean)
	last := 100 * (len(k.table) - 1)
	for _, has := range []int{0, 33, last - 1, last, last + 1, last + 50, last + 100} {
		ullage, ok := impl.Ullage(k.table, has)
		all = append(all, fmt.Sprint(ullage, ok))
	}
	return append(all, fmt.Sprint(now, codes))
}

func TestCargoArgumentsAreNotChanged(t *testing.T) {
	for _, plain := range tankersOfAllKinds() {
		k := roomyTanker(plain)
		before := wholeTanker(k)
		got := allOfTanker(k)
		if wholeTanker(k) != before {
			t.Fatal("written into", plain)
		}
		if !slices.Equal(got, allOfTanker(clippedTanker(plain))) {
			t.Fatal("what lies behind a list is looked at", plain)
		}
	}
}

// checkTankerNew writes over an answer: neither what was handed in nor another
// answer may change by it.
func checkTankerNew[T comparable](t *testing.T, name string, plain tanker, other T, ask func(tanker) []T) {
	t.Helper()
	k := roomyTanker(plain)
	before := wholeTanker(k)
	earlier, got := ask(k), ask(k)
	want := slices.Clone(got)
	for i := range got[:cap(got)] {
		got[:cap(got)][i] = other
	}
	if wholeTanker(k) != before {
		t.Fatal(name, "shares memory with what was handed in", plain)
	}
	if !slices.Equal(earlier, want) || !slices.Equal(ask(k), want) {
		t.Fatal(name, "shares memory with another answer", plain)
	}
	overwriteTanker(k)
	if !slices.Equal(earlier, want) {
		t.Fatal(name, "keeps the memory of what was handed in", plain)
	}
}

func TestCargoAnswersAreNewMemory(t *testing.T) {
	other := cargo(-7, -7, -7, -7, -7)
	for _, plain := range tankersOfAllKinds() {
		for _, op := range opsAt(plain) {
			checkTankerNew(t, "CargoStep", plain, other, func(k tanker) cargoes {
				now, _ := impl.CargoStep(k.list, op, k.lean)
				return now
			})
		}
		for _, count := range []int{0, 1, len(plain.ops)} {
			count = min(count, len(plain.ops))
			checkTankerNew(t, "CargoRun", plain, other, func(k tanker) cargoes {
				now, _ := impl.CargoRun(k.list, k.ops[:count], k.lean)
				return now
			})
			checkTankerNew(t, "CargoRun's codes", plain, -7, func(k tanker) []int {
				_, codes := impl.CargoRun(k.list, k.ops[:count], k.lean)
				return codes
			})
		}
	}
}

func TestCargoAnswersAgainAndTogether(t *testing.T) {
	tankers := tankersOfAllKinds()[:100]
	ask := func() string {
		told := ""
		for _, k := range tankers {
			told += fmt.Sprintln(allOfTanker(k), k.lean)
		}
		return told
	}
	want := ask()
	told := make(chan string)
	for range 8 {
		go func() { told <- ask() }()
	}
	for range 8 {
		if got := <-told; got != want {
			t.Error("answers hang on earlier calls")
		}
	}
}
