package tests

import (
	"fmt"
	"math"
	"slices"
	"testing"

	"loop.example/g00059/impl"
)

// Promise 24: each function of hoists answers, and writes into nothing that it is
// given.

func TestSignalsOfHoistsThatAreNotSo(t *testing.T) {
	for _, h := range wrongHoists() {
		for kind := -1; kind <= 8; kind++ {
			for _, many := range []int{-1, 0, 7, 1000000, 1000001} {
				checkNoSignal(t, h, impl.Signal{Kind: kind, Many: many})
			}
		}
		for _, s := range wrongSignals() {
			checkNoSignal(t, h, s)
		}
	}
}

// A hoist that is wrong is not mended by a signal that would put it right.
func TestSignalsMendNoHoist(t *testing.T) {
	heavy := withLoad(hoistAt(0, 15), 1000001)
	checkNoSignal(t, heavy, loading(5))
	checkSignalRun(t, heavy, signals{loading(5), given(1)}, heavy, toldOf("--"))
	odd := withReset(hoistAt(3, 15), 2)
	checkNoSignal(t, odd, given(4))
	checkSignalRun(t, odd, givenAll(4, 5, 3), odd, toldOf("---"))
	high, low := hoistAt(2, 21), hoistAt(1, 9)
	checkNoSignal(t, high, given(7))
	checkNoSignal(t, low, given(7))
	lost := hoistAt(4, 15)
	checkNoSignal(t, lost, given(3))
	checkNoSignal(t, lost, given(4))
}

func greatNumbers() []int {
	return []int{math.MinInt, math.MinInt + 1, -1000001, -1000000, -1001, -1000, -2, -1, 0, 1, 2, 3, 7, 1000, 1002, 10000, 10001, 1000000, 1000001, math.MaxInt - 1, math.MaxInt}
}

func TestSwaysOfGreatNumbers(t *testing.T) {
	for _, n := range greatNumbers() {
		for _, m := range greatNumbers() {
			for _, k := range greatNumbers() {
				s := sway(n, m, k)
				if impl.SwayOk(s) != swayOkOf(s) {
					t.Error(s)
				}
				for _, push := range []int{0, 1, -1000, n, m} {
					if want, ok := swingOf(s, push); ok {
						checkSwing(t, s, push, want)
					} else {
						checkNoSwing(t, s, push)
					}
				}
				for _, pushes := range [][]int{nil, {n, m}, {0, k, 0}, {1, -1, n}} {
					if want, ok := beatsOf(s, pushes); ok {
						checkBeats(t, s, pushes, want)
					} else {
						checkNoBeats(t, s, pushes)
					}
				}
			}
		}
	}
}

func TestPushesOfGreatNumbers(t *testing.T) {
	for _, n := range greatNumbers() {
		for _, m := range greatNumbers() {
			for _, pushes := range [][]int{{n}, {n, m}, {0, n, m}, {m, 2, 4, n}} {
				if want, ok := shapedOf(pushes); ok {
					checkShaped(t, pushes, want...)
				} else {
					checkNotShaped(t, pushes)
				}
			}
			if want, ok := planOf(n, m); ok {
				checkPlan(t, n, m, want...)
			} else {
				checkNoPlan(t, n, m)
			}
		}
	}
}

func TestHoistsOfGreatNumbers(t *testing.T) {
	for _, n := range greatNumbers() {
		for _, m := range greatNumbers() {
			for _, h := range []impl.Hoist{{State: n, Load: m}, {Height: n, Highest: m}, {Lowest: n, Height: m, Highest: m}, {Lowest: n, Height: n, Highest: m}, {Load: n, Limit: m}, {State: 1, Load: n, Limit: m, Highest: 9}, {State: 3, Reset: n, Limit: m}, {State: 2, Height: n, Highest: n, Load: m}} {
				checkHoistOk(t, h, hoistOkOf(h))
				for _, s := range []impl.Signal{{}, given(1), given(2), given(3), given(4), given(5), given(7), loading(n), loading(m), {Kind: n, Many: m}, {Kind: m, Many: n}} {
					checkAsTold(t, h, s)
					checkRunAsTold(t, h, signals{s, given(7), s})
				}
			}
		}
	}
}

// Long lists are refused without being gone through for long.
func TestHoistsOfLongLists(t *testing.T) {
	h := hoistAt(1, 15)
	checkNoBeats(t, hanging(0), make([]int, 10000000))
	checkNotShaped(t, make([]int, 10000000))
	checkSignalRun(t, h, make(signals, 10000000), h, nil)
}

// winch is all that the functions of the chapter take.
type winch struct {
	s      impl.Sway
	pushes []int
	way    int
	most   int
	h      impl.Hoist
	list   signals
}

func winchesOfAllKinds() []winch {
	d := &draws{state: 330}
	all := []winch{{}, {hanging(0), make([]int, 38), 10000, 264, hoistAt(1, 15), make(signals, 200)}, {hanging(0), make([]int, 41), 10000, 262, hoistAt(1, 15), make(signals, 201)}}
	for range 300 {
		h := drawnHoist(d)
		pushes := drawnEven(d)
		if d.below(4) == 0 {
			pushes = drawnPushes(d, 42)
		}
		all = append(all, winch{drawnSway(d), pushes, d.between(-5000, 5000) * 2, d.between(1, 500) * 2, h, drawnSignals(d, h)})
	}
	for _, s := range wrongSways() {
		all = append(all, winch{s, []int{2, 4}, 8, 2, hoistAt(0, 15), givenAll(1, 7)}, winch{s: s})
	}
	for _, h := range wrongHoists() {
		all = append(all, winch{hanging(0), []int{2, 3}, 8, 3, h, givenAll(4, 5, 3)})
	}
	return all
}

// roomyWinch has right things behind each list, that would make a difference.
func roomyWinch(w winch) winch {
	w.pushes, w.list = spare(w.pushes, 2), spare(w.list, given(4))
	return w
}

func clippedWinch(w winch) winch {
	w.pushes, w.list = slices.Clip(slices.Clone(w.pushes)), slices.Clip(slices.Clone(w.list))
	return w
}

// wholeWinch tells both lists, and what lies behind them.
func wholeWinch(w winch) string {
	return fmt.Sprint(w.pushes[:cap(w.pushes)], len(w.pushes), w.list[:cap(w.list)], len(w.list))
}

// allOfWinch are the answers of all functions, as a text.
func allOfWinch(w winch) string {
	beats, isSway := impl.Beats(w.s, w.pushes)
	shaped, isShaped := impl.Shaped(w.pushes)
	plan, isPlan := impl.Plan(w.way, w.most)
	now, told := impl.RunSignals(w.h, w.list)
	all := fmt.Sprint(impl.SwayOk(w.s), impl.HoistOk(w.h), beats, isSway, shaped, isShaped, plan, isPlan, now, told)
	for _, push := range w.pushes {
		s, ok := impl.Swing1(w.s, push)
		all += fmt.Sprint(s, ok)
	}
	for _, s := range w.list {
		h, ok := impl.DoSignal(w.h, s)
		all += fmt.Sprint(h, ok)
	}
	return all
}

func TestHoistArgumentsAreNotChanged(t *testing.T) {
	for _, plain := range winchesOfAllKinds() {
		w := roomyWinch(plain)
		before := wholeWinch(w)
		got := allOfWinch(w)
		if wholeWinch(w) != before {
			t.Fatal("written into", plain)
		}
		if got != allOfWinch(clippedWinch(plain)) {
			t.Fatal("what lies behind a list is looked at", plain)
		}
	}
}

// checkWinchNew writes over an answer: neither what was handed in nor another
// answer may change by it.
func checkWinchNew[T comparable](t *testing.T, name string, plain winch, other T, ask func(winch) []T) {
	t.Helper()
	w := roomyWinch(plain)
	before := wholeWinch(w)
	earlier, got := ask(w), ask(w)
	want := slices.Clone(got)
	overwriteAll(got, other)
	if wholeWinch(w) != before {
		t.Fatal(name, "shares memory with what was handed in", plain)
	}
	if !slices.Equal(earlier, want) {
		t.Fatal(name, "shares memory with another answer", plain)
	}
	overwrite(w.pushes)
	overwriteAll(w.list, given(-99))
	if !slices.Equal(earlier, want) {
		t.Fatal(name, "keeps the memory of what was handed in", plain)
	}
	if !slices.Equal(ask(roomyWinch(plain)), want) {
		t.Fatal(name, "hangs on an earlier answer", plain)
	}
}

func TestHoistAnswersAreNewMemory(t *testing.T) {
	for _, plain := range winchesOfAllKinds() {
		checkWinchNew(t, "Shaped", plain, -99, func(w winch) []int {
			return first(impl.Shaped(w.pushes))
		})
		checkWinchNew(t, "Plan", plain, -99, func(w winch) []int {
			return first(impl.Plan(w.way, w.most))
		})
		for _, other := range []bool{false, true} {
			checkWinchNew(t, "RunSignals", plain, other, func(w winch) []bool {
				_, told := impl.RunSignals(w.h, w.list)
				return told
			})
		}
	}
}

func TestHoistsAnswerAgainAndTogether(t *testing.T) {
	all := winchesOfAllKinds()
	ask := func() string {
		told := ""
		for _, w := range all[:100] {
			told += fmt.Sprintln(allOfWinch(w))
		}
		return told
	}
	want := ask()
	told := make(chan string)
	for range 8 {
		go func() { told <- ask() }()
	}
	for range 8 {
		if got := <-told; got != want {
			t.Error("answers hang on earlier calls")
		}
	}
}
