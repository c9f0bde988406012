package tests

import (
	"slices"
	"testing"

	"loop.example/g00059/impl"
)

// Promise 20, of signals one behind the other: behind a stop nothing moves until
// it was reset and let go.

func checkSignalRun(t *testing.T, h impl.Hoist, list signals, want impl.Hoist, told []bool) {
	t.Helper()
	if got, now := impl.RunSignals(h, list); got != want || !slices.Equal(now, told) {
		t.Error(h, list, "got", got, now, "not", want, told)
	}
}

// checkRunAsTold holds a run against the chapter's words.
func checkRunAsTold(t *testing.T, h impl.Hoist, list signals) {
	t.Helper()
	want, told := runSignalsOf(h, list)
	checkSignalRun(t, h, list, want, told)
}

// toldOf reads + as done and - as refused.
func toldOf(marks string) []bool {
	var told []bool
	for _, mark := range marks {
		told = append(told, mark == '+')
	}
	return told
}

func TestRunSignalsByHand(t *testing.T) {
	h := impl.Hoist{Highest: 1, Limit: 5}
	list := signals{given(1), given(2), given(7), loading(6), given(1), given(4), given(3)}
	checkSignalRun(t, h, list, impl.Hoist{State: 3, Load: 6, Height: 1, Highest: 1, Limit: 5}, toldOf("+-++-+-"))
	checkSignalRun(t, h, list[:1], impl.Hoist{State: 1, Highest: 1, Limit: 5}, toldOf("+"))
	checkSignalRun(t, h, list[:3], impl.Hoist{Height: 1, Highest: 1, Limit: 5}, toldOf("+-+"))

	checkSignalRun(t, hoistAt(0, 18), givenAll(1, 7, 7, 7, 1, 2, 7, 3, 1), hoistAt(1, 19), toldOf("++++-++++"))
	checkSignalRun(t, hoistAt(0, 12), givenAll(2, 7, 7, 7, 2, 1, 7, 3, 2), hoistAt(2, 11), toldOf("++++-++++"))
	checkSignalRun(t, hoistAt(1, 15), givenAll(7, 4, 7, 1, 3, 5, 5, 1, 3, 3, 7, 1, 7), hoistAt(1, 17), toldOf("++---+--+++++"))
	checkSignalRun(t, hoistAt(1, 15), signals{given(7), loading(501), given(7), given(1), loading(500), given(7), given(1), given(7)}, withLoad(hoistAt(1, 17), 500), toldOf("+++-++++"))
}

// A stop in the midst of a reset takes the reset back.
func TestStopsAgainstAReset(t *testing.T) {
	checkSignalRun(t, hoistAt(1, 15), givenAll(4, 5, 4, 3, 5, 3, 1, 7), hoistAt(1, 16), toldOf("+++-++++"))
	checkSignalRun(t, hoistAt(1, 15), givenAll(4, 4, 4, 5, 3), hoistAt(0, 15), toldOf("+++++"))
	checkSignalRun(t, hoistAt(2, 15), givenAll(4, 5, 5, 5, 7, 3, 3, 5), hoistAt(0, 15), toldOf("++---++-"))
	checkSignalRun(t, withReset(hoistAt(3, 15), 1), givenAll(4, 3, 1, 2, 7), hoistAt(3, 15), toldOf("+----"))
	checkSignalRun(t, withReset(hoistAt(3, 15), 1), givenAll(3, 3, 2, 7), hoistAt(2, 14), toldOf("++++"))
}

// From each State, the first signal is already taken in it.
func TestRunSignalsFromEachState(t *testing.T) {
	for state := range 4 {
		for reset := range 2 {
			h := withReset(hoistAt(state, 15), reset)
			checkSignalRun(t, h, nil, h, nil)
			checkSignalRun(t, h, signals{}, h, nil)
			for kind := range 9 {
				checkRunAsTold(t, h, givenAll(kind))
				for next := range 9 {
					checkRunAsTold(t, h, givenAll(kind, next))
				}
			}
		}
	}
}

func TestRunSignalsAtTheirLimit(t *testing.T) {
	h := impl.Hoist{Height: 5, Highest: 10000}
	most := append(givenAll(1), slices.Repeat(givenAll(7), 199)...)
	yes := slices.Repeat([]bool{true}, 200)
	up := withState(h, impl.HoistUp)
	checkSignalRun(t, h, nil, h, nil)
	checkSignalRun(t, h, most[:1], up, yes[:1])
	checkSignalRun(t, h, most[:199], withHeight(up, 203), yes[:199])
	checkSignalRun(t, h, most, withHeight(up, 204), yes)
	checkSignalRun(t, h, append(slices.Clone(most), given(7)), h, nil)
	checkSignalRun(t, h, append(givenAll(4), most...), h, nil)
	checkSignalRun(t, h, make(signals, 201), h, nil)
	checkSignalRun(t, h, make(signals, 5000), h, nil)
	checkSignalRun(t, h, make(signals, 200), h, make([]bool, 200))
}

func TestRunSignalsOfHoistsThatAreNotSo(t *testing.T) {
	for _, h := range wrongHoists() {
		checkSignalRun(t, h, nil, h, nil)
		checkSignalRun(t, h, givenAll(4), h, make([]bool, 1))
		checkSignalRun(t, h, signals{given(4), given(5), given(3), loading(3), given(1), given(7), given(2)}, h, make([]bool, 7))
		checkSignalRun(t, h, slices.Repeat(givenAll(4), 200), h, make([]bool, 200))
		checkSignalRun(t, h, slices.Repeat(givenAll(4), 201), h, nil)
	}
}

// A signal that is refused leaves nothing behind, wherever it stands.
func TestRunSignalsWithSomeThatAreRefused(t *testing.T) {
	done := signals{given(1), given(7), loading(500), given(7), given(4), given(5), given(3), given(2), given(7)}
	want, told := runSignalsOf(hoistAt(0, 15), done)
	if want != withLoad(hoistAt(2, 16), 500) || slices.Contains(told, false) {
		t.Fatal(want, told)
	}
	for _, refused := range append(wrongSignals(), given(5)) {
		for at := range len(done) + 1 {
			if refused.Kind == 5 && at == 5 {
				continue
			}
			checkSignalRun(t, hoistAt(0, 15), slices.Insert(slices.Clone(done), at, refused), want, slices.Insert(slices.Clone(told), at, false))
		}
	}
}

func TestRunSignalsOfDrawnOnes(t *testing.T) {
	d := &draws{state: 320}
	count := map[bool]int{}
	for range 3000 {
		h := drawnHoist(d)
		list := drawnSignals(d, h)
		if d.below(10) == 0 {
			spoilHoist(d, &h)
		}
		checkRunAsTold(t, h, list)
		_, told := runSignalsOf(h, list)
		for _, isDone := range told {
			count[isDone]++
		}
	}
	if min(count[true], count[false]) < 10000 {
		t.Error("few drawn of a kind", count)
	}
}

// A run is its signals, one behind the other.
func TestRunSignalsIsEachSignal(t *testing.T) {
	d := &draws{state: 321}
	for range 1000 {
		h := drawnHoist(d)
		list := drawnSignals(d, h)
		now := h
		var told []bool
		for _, s := range list {
			var isDone bool
			now, isDone = impl.DoSignal(now, s)
			told = append(told, isDone)
		}
		checkSignalRun(t, h, list, now, told)
	}
}

// All short rows of signals on a small hoist.
func TestAllShortRowsOfSignals(t *testing.T) {
	all := signals{given(1), given(2), given(3), given(4), given(5), given(7), loading(1), loading(2)}
	for _, h := range []impl.Hoist{{Highest: 1, Limit: 1}, {State: 1, Highest: 2, Limit: 1}, {State: 2, Height: 2, Highest: 2, Load: 2, Limit: 1}, {State: 3, Height: 1, Highest: 2, Limit: 1}} {
		for n := range len(all) * len(all) * len(all) * len(all) * len(all) {
			list := make(signals, 5)
			for i := range list {
				list[i] = all[n%len(all)]
				n /= len(all)
			}
			checkRunAsTold(t, h, list)
		}
	}
}

// Behind a stop the height stays, whatever is given, until there was a reset and,
// with no other stop between, the letting go.
func TestBehindAStopNothingMoves(t *testing.T) {
	d := &draws{state: 322}
	moved, freed := 0, 0
	for range 3000 {
		h := withState(drawnHoist(d), d.below(3))
		h, _ = impl.DoSignal(h, given(impl.SigStop))
		stopped, isReset := h.Height, false
		for range 60 {
			s := drawnSignal(d, h)
			now, isDone := impl.DoSignal(h, s)
			isFreed := isReset && s.Kind == impl.SigHold
			if isFreed != (now.State != impl.HoistStop) || now.Height != stopped {
				t.Fatal(h, s, now)
			}
			if isDone && (s.Kind == impl.SigStop || s.Kind == impl.SigReset) {
				isReset = s.Kind == impl.SigReset
			}
			if h = now; isFreed {
				freed++
				break
			}
		}
		list := givenAll(impl.SigDown, impl.SigTick)
		now, _ := impl.RunSignals(h, list)
		if now.Height != stopped {
			moved++
		}
		if isStopped := h.State == impl.HoistStop; isStopped && now != h {
			t.Fatal("moved", h, now)
		}
	}
	if freed < 1000 || moved < 300 {
		t.Error("few that are freed or move then:", freed, moved)
	}
}

// Without both, in this order, nothing frees it: not the one by itself, nor the
// other way round, nor with a stop between.
func TestWhatDoesNotFreeAStop(t *testing.T) {
	moves := signals{given(1), given(7), given(2), given(7), loading(0), given(1), given(7)}
	for _, list := range []signals{nil, givenAll(5), givenAll(3), givenAll(3, 5), givenAll(5, 4, 3), givenAll(3, 3, 5, 5), givenAll(5, 4, 3, 4), givenAll(5, 3, 4), givenAll(5, 3, 4, 3), givenAll(5, 3, 4, 5)} {
		now, _ := impl.RunSignals(hoistAt(1, 15), slices.Concat(givenAll(4), list, moves))
		if now.State != impl.HoistStop || now.Height != 15 {
			t.Error(list, "frees it:", now)
		}
	}
	for _, list := range []signals{givenAll(5, 3), givenAll(3, 5, 3), givenAll(5, 1, 2, 7, 3), givenAll(5, 4, 5, 3), givenAll(5, 5, 3, 3)} {
		now, _ := impl.RunSignals(hoistAt(1, 15), slices.Concat(givenAll(4), list, givenAll(1, 7)))
		if now != hoistAt(1, 16) {
			t.Error(list, "does not free it:", now)
		}
	}
}
