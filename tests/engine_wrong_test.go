package tests

import (
	"fmt"
	"math"
	"slices"
	"testing"

	"loop.example/g00059/impl"
)

// Promise 24: each function of engines and watches answers, and a wrong input
// has one fixed answer.

func TestFuelsThatAreNotSo(t *testing.T) {
	list := pumps{pumping(-1, 0, 1), pumping(0, 1, 1), pumping(1, -1, 1), pumping(7, 0, 1), {}}
	for name, tanks := range wrongFuels() {
		for _, p := range list {
			if got, code := impl.Pumped(tanks, p); !slices.Equal(got, tanks) || code != impl.PumpBad {
				t.Error(name, p, got, code)
			}
		}
		checkPumpAll(t, tanks, list, tanks, []int{1, 1, 1, 1, 1}, 0, 0)
		checkPumpAll(t, tanks, nil, tanks, nil, 0, 0)
		checkPumpAll(t, tanks, make(pumps, 61), tanks, nil, 0, 0)
	}
}

func TestPumpsThatAreNotSo(t *testing.T) {
	tanks := fuels{fuel(4, 9), fuel(4, 9), fuel(4, 9)}
	for name, p := range wrongPumps() {
		if got, code := impl.Pumped(tanks, p); !slices.Equal(got, tanks) || code != impl.PumpBad {
			t.Error(name, got, code)
		}
		if got, code := impl.Pumped(nil, p); len(got) != 0 || code != impl.PumpBad {
			t.Error(name, "without a tank", got, code)
		}
		list := pumps{pumping(-1, 0, 1), p, pumping(0, -1, 2)}
		checkPumpAll(t, tanks, list, fuels{fuel(3, 9), fuel(4, 9), fuel(4, 9)}, []int{0, 1, 0}, 1, 2)
	}
}

func TestCurvesThatAreNotSo(t *testing.T) {
	for name, curve := range wrongCurves() {
		for _, speed := range []int{-1, 0, 5, 10, 20, 290, 300, math.MinInt, math.MaxInt} {
			for _, minutes := range []int{-1, 0, 60, 100000, 100001, math.MinInt, math.MaxInt} {
				if got, ok := impl.Burn(curve, speed, minutes); got != 0 || ok {
					t.Error(name, speed, minutes, got, ok)
				}
			}
		}
	}
}

func TestSpeedsThatAreNotSo(t *testing.T) {
	for _, curve := range [][]int{{5, 6}, make([]int, 30), slices.Repeat([]int{100000}, 30)} {
		last := 10 * (len(curve) - 1)
		for _, speed := range []int{-1, -10, last + 1, last + 10, math.MinInt, math.MaxInt} {
			checkBurn(t, curve, speed, 60, 0, false)
		}
		for _, minutes := range []int{-1, -60, 100001, math.MinInt, math.MaxInt} {
			checkBurn(t, curve, 5, minutes, 0, false)
		}
	}
}

func TestAlarmsThatAreNotSo(t *testing.T) {
	for name, r := range wrongAlarms() {
		for _, list := range [][]int{nil, {5}, {9, 9, 1, 1}, make([]int, 500), make([]int, 501)} {
			if got, ok := impl.Alarms(r, list); len(got) != 0 || ok {
				t.Error(name, list, got, ok)
			}
		}
	}
	for _, count := range []int{501, 502, 3000} {
		if got, ok := impl.Alarms(alarm(5, 2, 1), make([]int, count)); len(got) != 0 || ok {
			t.Error(count, got, ok)
		}
	}
}

func TestSpellsThatAreNotSo(t *testing.T) {
	for name, list := range wrongSpells() {
		if impl.SpellsOk(list) {
			t.Error(name, "is ok")
		}
		for _, from := range []int{-1, 0, 15, math.MinInt} {
			for _, to := range []int{0, 20, 100000000, math.MaxInt} {
				if got := impl.WorkIn(list, from, to); got != 0 {
					t.Error(name, "WorkIn", from, to, got)
				}
			}
		}
		for _, until := range []int{-1, 0, 1440, 30000, 30001, math.MinInt, math.MaxInt} {
			checkRest(t, name, list, until, impl.RestBad, -1)
		}
	}
}

// engined is all that the functions of the chapter take.
type engined struct {
	tanks    fuels
	list     pumps
	curve    []int
	rule     impl.AlarmRule
	measured []int
	watch    spells
}

func enginesOfAllKinds() []engined {
	d := &draws{state: 137}
	drawn := func() engined {
		tanks, r := drawnFuels(d), drawnAlarm(d)
		return engined{tanks, drawnPumps(d, tanks), drawnCurve(d), r, drawnMeasured(d, r), drawnWatch(d)}
	}
	all := []engined{{}}
	for range 100 {
		all = append(all, drawn())
	}
	for _, tanks := range wrongFuels() {
		all = append(all, engined{tanks: tanks, list: pumps{pumping(-1, 0, 1)}})
	}
	for _, curve := range wrongCurves() {
		all = append(all, engined{curve: curve, list: make(pumps, 61)})
	}
	for _, watch := range wrongSpells() {
		all = append(all, engined{watch: watch, rule: alarm(1, 1, 1), measured: make([]int, 501)})
	}
	return all
}

// roomyEngine has right things behind each list, that would make a difference.
func roomyEngine(e engined) engined {
	return engined{spare(e.tanks, fuel(1, 2)), spare(e.list, pumping(-1, 0, 1)), spare(e.curve, 7), e.rule, spare(e.measured, 3), spare(e.watch, impl.Spell{From: 0, To: 900})}
}

func wholeEngine(e engined) string {
	return fmt.Sprint(e.tanks[:cap(e.tanks)], e.list[:cap(e.list)], e.curve[:cap(e.curve)], e.measured[:cap(e.measured)], e.watch[:cap(e.watch)])
}

// overwriteEngine leaves nothing as it was.
func overwriteEngine(e engined) {
	for i := range e.tanks[:cap(e.tanks)] {
		e.tanks[:cap(e.tanks)][i] = fuel(-99, -99)
	}
	clear(e.list[:cap(e.list)])
	clear(e.watch[:cap(e.watch)])
	overwrite(e.curve)
	overwrite(e.measured)
}

// allOfEngine are the answers of all functions, as texts.
func allOfEngine(e engined) []string {
	var all []string
	for _, p := range e.list[:min(len(e.list), 5)] {
		tanks, code := impl.Pumped(e.tanks, p)
		all = append(all, fmt.Sprint(tanks, code))
	}
	tanks, codes, boat, engine := impl.PumpAll(e.tanks, e.list)
	burnt, isCurve := impl.Burn(e.curve, 7, 600)
	isOn, isAlarm := impl.Alarms(e.rule, e.measured)
	code, at := impl.RestCode(e.watch, 3000)
	work := []int{impl.WorkIn(e.watch, 100, 2000), impl.WorkIn(e.watch, 0, 100000000), code, at}
	return append(all, fmt.Sprint(tanks, codes, boat, engine, burnt, isCurve, isOn, isAlarm, impl.SpellsOk(e.watch), work))
}

func TestEngineArgumentsAreNotChanged(t *testing.T) {
	for _, plain := range enginesOfAllKinds() {
		e := roomyEngine(plain)
		before := wholeEngine(e)
		got := allOfEngine(e)
		if wholeEngine(e) != before {
			t.Fatal("written into", plain)
		}
		clipped := engined{slices.Clip(plain.tanks), slices.Clip(plain.list), slices.Clip(plain.curve), plain.rule, slices.Clip(plain.measured), slices.Clip(plain.watch)}
		if !slices.Equal(got, allOfEngine(clipped)) {
			t.Fatal("what lies behind a list is looked at", plain)
		}
	}
}

// checkEngineNew writes over an answer: neither what was handed in nor another
// answer may change by it.
func checkEngineNew[T comparable](t *testing.T, name string, plain engined, other T, ask func(engined) []T) {
	t.Helper()
	e := roomyEngine(plain)
	before := wholeEngine(e)
	earlier, got := ask(e), ask(e)
	want := slices.Clone(got)
	for i := range got[:cap(got)] {
		got[:cap(got)][i] = other
	}
	if wholeEngine(e) != before {
		t.Fatal(name, "shares memory with what was handed in", plain)
	}
	if !slices.Equal(earlier, want) || !slices.Equal(ask(e), want) {
		t.Fatal(name, "shares memory with another answer", plain)
	}
	overwriteEngine(e)
	if !slices.Equal(earlier, want) {
		t.Fatal(name, "keeps the memory of what was handed in", plain)
	}
}

func TestEngineAnswersAreNewMemory(t *testing.T) {
	for _, plain := range enginesOfAllKinds() {
		for _, p := range slices.Concat(pumps{pumping(-1, 0, 1), pumping(0, 0, 1), pumping(0, -1, 1000000)}, plain.list[:min(len(plain.list), 9)]) {
			checkEngineNew(t, "Pumped", plain, fuel(-7, -7), func(e engined) fuels {
				tanks, _ := impl.Pumped(e.tanks, p)
				return tanks
			})
		}
		checkEngineNew(t, "PumpAll", plain, fuel(-7, -7), func(e engined) fuels {
			tanks, _, _, _ := impl.PumpAll(e.tanks, e.list)
			return tanks
		})
		checkEngineNew(t, "PumpAll's codes", plain, -7, func(e engined) []int {
			_, codes, _, _ := impl.PumpAll(e.tanks, e.list)
			return codes
		})
		for _, other := range []bool{false, true} {
			checkEngineNew(t, "Alarms", plain, other, func(e engined) []bool { return first(impl.Alarms(e.rule, e.measured)) })
		}
	}
}

func TestEngineAnswersAgainAndTogether(t *testing.T) {
	engines := enginesOfAllKinds()[:40]
	ask := func() string {
		told := ""
		for _, e := range engines {
			told += fmt.Sprintln(allOfEngine(e))
		}
		return told
	}
	want := ask()
	told := make(chan string)
	for range 8 {
		go func() { told <- ask() }()
	}
	for range 8 {
		if got := <-told; got != want {
			t.Error("answers hang on earlier calls")
		}
	}
}
