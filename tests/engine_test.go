package tests

import (
	"math"
	"slices"
	"testing"

	"loop.example/g00059/impl"
)

// Promise 10: fuel is neither made nor lost; less work never brings a fault of
// rest ahead; an alarm is told by its last measurements.

func TestEngineConstants(t *testing.T) {
	got := []int{impl.MaxFuels, impl.MaxPumps, impl.MaxSpells, impl.PumpDone, impl.PumpBad, impl.PumpDry, impl.PumpOver,
		impl.RestWell, impl.RestBad, impl.RestDay, impl.RestWeek, impl.RestSplit}
	if want := []int{8, 60, 100, 0, 1, 2, 3, 0, 1, 2, 3, 4}; !slices.Equal(got, want) {
		t.Error(got, "not", want)
	}
}

func checkPumped(t *testing.T, tanks fuels, p impl.Pump, want fuels, code int) {
	t.Helper()
	if got, told := impl.Pumped(tanks, p); !slices.Equal(got, want) || told != code {
		t.Error(tanks, p, "got", got, told, "not", want, code)
	}
}

func checkNotPumped(t *testing.T, tanks fuels, p impl.Pump, code int) {
	t.Helper()
	checkPumped(t, tanks, p, tanks, code)
}

func TestPumpedByHand(t *testing.T) {
	tanks := fuels{fuel(5, 9), fuel(0, 4), fuel(7, 7)}
	checkPumped(t, tanks, pumping(0, 1, 3), fuels{fuel(2, 9), fuel(3, 4), fuel(7, 7)}, impl.PumpDone)
	checkPumped(t, tanks, pumping(0, 1, 1), fuels{fuel(4, 9), fuel(1, 4), fuel(7, 7)}, impl.PumpDone)
	checkPumped(t, tanks, pumping(2, 0, 4), fuels{fuel(9, 9), fuel(0, 4), fuel(3, 7)}, impl.PumpDone)
	checkPumped(t, tanks, pumping(-1, 0, 4), fuels{fuel(9, 9), fuel(0, 4), fuel(7, 7)}, impl.PumpDone)
	checkPumped(t, tanks, pumping(-1, 1, 4), fuels{fuel(5, 9), fuel(4, 4), fuel(7, 7)}, impl.PumpDone)
	checkPumped(t, tanks, pumping(0, -1, 5), fuels{fuel(0, 9), fuel(0, 4), fuel(7, 7)}, impl.PumpDone)
	checkPumped(t, tanks, pumping(2, -1, 7), fuels{fuel(5, 9), fuel(0, 4), fuel(0, 7)}, impl.PumpDone)
	checkNotPumped(t, tanks, pumping(0, -1, 6), impl.PumpDry)
	checkNotPumped(t, tanks, pumping(1, -1, 1), impl.PumpDry)
	checkNotPumped(t, tanks, pumping(1, 0, 1), impl.PumpDry)
	checkNotPumped(t, tanks, pumping(-1, 0, 5), impl.PumpOver)
	checkNotPumped(t, tanks, pumping(-1, 2, 1), impl.PumpOver)
	checkNotPumped(t, tanks, pumping(2, 0, 5), impl.PumpOver)
	checkNotPumped(t, tanks, pumping(2, 1, 5), impl.PumpOver)
}

// PumpBad comes first, then PumpDry, then PumpOver.
func TestPumpCodesInTheirOrder(t *testing.T) {
	tanks := fuels{fuel(5, 9), fuel(0, 4), fuel(7, 7)}
	checkNotPumped(t, tanks, pumping(0, 1, 6), impl.PumpDry)
	checkNotPumped(t, tanks, pumping(1, 2, 1), impl.PumpDry)
	checkNotPumped(t, tanks, pumping(0, 1, 1000000), impl.PumpDry)
	checkNotPumped(t, tanks, pumping(-1, 1, 1000000), impl.PumpOver)
	checkNotPumped(t, tanks, pumping(0, 1, 1000001), impl.PumpBad)
	checkNotPumped(t, tanks, pumping(-1, 1, 1000001), impl.PumpBad)
	checkNotPumped(t, tanks, pumping(1, 3, 5), impl.PumpBad)
	checkNotPumped(t, tanks, pumping(1, 1, 1), impl.PumpBad)
	checkNotPumped(t, tanks, pumping(-2, 2, 5), impl.PumpBad)
	checkNotPumped(t, fuels{fuel(5, 9), fuel(0, 4), fuel(8, 7)}, pumping(1, 0, 5), impl.PumpBad)
	checkNotPumped(t, fuels{fuel(5, 9), fuel(0, 4), fuel(8, 7)}, pumping(0, 1, 1), impl.PumpBad)
}

func TestPumpLimitsThatAreMet(t *testing.T) {
	great := fuels{fuel(0, 1000000), fuel(1000000, 1000000)}
	checkPumped(t, great, pumping(1, 0, 1000000), fuels{fuel(1000000, 1000000), fuel(0, 1000000)}, impl.PumpDone)
	checkPumped(t, great, pumping(-1, 0, 1000000), fuels{fuel(1000000, 1000000), fuel(1000000, 1000000)}, impl.PumpDone)
	checkPumped(t, great, pumping(1, -1, 1000000), fuels{fuel(0, 1000000), fuel(0, 1000000)}, impl.PumpDone)
	checkNotPumped(t, great, pumping(0, 1, 1), impl.PumpDry)
	checkNotPumped(t, great, pumping(-1, 1, 1), impl.PumpOver)
	eight := slices.Repeat(fuels{fuel(3, 5)}, 8)
	want := slices.Clone(eight)
	want[0].Has, want[7].Has = 1, 5
	checkPumped(t, eight, pumping(0, 7, 2), want, impl.PumpDone)
	checkNotPumped(t, eight, pumping(0, 8, 2), impl.PumpBad)
	checkNotPumped(t, eight, pumping(8, 0, 2), impl.PumpBad)
	checkNotPumped(t, append(slices.Clone(eight), fuel(3, 5)), pumping(0, 7, 2), impl.PumpBad)
	checkNotPumped(t, fuels{fuel(0, 0), fuel(1, 1)}, pumping(1, 0, 1), impl.PumpOver)
	checkNotPumped(t, fuels{fuel(0, 0), fuel(1, 1)}, pumping(0, 1, 1), impl.PumpDry)
	checkPumped(t, fuels{fuel(0, 0), fuel(1, 1)}, pumping(1, -1, 1), fuels{fuel(0, 0), fuel(0, 1)}, impl.PumpDone)
	for _, p := range []impl.Pump{pumping(-1, -1, 1), pumping(-1, 0, 1), pumping(0, -1, 1), pumping(0, 0, 1)} {
		checkNotPumped(t, nil, p, impl.PumpBad)
	}
}

func checkPumpAll(t *testing.T, tanks fuels, list pumps, want fuels, codes []int, boat, engine int) {
	t.Helper()
	got, told, came, went := impl.PumpAll(tanks, list)
	if !slices.Equal(got, want) || !slices.Equal(told, codes) || came != boat || went != engine {
		t.Fatal(tanks, list, "got", got, told, came, went, "not", want, codes, boat, engine)
	}
}

func TestPumpAllByHand(t *testing.T) {
	tanks := fuels{fuel(5, 9), fuel(0, 4)}
	list := pumps{
		pumping(-1, 0, 4), pumping(-1, 0, 1), pumping(0, 1, 4), pumping(1, 1, 1), pumping(1, -1, 3),
		pumping(1, -1, 2), pumping(-1, 1, 2), pumping(0, -1, 5), pumping(0, -1, 1), pumping(-1, 2, 1),
	}
	checkPumpAll(t, tanks, list, fuels{fuel(0, 9), fuel(3, 4)}, []int{0, 3, 0, 1, 0, 2, 0, 0, 2, 1}, 6, 8)
	checkPumpAll(t, tanks, nil, tanks, nil, 0, 0)
	checkPumpAll(t, nil, nil, nil, nil, 0, 0)
	checkPumpAll(t, nil, list[:2], nil, []int{1, 1}, 0, 0)
	checkPumpAll(t, fuels{fuel(6, 5)}, list[:2], fuels{fuel(6, 5)}, []int{1, 1}, 0, 0)
}

func TestPumpAllAtItsLimit(t *testing.T) {
	sixty := slices.Repeat(pumps{pumping(-1, 0, 1000000), pumping(0, -1, 1000000)}, 30)
	tanks := fuels{fuel(0, 1000000)}
	checkPumpAll(t, tanks, sixty, tanks, make([]int, 60), 30000000, 30000000)
	checkPumpAll(t, tanks, sixty[:59], fuels{fuel(1000000, 1000000)}, make([]int, 59), 30000000, 29000000)
	checkPumpAll(t, tanks, append(slices.Clone(sixty), pumping(-1, 0, 1)), tanks, nil, 0, 0)
	checkPumpAll(t, tanks, make(pumps, 3000), tanks, nil, 0, 0)
	checkPumpAll(t, nil, make(pumps, 61), nil, nil, 0, 0)
}

func TestPumpedOfManyTanks(t *testing.T) {
	d := &draws{state: 127}
	seen := [4]int{}
	for range 5000 {
		tanks := drawnFuels(d)
		p := drawnPump(d, tanks)
		want, code := pumpedOf(tanks, p)
		checkPumped(t, tanks, p, want, code)
		seen[code]++
	}
	for code, times := range seen {
		if times < 300 {
			t.Error("few drawn of code", code, times)
		}
	}
}

func TestFuelIsNeitherMadeNorLost(t *testing.T) {
	d := &draws{state: 128}
	for range 2000 {
		tanks := drawnFuels(d)
		list := drawnPumps(d, tanks)
		want, codes, boat, engine := pumpAllOf(tanks, list)
		checkPumpAll(t, tanks, list, want, codes, boat, engine)
		got, _, came, went := impl.PumpAll(tanks, list)
		if fuelIn(got)-fuelIn(tanks) != came-went {
			t.Fatal("made or lost", tanks, list, got, came, went)
		}
		for i, f := range got {
			if f.Has < 0 || f.Has > f.Most || f.Most != tanks[i].Most {
				t.Fatal("no tank any more", tanks, list, got)
			}
		}
	}
}

func TestPumpsThatAreRefusedChangeNothing(t *testing.T) {
	d := &draws{state: 129}
	for range 1000 {
		tanks := drawnFuels(d)
		list := drawnPumps(d, tanks)
		want, codes, boat, engine := impl.PumpAll(tanks, list)
		now, done := slices.Clone(tanks), pumps{}
		for i, p := range list {
			next, code := impl.Pumped(now, p)
			if code != codes[i] || code != impl.PumpDone && !slices.Equal(next, now) {
				t.Fatal("not one behind the other", tanks, list, i)
			}
			if code == impl.PumpDone {
				done = append(done, p)
			}
			now = next
		}
		checkPumpAll(t, tanks, list, now, codes, boat, engine)
		checkPumpAll(t, tanks, done, want, make([]int, len(done)), boat, engine)
	}
}

func checkBurn(t *testing.T, curve []int, speed, minutes, want int, ok bool) {
	t.Helper()
	if got, told := impl.Burn(curve, speed, minutes); got != want || told != ok {
		t.Error(curve, speed, minutes, "got", got, told, "not", want, ok)
	}
}

func TestBurnByHand(t *testing.T) {
	curve := []int{0, 60, 180}
	for _, c := range [][3]int{
		{0, 60, 0}, {10, 60, 60}, {20, 60, 180}, {15, 60, 120}, {5, 60, 30}, {19, 60, 168}, {9, 60, 54},
		{10, 1, 1}, {10, 0, 0}, {1, 9, 0}, {1, 10, 1}, {1, 19, 1}, {1, 20, 2}, {20, 100000, 300000}, {11, 5, 6}, {11, 59, 70},
	} {
		checkBurn(t, curve, c[0], c[1], c[2], true)
	}
	// One that falls, and one that is not whole between its numbers.
	checkBurn(t, []int{100, 40}, 5, 60, 70, true)
	checkBurn(t, []int{100, 40}, 9, 60, 46, true)
	checkBurn(t, []int{100, 40}, 10, 60, 40, true)
	checkBurn(t, []int{7, 0, 9}, 3, 60, 4, true)
	checkBurn(t, []int{7, 0, 9}, 3, 600, 49, true)
	checkBurn(t, []int{7, 0, 9}, 13, 600, 27, true)
	checkBurn(t, []int{0, 1}, 1, 599, 0, true)
	checkBurn(t, []int{0, 1}, 1, 600, 1, true)
	checkBurn(t, []int{1, 0}, 1, 600, 9, true)
	checkBurn(t, []int{1, 0}, 1, 599, 8, true)
}

func TestBurnAtItsLimits(t *testing.T) {
	curve := []int{0, 100000, 50000}
	checkBurn(t, curve, 10, 100000, 166666666, true)
	checkBurn(t, curve, 10, 100001, 0, false)
	checkBurn(t, curve, 10, -1, 0, false)
	checkBurn(t, curve, 0, 0, 0, true)
	checkBurn(t, curve, -1, 60, 0, false)
	checkBurn(t, curve, 20, 60, 50000, true)
	checkBurn(t, curve, 21, 60, 0, false)
	checkBurn(t, []int{100000, 100001, 0}, 0, 60, 0, false)
	checkBurn(t, []int{100000, -1, 0}, 0, 60, 0, false)
	checkBurn(t, []int{5}, 0, 60, 0, false)
	checkBurn(t, []int{5, 6}, 0, 60, 5, true)
	checkBurn(t, []int{5, 6}, 10, 60, 6, true)
	checkBurn(t, []int{5, 6}, 11, 60, 0, false)
	thirty := append(make([]int, 29), 8)
	checkBurn(t, thirty, 290, 60, 8, true)
	checkBurn(t, thirty, 285, 60, 4, true)
	checkBurn(t, thirty, 291, 60, 0, false)
	checkBurn(t, append(thirty, 8), 290, 60, 0, false)
}

func TestBurnOfManyCurves(t *testing.T) {
	d := &draws{state: 130}
	for range 3000 {
		curve := drawnCurve(d)
		last := 10 * (len(curve) - 1)
		speed := []int{d.between(-1, last+1), 10 * d.between(0, len(curve)-1), d.between(last-10, last)}[d.below(3)]
		minutes := []int{d.between(-1, 700), d.below(100001), 100000 + d.below(2)}[d.below(3)]
		want, ok := burnOf(curve, speed, minutes)
		checkBurn(t, curve, speed, minutes, want, ok)
	}
}

func checkAlarms(t *testing.T, r impl.AlarmRule, list []int, on string) {
	t.Helper()
	got, ok := impl.Alarms(r, list)
	told := ""
	for _, isOn := range got {
		told += map[bool]string{false: "-", true: "+"}[isOn]
	}
	if told != on || !ok {
		t.Error(r, list, "got", told, ok, "not", on)
	}
}

func TestAlarmsByHand(t *testing.T) {
	checkAlarms(t, alarm(5, 2, 2), []int{6, 6, 1, 2, 6}, "-++--")
	checkAlarms(t, alarm(5, 2, 1), []int{4, 5, 3, 2, 3, 6, 1, 9}, "-++--+-+")
	checkAlarms(t, alarm(5, 2, 3), []int{5, 5, 4, 5, 5, 5, 2, 2, 3, 2, 2, 2, 5, 5, 5}, "-----++++++---+")
	checkAlarms(t, alarm(5, 2, 3), []int{9, 9}, "--")
	checkAlarms(t, alarm(5, 2, 3), []int{9, 9, 9}, "--+")
	checkAlarms(t, alarm(5, 2, 2), nil, "")
	checkAlarms(t, alarm(-3, -7, 1), []int{0, -7, -3, -6, -8}, "+-++-")
}

// Where Low is just High, a measurement may be in both rows, and rows reach
// back to where it was otherwise.
func TestAlarmsOfOneBound(t *testing.T) {
	checkAlarms(t, alarm(5, 5, 1), []int{5, 5, 5, 4, 5, 6, 5}, "+-+-++-")
	checkAlarms(t, alarm(5, 5, 2), []int{5, 5, 5, 5, 4, 5}, "-+-+--")
	checkAlarms(t, alarm(5, 5, 3), []int{6, 5, 5, 4, 5, 5, 5}, "--+---+")
	checkAlarms(t, alarm(5, 5, 3), []int{6, 6, 5, 5, 5, 6, 6}, "--++-++")
}

func TestAlarmsOfGreatNumbers(t *testing.T) {
	list := []int{math.MaxInt, math.MinInt, 1000000, 999999, -1000000, -999999, math.MinInt, math.MaxInt}
	checkAlarms(t, alarm(1000000, -1000000, 1), list, "+-++---+")
	checkAlarms(t, alarm(1000000, 1000000, 1), list, "+-+----+")
	checkAlarms(t, alarm(-1000000, -1000000, 1), list, "+-++-+-+")
	checkAlarms(t, alarm(0, 0, 1), []int{math.MinInt, math.MaxInt, math.MinInt}, "-+-")
}

func TestAlarmsAtTheirLimits(t *testing.T) {
	for _, hold := range []int{1, 2, 99, 100} {
		list := slices.Concat(slices.Repeat([]int{7}, hold), slices.Repeat([]int{1}, hold), slices.Repeat([]int{7}, hold))
		got, ok := impl.Alarms(alarm(7, 1, hold), list)
		for i, isOn := range got {
			if want := i >= hold-1 && i < 2*hold-1 || i == 3*hold-1; isOn != want {
				t.Error(hold, i, isOn)
			}
		}
		if !ok || len(got) != 3*hold {
			t.Error(hold, got, ok)
		}
	}
	if got, ok := impl.Alarms(alarm(7, 1, 100), slices.Repeat([]int{7}, 500)); len(got) != 500 || !ok || got[98] || !got[99] || !got[499] {
		t.Error("500", got, ok)
	}
	if got, ok := impl.Alarms(alarm(7, 1, 1), make([]int, 501)); len(got) != 0 || ok {
		t.Error("501", got, ok)
	}
}

func TestAlarmsOfManyMeasurements(t *testing.T) {
	d := &draws{state: 131}
	for range 3000 {
		r := drawnAlarm(d)
		list := drawnMeasured(d, r)
		got, ok := impl.Alarms(r, list)
		if want, told := alarmsOf(r, list); !slices.Equal(got, want) || ok != told {
			t.Fatal(r, list, got, ok)
		}
	}
}

func TestAlarmsAreToldByTheirLastMeasurements(t *testing.T) {
	d := &draws{state: 132}
	turns := 0
	for range 2000 {
		r := drawnAlarm(d)
		list := drawnMeasured(d, r)
		got, _ := impl.Alarms(r, list)
		wasOn := false
		for at, isOn := range got {
			if isOn && !wasOn && (at+1 < r.Hold || slices.Min(list[at+1-r.Hold:at+1]) < r.High) {
				t.Fatal("on too soon", r, list, at)
			}
			if wasOn && !isOn && (at+1 < r.Hold || slices.Max(list[at+1-r.Hold:at+1]) > r.Low) {
				t.Fatal("off too soon", r, list, at)
			}
			if isOn != wasOn {
				turns++
			}
			wasOn = isOn
		}
		for count := range len(list) {
			if some, ok := impl.Alarms(r, list[:count]); !slices.Equal(some, got[:count]) || !ok {
				t.Fatal("later measurements are looked at", r, list, count)
			}
			if count > 20 {
				break
			}
		}
	}
	if turns < 5000 {
		t.Error("few turns", turns)
	}
}

func TestSpellsOkAtTheirLimits(t *testing.T) {
	hundred := make(spells, 100)
	for i := range hundred {
		hundred[i] = impl.Spell{From: i, To: i + 1}
	}
	for name, list := range map[string]spells{
		"none": nil, "an empty list": {}, "one": spellsOf(10, 20), "of one minute": spellsOf(0, 1), "just behind": spellsOf(10, 20, 20, 30),
		"one behind": spellsOf(10, 20, 21, 30), "up to MaxMinute": spellsOf(10, 100000000), "all": spellsOf(0, 100000000), "the last minute": spellsOf(99999999, 100000000),
		"100": hundred,
	} {
		if !impl.SpellsOk(list) {
			t.Error(name, "is not ok")
		}
	}
}

func TestSpellsOkOfDrawnOnes(t *testing.T) {
	d := &draws{state: 133}
	seen := map[bool]int{}
	for range 3000 {
		list := drawnSpells(d)
		if len(list) > 0 && d.below(2) == 0 {
			at := d.below(len(list))
			list[at].From += d.between(-2, 2)
			list[at].To += d.between(-2, 2)
		}
		if impl.SpellsOk(list) != spellsOk(list) {
			t.Fatal(list)
		}
		seen[spellsOk(list)]++
	}
	if seen[true] < 500 || seen[false] < 500 {
		t.Error("few drawn", seen)
	}
}

func TestWorkInByHand(t *testing.T) {
	list := spellsOf(10, 20, 30, 40, 40, 45)
	for _, c := range [][3]int{
		{0, 100, 25}, {15, 35, 10}, {10, 20, 10}, {12, 13, 1}, {12, 12, 0}, {0, 10, 0}, {20, 30, 0}, {9, 11, 1}, {19, 21, 1}, {29, 31, 1},
		{35, 42, 7}, {40, 45, 5}, {45, 100000000, 0}, {44, 100000000, 1}, {0, 0, 0}, {0, 11, 1}, {100000000, 100000000, 0}, {0, 100000000, 25},
		{35, 15, 0}, {13, 12, 0}, {-1, 100, 0}, {0, 100000001, 0}, {-5, -1, 0}, {100000001, 100000002, 0}, {math.MinInt, math.MaxInt, 0}, {math.MaxInt, math.MinInt, 0},
	} {
		if got := impl.WorkIn(list, c[0], c[1]); got != c[2] {
			t.Error(c, got)
		}
	}
	if got := impl.WorkIn(spellsOf(0, 100000000), 0, 100000000); got != 100000000 {
		t.Error("all", got)
	}
	if got := impl.WorkIn(nil, 0, 100); got != 0 {
		t.Error("none", got)
	}
}

func TestWorkIsThatOfItsParts(t *testing.T) {
	d := &draws{state: 134}
	for range 3000 {
		list := drawnSpells(d)
		most := 100
		if len(list) > 0 {
			most = min(100000000, list[len(list)-1].To+5)
		}
		ends := []int{d.between(0, most), d.between(0, most), d.between(0, most)}
		slices.Sort(ends)
		early, late, whole := impl.WorkIn(list, ends[0], ends[1]), impl.WorkIn(list, ends[1], ends[2]), impl.WorkIn(list, ends[0], ends[2])
		if early+late != whole || whole != workOf(list, ends[0], ends[2]) || early != workOf(list, ends[0], ends[1]) {
			t.Fatal(list, ends, early, late, whole)
		}
	}
}
