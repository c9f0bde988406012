package tests

import (
	"slices"
	"testing"

	"loop.example/g00059/impl"
)

// Promise 5: tides.

func TestTideDayByHand(t *testing.T) {
	type tides = []impl.Harmonic
	const a, square = 1 + tiny, 1 + 2*tiny
	quarter, back, nowhere := wave(0, 1), wave(0, -1), wave(0, 0)
	for _, c := range []struct {
		mean    float64
		list    tides
		minutes int
		want    floats
	}{
		{3, nil, 0, nil},
		{3, nil, 1, floats{3}},
		{3, tides{}, 2, floats{3, 3}},
		{minus0, nil, 1, floats{minus0}},
		{3, tides{still(2)}, 0, nil},
		{3, tides{still(2)}, 1, floats{5}},
		{3, tides{still(2)}, 3, floats{5, 5, 5}},
		{3, tides{still(2), still(-7)}, 2, floats{-2, -2}},
		// Quarter turns, either way about.
		{10, tides{harmonic(wave(2, 0), quarter)}, 6, floats{12, 10, 8, 10, 12, 10}},
		{10, tides{harmonic(wave(2, 3), quarter)}, 5, floats{12, 7, 8, 13, 12}},
		{10, tides{harmonic(wave(2, 3), back)}, 5, floats{12, 13, 8, 7, 12}},
		{0, tides{harmonic(wave(0, 5), quarter)}, 3, floats{0, -5, 0}},
		{10, tides{harmonic(wave(1, 0), quarter), harmonic(wave(0, 2), back), harmonic(wave(4, 0), wave(-1, 0))}, 4, floats{15, 8, 13, 4}},
		// What is the Im of a phase tells nothing where it does not turn.
		{1, tides{harmonic(wave(2, 9), wave(1, 0))}, 2, floats{3, 3}},
		// A harmonic grows, goes to 0, or is 0.
		{0, tides{harmonic(wave(1, 1), wave(1, 1))}, 5, floats{1, 0, -2, -4, -4}},
		{1, tides{harmonic(wave(2, 3), nowhere)}, 3, floats{3, 1, 1}},
		{1, tides{harmonic(nowhere, wave(3, 4))}, 3, floats{1, 1, 1}},
		{1, tides{harmonic(nowhere, nowhere)}, 3, floats{1, 1, 1}},
		{minus0, tides{harmonic(nowhere, wave(1, 0))}, 2, floats{0, 0}},
		// Phases that are infinite or NaN.
		{1, tides{harmonic(wave(infinite, 0), wave(1, 0))}, 3, floats{infinite, infinite, none}},
		{1, tides{harmonic(wave(-infinite, 0), quarter)}, 2, floats{-infinite, none}},
		{1, tides{harmonic(wave(2, infinite), quarter)}, 3, floats{3, -infinite, none}},
		{1, tides{harmonic(wave(2, none), wave(1, 0))}, 2, floats{3, none}},
		{1, tides{harmonic(wave(none, 2), nowhere)}, 2, floats{none, none}},
		{1, tides{harmonic(wave(2, 0), wave(none, 0))}, 2, floats{3, none}},
		{1, tides{harmonic(wave(2, 0), wave(0, infinite))}, 2, floats{3, none}},
		{1, tides{harmonic(wave(2, 3), wave(0, infinite))}, 2, floats{3, -infinite}},
		{0, tides{harmonic(wave(greatest64, 0), wave(2, 0))}, 2, floats{greatest64, infinite}},
		{1, tides{still(infinite), still(-infinite)}, 1, floats{none}},
		{none, tides{still(1)}, 2, floats{none, none}},
		{infinite, tides{still(1)}, 2, floats{infinite, infinite}},
		{-infinite, nil, 2, floats{-infinite, -infinite}},
		// The order of list counts, and the mean comes ahead of it.
		{1, tides{still(1e16), still(-1e16)}, 2, floats{0, 0}},
		{1e16, tides{still(1), still(-1e16)}, 2, floats{0, 0}},
		{1e16, tides{still(-1e16), still(1)}, 2, floats{1, 1}},
		{1e16, tides{still(1), still(1)}, 2, floats{1e16, 1e16}},
		{0, tides{still(1), still(1), still(1e16)}, 2, floats{1e16 + 2, 1e16 + 2}},
		// Each product of a phase is rounded by itself.
		{0, tides{harmonic(wave(a, a), wave(a, a))}, 3, floats{a, 0, -2 * square * a}},
		{-square, tides{harmonic(wave(a, 0), wave(a, 0))}, 2, floats{-tiny, 0}},
	} {
		if got, ok := impl.TideDay(c.mean, c.list, c.minutes); !ok || !sameFloats(got, c.want) {
			t.Error(c.mean, c.list, c.minutes, got, ok, c.want)
		}
	}
}

func checkTideDay(t *testing.T, mean float64, list []impl.Harmonic, minutes int) {
	t.Helper()
	got, ok := impl.TideDay(mean, list, minutes)
	if want, wantOk := new(reckoner).tideDay(mean, list, minutes); ok != wantOk || !sameFloats(got, want) {
		t.Fatal("TideDay", mean, list, minutes, got, ok, want, wantOk)
	}
}

func TestManyTideDays(t *testing.T) {
	for _, turn := range wavesOf(edgeFloats()) {
		checkTideDay(t, 1, []impl.Harmonic{harmonic(wave(3, -2), turn)}, 4)
		checkTideDay(t, 0.1, []impl.Harmonic{harmonic(turn, wave(0.6, 0.8)), still(3)}, 4)
	}
	d := &draws{state: 61}
	for range 600 {
		checkTideDay(t, d.nearFloat(), drawnHarmonics(d), drawnCount(d))
		checkTideDay(t, d.anyFloat(), drawnHarmonics(d), d.below(4))
		wild := listOf(d, d.below(impl.MaxTides+2), nil, func() impl.Harmonic { return harmonic(d.anyWave(), d.anyWave()) })
		checkTideDay(t, d.nearFloat(), wild, d.between(-1, 9))
	}
}

// Each minute turns a phase by four products; of those behind the last minute
// nothing is told.
func TestTideDayFusesNothing(t *testing.T) {
	d, changed := &draws{state: 62}, map[int]int{}
	for range 2000 {
		list := []impl.Harmonic{harmonic(d.nearWave(), d.nearWave()), harmonic(d.nearWave(), d.nearWave())}
		mean := d.nearFloat()
		got, _ := impl.TideDay(mean, list, 3)
		for fuse := 1; fuse <= 24; fuse++ {
			if fused, _ := (&reckoner{fuse: fuse}).tideDay(mean, list, 3); !sameFloats(fused, got) {
				changed[fuse]++
			}
		}
	}
	bites(t, "TideDay", changed, 1, 2, 3, 4, 5, 6, 13, 14, 15, 16, 17, 18)
}

func TestTideDayAtItsLimits(t *testing.T) {
	var list []impl.Harmonic
	for i := range impl.MaxTides {
		list = append(list, harmonic(wave(float64(int(1)<<i), 0), wave(-1, 0)))
	}
	day, ok := impl.TideDay(1000, list, impl.MaxDay)
	if !ok || len(day) != 1500 {
		t.Fatal(len(day), ok)
	}
	for m, height := range day {
		if want := []float64{1255, 745}[m%2]; height != want {
			t.Fatal(m, height)
		}
	}
	for _, minutes := range []int{0, 1, 1499, 1500} {
		for count := range impl.MaxTides + 1 {
			if day, ok := impl.TideDay(1000, list[:count], minutes); !ok || len(day) != minutes {
				t.Error(count, minutes, len(day), ok)
			}
		}
	}
}

// A day that is shorter is the beginning of the longer one.
func TestTideDaysBeginAlike(t *testing.T) {
	d := &draws{state: 63}
	for range 50 {
		mean, list := d.nearFloat(), drawnHarmonics(d)
		whole, _ := impl.TideDay(mean, list, impl.MaxDay)
		for _, minutes := range []int{0, 1, 2, 777, 1499} {
			if part, ok := impl.TideDay(mean, list, minutes); !ok || !sameFloats(part, whole[:minutes]) {
				t.Fatal(mean, list, minutes, ok)
			}
		}
	}
}

func TestHarmonicThatIs0ChangesNothing(t *testing.T) {
	d := &draws{state: 64}
	for range 200 {
		mean, list, minutes := d.nearFloat(), drawnHarmonics(d), drawnCount(d)
		if len(list) == impl.MaxTides {
			list = list[1:]
		}
		want, _ := impl.TideDay(mean, list, minutes)
		for _, zero := range []impl.Harmonic{{}, harmonic(wave(0, 0), d.nearWave()), harmonic(wave(minus0, 0), d.nearWave())} {
			more := slices.Insert(slices.Clone(list), d.below(len(list)+1), zero)
			if got, ok := impl.TideDay(mean, more, minutes); !ok || !slices.Equal(got, want) {
				t.Fatal(mean, list, zero, minutes)
			}
		}
	}
}

func TestDepthsByHand(t *testing.T) {
	for _, c := range []struct {
		day      floats
		sounding float64
		want     floats
	}{
		{nil, 3, nil},
		{floats{}, none, nil},
		{floats{1}, 3, floats{4}},
		{floats{1, -2, 0.5}, 3, floats{4, 1, 3.5}},
		{floats{1, 2}, -3, floats{-2, -1}},
		{floats{minus0, minus0}, 0, floats{0, 0}},
		{floats{minus0, 0}, minus0, floats{minus0, 0}},
		{floats{1, -1}, -1, floats{0, -2}},
		{floats{none, 1, infinite, -infinite}, 1, floats{none, 2, infinite, -infinite}},
		{floats{none, 1, infinite, -infinite}, infinite, floats{none, infinite, infinite, none}},
		{floats{1, infinite}, none, floats{none, none}},
		{floats{greatest64, 1e16, 0.1}, greatest64, floats{infinite, greatest64, greatest64}},
		{floats{1e16, 0.1}, 1, floats{1e16, 1.1}},
		{floats{0.1}, 0.2, floats{0.30000000000000004}},
	} {
		if got := impl.Depths(c.day, c.sounding); !sameFloats(got, c.want) {
			t.Error(c.day, c.sounding, got, c.want)
		}
	}
}

func TestManyDepths(t *testing.T) {
	d := &draws{state: 65}
	check := func(day []float64, sounding float64) {
		got := impl.Depths(day, sounding)
		if len(got) != len(day) {
			t.Fatal(len(day), len(got))
		}
		for m := range day {
			if !same(got[m], add(day[m], sounding)) {
				t.Fatal(m, day[m], sounding, got[m])
			}
		}
	}
	for _, sounding := range edgeFloats() {
		check(edgeFloats(), sounding)
	}
	for range 200 {
		check(listOf(d, drawnCount(d), nil, d.nearFloat), d.nearFloat())
		check(listOf(d, drawnCount(d), nil, d.anyFloat), d.anyFloat())
	}
}

func TestWindowsByHand(t *testing.T) {
	for _, c := range []struct {
		depths floats
		need   float64
		want   windows
	}{
		{nil, 1, nil},
		{floats{}, -infinite, nil},
		{floats{5}, 5, windows{window(0, 0)}},
		{floats{justBelow(5)}, 5, nil},
		{floats{5, 5}, 5, windows{window(0, 1)}},
		{floats{1, 5}, 5, windows{window(1, 1)}},
		{floats{5, 1}, 5, windows{window(0, 0)}},
		{floats{1, 1}, 5, nil},
		{floats{1, 5, 6, 1}, 5, windows{window(1, 2)}},
		// Two that lie one minute apart.
		{floats{5, 1, 5}, 5, windows{window(0, 0), window(2, 2)}},
		{floats{1, 5, 5, 1, 5, 5, 1}, 5, windows{window(1, 2), window(4, 5)}},
		{floats{5, 1, 1, 5, 5, 1, 5}, 5, windows{window(0, 0), window(3, 4), window(6, 6)}},
		// Just need, and just below it.
		{floats{0.3, justBelow(0.3), 0.3, 0.1 + 0.2}, 0.3, windows{window(0, 0), window(2, 3)}},
		{floats{0, minus0, justBelow(0), 0}, 0, windows{window(0, 1), window(3, 3)}},
		{floats{0, minus0, justBelow(0), 0}, minus0, windows{window(0, 1), window(3, 3)}},
		{floats{-1, -2, -3}, -2, windows{window(0, 1)}},
		// A NaN is not deep enough for any need, and nothing is for a NaN.
		{floats{5, none, 5}, 5, windows{window(0, 0), window(2, 2)}},
		{floats{none, 5, none}, 5, windows{window(1, 1)}},
		{floats{none, none}, -infinite, nil},
		{floats{5, infinite, none}, none, nil},
		{floats{-infinite, 5, infinite}, infinite, windows{window(2, 2)}},
		{floats{-infinite, 5, none, infinite}, -infinite, windows{window(0, 1), window(3, 3)}},
	} {
		if got := impl.WindowsOf(c.depths, c.need); !slices.Equal(got, c.want) {
			t.Error(c.depths, c.need, got, c.want)
		}
	}
}

func TestWindowsOfWholeDays(t *testing.T) {
	deep := slices.Repeat(floats{5}, impl.MaxDay)
	if got := impl.WindowsOf(deep, 5); !slices.Equal(got, windows{window(0, 1499)}) {
		t.Error(got)
	}
	if got := impl.WindowsOf(deep, 6); len(got) != 0 {
		t.Error(got)
	}
	deep[0], deep[1498] = 1, 1
	if got := impl.WindowsOf(deep, 5); !slices.Equal(got, windows{window(1, 1497), window(1499, 1499)}) {
		t.Error(got)
	}
	every := slices.Repeat(floats{5, 1}, impl.MaxDay/2)
	if got := impl.WindowsOf(every, 5); len(got) != 750 || got[0] != window(0, 0) || got[749] != window(1498, 1498) {
		t.Error(len(got), got)
	}
}

func TestAllShortWindows(t *testing.T) {
	for count := range 11 {
		for deep := range 1 << count {
			depths := make(floats, count)
			for m := range depths {
				depths[m] = float64(deep >> m & 1)
			}
			if got, want := impl.WindowsOf(depths, 1), windowsOf(depths, 1); !slices.Equal(got, want) {
				t.Fatal(depths, got, want)
			}
		}
	}
}

// inWindows marks the minutes of windows; what lies in two is told.
func inWindows(t *testing.T, list []impl.Window, minutes int) []bool {
	t.Helper()
	marks := make([]bool, minutes)
	for _, w := range list {
		for m := w.From; m <= w.To; m++ {
			if marks[m] {
				t.Fatal("twice", m, list)
			}
			marks[m] = true
		}
	}
	return marks
}

// checkWindows is the promise: windows do not touch, hold at each minute, and
// no minute beside them is deep enough.
func checkWindows(t *testing.T, depths []float64, need float64) {
	t.Helper()
	list := impl.WindowsOf(depths, need)
	if want := windowsOf(depths, need); !slices.Equal(list, want) {
		t.Fatal(depths, need, list, want)
	}
	for i, w := range list {
		if w.From > w.To || i > 0 && w.From < list[i-1].To+2 {
			t.Fatal("windows touch", depths, need, list)
		}
	}
	for m, is := range inWindows(t, list, len(depths)) {
		if is != (depths[m] >= need) {
			t.Fatal(m, depths[m], need, list)
		}
	}
}

func TestManyWindows(t *testing.T) {
	d := &draws{state: 66}
	for range 400 {
		steps, day := drawnSteps(d), drawnDay(d)
		for need := range 6 {
			checkWindows(t, steps, float64(need))
		}
		checkWindows(t, steps, none)
		checkWindows(t, day, d.nearFloat())
		if len(day) > 0 {
			checkWindows(t, day, day[d.below(len(day))])
		}
		checkWindows(t, listOf(d, drawnCount(d), nil, d.anyFloat), d.anyFloat())
	}
}

func TestMoreNeedLeavesNoMoreMinutes(t *testing.T) {
	d := &draws{state: 67}
	for range 200 {
		day := drawnDay(d)
		less, more := d.nearFloat(), d.nearFloat()
		less, more = min(less, more), max(less, more)
		before := inWindows(t, impl.WindowsOf(day, less), len(day))
		for m, is := range inWindows(t, impl.WindowsOf(day, more), len(day)) {
			if is && !before[m] {
				t.Fatal(less, more, m, day)
			}
		}
	}
}

func TestWindowForByHand(t *testing.T) {
	two := windows{window(3, 5), window(7, 10)}
	late := windows{window(0, 0), window(1490, 1499)}
	for _, c := range []struct {
		list       windows
		from, many int
		want       int
	}{
		{nil, 0, 1, -1},
		{windows{}, 0, 1, -1},
		{nil, 1500, 1500, -1},
		{two, 0, 1, 3},
		{two, 2, 1, 3},
		{two, 3, 1, 3},
		{two, 4, 1, 4},
		{two, 5, 1, 5},
		{two, 6, 1, 7},
		{two, 7, 1, 7},
		{two, 10, 1, 10},
		{two, 11, 1, -1},
		{two, 1500, 1, -1},
		// Just as long as a window, and one longer.
		{two, 0, 3, 3},
		{two, 3, 3, 3},
		{two, 4, 3, 7},
		{two, 4, 2, 4},
		{two, 5, 2, 7},
		{two, 0, 4, 7},
		{two, 7, 4, 7},
		{two, 8, 4, -1},
		{two, 8, 3, 8},
		{two, 9, 3, -1},
		{two, 0, 5, -1},
		{two, 0, 7, -1},
		{two, 0, 1500, -1},
		{late, 0, 1, 0},
		{late, 1, 1, 1490},
		{late, 0, 10, 1490},
		{late, 0, 11, -1},
		{late, 1499, 1, 1499},
		{late, 1499, 2, -1},
		{late, 1500, 1, -1},
		{windows{window(0, 1499)}, 0, 1500, 0},
		{windows{window(0, 1499)}, 1, 1500, -1},
		{windows{window(0, 1499)}, 1, 1499, 1},
		{windows{window(0, 1499)}, 1499, 1, 1499},
		{windows{window(0, 1499)}, 1500, 1, -1},
		{windows{window(0, 1498)}, 0, 1500, -1},
		{windows{window(1499, 1499)}, 0, 1, 1499},
	} {
		if got, ok := impl.WindowFor(c.list, c.from, c.many); got != c.want || ok != (c.want >= 0) {
			t.Error(c.list, c.from, c.many, got, ok, c.want)
		}
	}
}

// checkStay is the promise: a window told for a stay has it, and no minute
// ahead of the one told would do.
func checkStay(t *testing.T, list []impl.Window, from, many int) {
	t.Helper()
	got, ok := impl.WindowFor(list, from, many)
	if want, wantOk := windowFor(list, from, many); got != want || ok != wantOk {
		t.Fatal(list, from, many, got, ok, want, wantOk)
	}
	has := func(w impl.Window) bool { return w.From <= got && got+many-1 <= w.To }
	if ok && (got < from || !slices.ContainsFunc(list, has)) {
		t.Fatal("a window without its stay", list, from, many, got)
	}
}

func TestManyStays(t *testing.T) {
	d := &draws{state: 68}
	for range 300 {
		list := drawnWindows(d)
		for range 10 {
			checkStay(t, list, d.below(impl.MaxDay+1), d.between(1, 40))
			checkStay(t, list, d.below(40), d.between(1, impl.MaxDay))
		}
		for _, w := range list {
			length := w.To - w.From + 1
			for _, from := range []int{0, w.From, min(w.From+1, w.To), w.To, w.To + 1} {
				for _, many := range []int{1, max(1, length-1), length, min(length+1, impl.MaxDay)} {
					checkStay(t, list, from, many)
				}
			}
		}
	}
}

// Whatever WindowsOf tells is taken, and each stay within it is deep enough.
func TestStaysAreDeepEnough(t *testing.T) {
	d := &draws{state: 69}
	for range 300 {
		depths := drawnSteps(d)
		list := impl.WindowsOf(depths, 1)
		for range 5 {
			from, many := d.below(impl.MaxDay+1), d.between(1, 4)
			checkStay(t, list, from, many)
			begin, ok := impl.WindowFor(list, from, many)
			for m := begin; ok && m < begin+many; m++ {
				if !(depths[m] >= 1) {
					t.Fatal(depths, from, many, begin)
				}
			}
		}
	}
	every := impl.WindowsOf(slices.Repeat(floats{5, 1}, impl.MaxDay/2), 5)
	if got, ok := impl.WindowFor(every, 1497, 1); got != 1498 || !ok {
		t.Error(got, ok)
	}
}

func TestHighLowByHand(t *testing.T) {
	for _, c := range []struct {
		day  floats
		want []int
	}{
		{nil, nil},
		{floats{1}, nil},
		{floats{1, 2}, nil},
		{floats{1, 2, 3}, nil},
		{floats{3, 2, 1}, nil},
		{floats{1, 1, 1}, nil},
		{floats{1, 2, 1}, []int{1}},
		{floats{2, 1, 2}, []int{1}},
		{floats{1, 2, 1, 2, 1}, []int{1, 2, 3}},
		{floats{12, 10, 8, 10, 12, 10}, []int{2, 4}},
		// The first of those that are the same is told, whatever comes then.
		{floats{1, 2, 2}, []int{1}},
		{floats{1, 2, 2, 1}, []int{1}},
		{floats{1, 2, 2, 3}, []int{1}},
		{floats{2, 1, 1, 1, 2}, []int{1}},
		{floats{2, 1, 1, 1, 0}, []int{1}},
		{floats{2, 2, 1}, nil},
		{floats{2, 2, 3}, nil},
		{floats{0, minus0, 0}, nil},
		{floats{0, least64, 0}, []int{1}},
		{floats{0, -least64, minus0}, []int{1}},
		// Both ends of the day are told never.
		{floats{9, 1, 2, 9}, []int{1}},
		{floats{1, 9, 9, 9}, []int{1}},
		// Beside a NaN ahead no height is above nor below; beside one that
		// comes next it is neither below nor above.
		{floats{none, 2, 1}, nil},
		{floats{none, 2, 3}, nil},
		{floats{1, 2, none}, []int{1}},
		{floats{3, 2, none}, []int{1}},
		{floats{2, 2, none}, nil},
		{floats{1, none, 1}, nil},
		{floats{none, none, none}, nil},
		{floats{1, 2, none, 2, 1, 2}, []int{1, 4}},
		{floats{1, infinite, 1}, []int{1}},
		{floats{1, infinite, infinite}, []int{1}},
		{floats{infinite, -infinite, -infinite, infinite}, []int{1}},
	} {
		if got := impl.HighLow(c.day); !slices.Equal(got, c.want) {
			t.Error(c.day, got, c.want)
		}
	}
}

func TestManyHighsAndLows(t *testing.T) {
	d := &draws{state: 70}
	for range 400 {
		for _, day := range [][]float64{drawnSteps(d), drawnDay(d), listOf(d, drawnCount(d), nil, d.anyFloat)} {
			if got, want := impl.HighLow(day), highLow(day); !slices.Equal(got, want) {
				t.Fatal(day, got, want)
			}
		}
	}
	for code := range 4 * 4 * 4 * 4 * 4 {
		var day floats
		for place := range 5 {
			day = append(day, floats{1, 2, 3, none}[code>>(2*place)&3])
		}
		if got, want := impl.HighLow(day), highLow(day); !slices.Equal(got, want) {
			t.Fatal(day, got, want)
		}
	}
	every := slices.Repeat(floats{5, 1}, impl.MaxDay/2)
	if got := impl.HighLow(every); len(got) != 1498 || got[0] != 1 || got[1497] != 1498 {
		t.Error(len(got), got)
	}
}

func TestSquatByHand(t *testing.T) {
	const a, square = 1 + tiny, 1 + 2*tiny
	for _, c := range []struct {
		speed, block, width, depth float64
		want                       float64
	}{
		{10, 0.5, 4, 8, 0.75},
		{10, 1, 0, 1, 1},
		{10, 1, 3, 1, 4},
		{0, 1, 3, 1, 0},
		{10, 0, 3, 1, 0},
		{minus0, 1, 3, 1, 0},
		{10, 1, minus0, 1, 1},
		{10, minus0, 3, 1, minus0},
		{3, 1, 1, 3, 0.12},
		// What is divided by rounds by itself, and so does each product.
		{10, 1, 1, 0x1p60, 1},
		{a, 100, 0, 1, square},
		{a, 0x1p-1074, 0, 1, 0},
		{0x1p-600, 1e300, 3, 1, 0},
		{0x1p511, 0x1p-1000, 0, 1, 0x1p22 / 100},
		{0x1p512, 0x1p-1000, 0, 1, infinite},
		{0x1p512, 0, 0, 1, none},
		{1, 1, greatest64, least64, infinite},
		{0, 1, greatest64, least64, none},
		{1, greatest64, 0, 1, greatest64 / 100},
		{1, greatest64, 1, 1, infinite},
		{1, 1, 1, least64, infinite},
	} {
		if got, ok := impl.Squat(c.speed, c.block, c.width, c.depth); !ok || !same(got, c.want) {
			t.Error(c, got, ok)
		}
	}
}

func checkSquat(t *testing.T, speed, block, width, depth float64) {
	t.Helper()
	got, ok := impl.Squat(speed, block, width, depth)
	if want, wantOk := squat(speed, block, width, depth); ok != wantOk || !same(got, want) {
		t.Fatal("Squat", speed, block, width, depth, got, ok, want, wantOk)
	}
}

func TestManySquats(t *testing.T) {
	edges := append(edgeFloats(), 7, 100)
	for _, a := range edges {
		for _, b := range edges {
			checkSquat(t, a, b, 3, 2)
			checkSquat(t, a, 3, b, 2)
			checkSquat(t, a, 2, 3, b)
			checkSquat(t, 2, a, b, 3)
			checkSquat(t, 2, a, 3, b)
			checkSquat(t, 2, 3, a, b)
		}
	}
	d := &draws{state: 71}
	for range 20000 {
		above := func() float64 { return max(d.nearFloat(), -d.nearFloat(), 0.3) }
		checkSquat(t, above(), above(), above(), above())
		checkSquat(t, d.nearFloat(), d.nearFloat(), d.nearFloat(), d.nearFloat())
		checkSquat(t, d.anyFloat(), d.anyFloat(), d.anyFloat(), d.anyFloat())
	}
}

// From the left, and each by itself: other orders are other numbers.
func TestSquatHangsOnItsOrder(t *testing.T) {
	d, changed := &draws{state: 72}, map[int]int{}
	for range 2000 {
		s, b, w, depth := d.nearFloat(), d.nearFloat(), d.nearFloat(), d.nearFloat()
		s, b, w, depth = s*s, b*b, w*w, depth*depth
		got, _ := impl.Squat(s, b, w, depth)
		share := div(w, depth)
		push := mul(mul(s, s), b)
		for i, other := range []float64{
			div(mul(mul(s, mul(s, b)), add(1, share)), 100),
			div(add(push, mul(push, share)), 100),
			mul(mul(push, add(1, share)), 0.01),
			mul(div(push, 100), add(1, share)),
			mul(push, div(add(1, share), 100)),
			div(div(mul(push, add(depth, w)), depth), 100),
		} {
			if !same(got, other) {
				changed[i]++
			}
		}
	}
	bites(t, "Squat", changed, 0, 1, 2, 3, 4, 5)
}

func TestUnderKeelByHand(t *testing.T) {
	for _, c := range []struct {
		depths              floats
		draft, squat, least float64
		want                []bool
	}{
		{nil, 1, 1, 1, nil},
		{floats{10}, 7, 1, 2, []bool{true}},
		{floats{10, justBelow(10), 9, 11, -10}, 7, 1, 2, []bool{true, false, false, true, false}},
		{floats{10}, 7, 1, 2 + tiny*2, []bool{false}},
		{floats{10, 12}, 7, -1, 5, []bool{false, true}},
		{floats{0, minus0}, 0, 0, minus0, []bool{true, true}},
		{floats{none, 5, infinite, -infinite}, 1, 1, 1, []bool{false, true, true, false}},
		{floats{none, 5, infinite, -infinite}, 1, 1, -infinite, []bool{false, true, true, true}},
		{floats{5, infinite}, none, 1, 1, []bool{false, false}},
		{floats{5, infinite}, 1, none, 1, []bool{false, false}},
		{floats{5, infinite}, 1, 1, none, []bool{false, false}},
		{floats{5, infinite}, infinite, 1, -infinite, []bool{true, false}},
		{floats{5, infinite}, -infinite, 1, infinite, []bool{true, true}},
		// From the left: 1e16 less 1 less 1 is 1e16, less both together is not.
		{floats{1e16 + 4}, 1, 1, 1e16 + 4, []bool{true}},
		{floats{1}, 1e16, -1e16, 1, []bool{false}},
		{floats{1e16}, 1e16, -1, 1, []bool{true}},
		{floats{1e16}, -1, 1e16, 1, []bool{false}},
		{floats{greatest64}, -greatest64, greatest64, 0, []bool{true}},
		{floats{-greatest64}, greatest64, -greatest64, 0, []bool{false}},
		{floats{0.3}, 0.1, 0.2, 0, []bool{false}},
		{floats{0.3}, 0.2, 0.1, 0, []bool{false}},
		{floats{0.6}, 0.3, 0.3, 0, []bool{true}},
	} {
		if got := impl.UnderKeel(c.depths, c.draft, c.squat, c.least); !slices.Equal(got, c.want) {
			t.Error(c, got)
		}
	}
}

func TestManyUnderKeels(t *testing.T) {
	check := func(depths []float64, draft, squat, least float64) {
		got, want := impl.UnderKeel(depths, draft, squat, least), underKeel(depths, draft, squat, least)
		if !slices.Equal(got, want) {
			t.Fatal(depths, draft, squat, least, got, want)
		}
	}
	for _, a := range edgeFloats() {
		for _, b := range edgeFloats() {
			check(edgeFloats(), a, b, 0)
			check(edgeFloats(), a, 1, b)
			check(edgeFloats(), 1, a, b)
		}
	}
	d := &draws{state: 73}
	apart, turned, together := 0, 0, 0
	for range 300 {
		day := listOf(d, drawnCount(d), nil, d.nearFloat)
		draft, squat, least := d.nearFloat(), d.nearFloat(), d.nearFloat()
		check(day, draft, squat, least)
		check(day, d.anyFloat(), d.anyFloat(), d.anyFloat())
		for _, depth := range day {
			// A depth that is just least, and one that is just below it.
			just := add(add(depth, -draft), -squat)
			check(floats{depth}, draft, squat, just)
			check(floats{depth}, draft, squat, justBelow(just))
			check(floats{depth}, draft, squat, -justBelow(-just))
			apart++
			if add(add(depth, -squat), -draft) != just {
				turned++
			}
			if add(depth, -add(draft, squat)) != just {
				together++
			}
		}
	}
	if apart == 0 || turned == 0 || together == 0 {
		t.Error("no depth hangs on the order", apart, turned, together)
	}
}

// Water under the keel is there just at the minutes of the windows, where
// nothing is rounded.
func TestUnderKeelAndWindowsAgree(t *testing.T) {
	d := &draws{state: 74}
	for range 300 {
		depths := drawnSteps(d)
		draft, squat, least := d.below(3), d.below(2), d.below(3)
		need := float64(draft + squat + least)
		marks := inWindows(t, impl.WindowsOf(depths, need), len(depths))
		if got := impl.UnderKeel(depths, float64(draft), float64(squat), float64(least)); !slices.Equal(got, marks) {
			t.Fatal(depths, draft, squat, least, got)
		}
	}
}
