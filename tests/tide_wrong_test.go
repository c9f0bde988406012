package tests

import (
	"fmt"
	"maps"
	"math"
	"slices"
	"testing"

	"loop.example/g00059/impl"
)

// Promise 24: each function of tides answers, and a wrong input has one fixed
// answer, of which each 0 is +0.

func TestTideDaysThatAreNone(t *testing.T) {
	check := func(count, minutes int) {
		for _, h := range []impl.Harmonic{{}, still(1), harmonic(wave(none, infinite), wave(none, 1))} {
			for _, mean := range []float64{0, 7, none, infinite} {
				if got, ok := impl.TideDay(mean, slices.Repeat([]impl.Harmonic{h}, count), minutes); ok || len(got) != 0 {
					t.Error("TideDay", count, minutes, mean, len(got), ok)
				}
			}
		}
	}
	for _, minutes := range []int{-1, -2, 1501, 1502, 3000, math.MinInt, math.MaxInt} {
		for _, count := range []int{0, 1, 8, 9} {
			check(count, minutes)
		}
	}
	for _, count := range []int{9, 10, 100} {
		for _, minutes := range []int{-1, 0, 1, 1500, 1501} {
			check(count, minutes)
		}
	}
}

func TestDaysThatAreTooLong(t *testing.T) {
	for _, count := range []int{1501, 1502, 3000} {
		for _, n := range []float64{0, 5, none, infinite} {
			day := slices.Repeat([]float64{n, 1, 5}, count)[:count]
			if got := impl.Depths(day, 1); len(got) != 0 {
				t.Error("Depths", count, n, len(got))
			}
			if got := impl.WindowsOf(day, 0); len(got) != 0 {
				t.Error("WindowsOf", count, n, len(got))
			}
			if got := impl.HighLow(day); len(got) != 0 {
				t.Error("HighLow", count, n, len(got))
			}
			if got := impl.UnderKeel(day, 0, 0, 0); len(got) != 0 {
				t.Error("UnderKeel", count, n, len(got))
			}
		}
	}
	day := slices.Repeat([]float64{9, 1, 5}, 500)
	if len(impl.Depths(day, 1)) != 1500 || len(impl.WindowsOf(day, 5)) != 501 || len(impl.HighLow(day)) == 0 || len(impl.UnderKeel(day, 0, 0, 0)) != 1500 {
		t.Error("a day of MaxDay minutes is taken")
	}
}

func wrongWindows() map[string][]impl.Window {
	return map[string][]impl.Window{
		"turned about":                  {window(5, 4)},
		"turned about, the second":      {window(0, 9), window(20, 19)},
		"below 0":                       {window(-1, 3)},
		"below 0, both":                 {window(-5, -3)},
		"behind the day":                {window(0, 1500)},
		"begins behind the day":         {window(1500, 1500)},
		"the last behind the day":       {window(0, 9), window(1490, 1500)},
		"far behind the day":            {window(0, 9), window(3000, 4000)},
		"touching":                      {window(0, 9), window(10, 19)},
		"one minute in both":            {window(0, 9), window(9, 19)},
		"one within another":            {window(0, 9), window(3, 5)},
		"twice":                         {window(0, 9), window(0, 9)},
		"in the wrong order":            {window(20, 29), window(0, 9)},
		"the third touches":             {window(0, 9), window(11, 19), window(20, 29)},
		"the third is turned about":     {window(0, 9), window(11, 19), window(29, 21)},
		"least numbers":                 {window(math.MinInt, math.MinInt)},
		"greatest numbers":              {window(math.MaxInt, math.MaxInt)},
		"from the least":                {window(math.MinInt, 9)},
		"to the greatest":               {window(0, math.MaxInt)},
		"a greatest To, then another":   {window(0, math.MaxInt), window(5, 9)},
		"a greatest To, then the least": {window(0, math.MaxInt), window(math.MinInt, 9)},
		"turned about at both ends":     {window(math.MaxInt, math.MinInt)},
		"a least To":                    {window(0, math.MinInt), window(2, 9)},
	}
}

func checkNoStay(t *testing.T, name string, list []impl.Window, from, many int) {
	t.Helper()
	if got, ok := impl.WindowFor(list, from, many); got != -1 || ok {
		t.Error("WindowFor", name, from, many, got, ok)
	}
}

func TestStaysThatAreNotSo(t *testing.T) {
	for name, list := range wrongWindows() {
		for _, from := range []int{0, 1, 3, 20, 1499, 1500} {
			for _, many := range []int{1, 2, 1500} {
				checkNoStay(t, name, list, from, many)
			}
		}
	}
	whole := []impl.Window{window(0, 1499)}
	for _, list := range [][]impl.Window{nil, whole, {window(0, 5), window(7, 9)}} {
		for _, from := range []int{-1, -1500, 1501, math.MinInt, math.MaxInt} {
			for _, many := range []int{1, 2, 1500, 0, math.MaxInt} {
				checkNoStay(t, "from", list, from, many)
			}
		}
		for _, many := range []int{0, -1, -1500, 1501, math.MinInt, math.MaxInt} {
			for _, from := range []int{0, 1, 1499, 1500, math.MaxInt} {
				checkNoStay(t, "many", list, from, many)
			}
		}
	}
	// Where nothing is wrong, the first of them is taken.
	if got, ok := impl.WindowFor([]impl.Window{window(0, 9), window(11, 19)}, 0, 1); got != 0 || !ok {
		t.Error(got, ok)
	}
}

func TestSquatsThatAreNone(t *testing.T) {
	wrong := append(notFinite(), -1, -least64, -greatest64)
	for place := range 4 {
		for _, n := range wrong {
			for _, others := range []float64{0, 1, 7, none} {
				list := slices.Repeat([]float64{others}, 4)
				list[place] = n
				if got, ok := impl.Squat(list[0], list[1], list[2], list[3]); ok || !same(got, 0) {
					t.Error(list, got, ok)
				}
			}
		}
	}
	for _, depth := range []float64{0, minus0} {
		for _, n := range []float64{0, minus0, 1, greatest64} {
			if got, ok := impl.Squat(n, n, n, depth); ok || !same(got, 0) {
				t.Error(n, depth, got, ok)
			}
		}
	}
	// A 0 of either sign is not below 0, and the least depth is not 0.
	for place := range 3 {
		for _, zero := range []float64{0, minus0} {
			list := []float64{1, 1, 1}
			list[place] = zero
			if _, ok := impl.Squat(list[0], list[1], list[2], least64); !ok {
				t.Error(list)
			}
		}
	}
}

func daysOfAllKinds(d *draws) [][]float64 {
	var list [][]float64
	for _, count := range []int{0, 1, 2, 3, 7, 1499, 1500, 1501} {
		list = append(list, listOf(d, count, []float64{minus0, none, 3, none, 3, infinite}, d.nearFloat))
		list = append(list, listOf(d, count, nil, func() float64 { return float64(d.below(3)) }))
	}
	return list
}

func allOfDay(day []float64) []any {
	return []any{impl.Depths(day, 0.5), impl.WindowsOf(day, 1), impl.HighLow(day), impl.UnderKeel(day, 0.5, 0.25, 1)}
}

func TestTideArgumentsAreNotChanged(t *testing.T) {
	d := &draws{state: 81}
	for _, day := range daysOfAllKinds(d) {
		for _, behind := range []float64{2, -2, none} {
			checkWaveKept(t, "day", day, behind, allOfDay)
		}
	}
	for _, count := range []int{0, 1, 2, 7, 8, 9} {
		list := listOf(d, count, []impl.Harmonic{harmonic(wave(minus0, none), wave(1, 0))}, func() impl.Harmonic {
			return harmonic(d.nearWave(), d.nearWave())
		})
		for _, minutes := range []int{-1, 0, 1, 5, 1500} {
			checkWaveKept(t, "harmonics", list, still(7), func(list []impl.Harmonic) []any {
				day, ok := impl.TideDay(3, list, minutes)
				return []any{day, ok}
			})
		}
	}
	lists := append(slices.Collect(maps.Values(wrongWindows())), nil, []impl.Window{window(0, 5)}, []impl.Window{window(3, 5), window(7, 9)})
	for _, list := range lists {
		for _, behind := range []impl.Window{window(20, 40), window(9, 0)} {
			checkKept(t, list, behind, func(list []impl.Window) []any {
				begin, ok := impl.WindowFor(list, 4, 3)
				return []any{begin, ok}
			})
		}
	}
}

// checkTideNew asks a function of a list that has room behind it, whose answer
// is written over.
func checkTideNew[A, T any](t *testing.T, name string, plain []A, behind A, ask func([]A) []T) {
	t.Helper()
	list := spare(plain, behind)
	before := fmt.Sprint(list[:cap(list)])
	earlier, got := ask(list), ask(list)
	want := fmt.Sprint(got)
	clear(got[:cap(got)])
	if fmt.Sprint(list[:cap(list)]) != before {
		t.Fatal(name, "shares memory with its list", plain)
	}
	if fmt.Sprint(earlier) != want || fmt.Sprint(ask(list)) != want {
		t.Fatal(name, "shares memory with another answer", plain)
	}
	clear(list[:cap(list)])
	if fmt.Sprint(earlier) != want {
		t.Fatal(name, "keeps the memory of its list", plain)
	}
}

func TestTideAnswersAreNewMemory(t *testing.T) {
	d := &draws{state: 82}
	for _, day := range daysOfAllKinds(d) {
		checkTideNew(t, "Depths", day, 9, func(day []float64) []float64 { return impl.Depths(day, 0) })
		checkTideNew(t, "WindowsOf", day, 9, func(day []float64) []impl.Window { return impl.WindowsOf(day, 1) })
		checkTideNew(t, "HighLow", day, 9, impl.HighLow)
		checkTideNew(t, "UnderKeel", day, 9, func(day []float64) []bool { return impl.UnderKeel(day, 0, 0, 1) })
	}
	for _, count := range []int{0, 1, 8, 9} {
		list := listOf(d, count, nil, func() impl.Harmonic { return harmonic(d.nearWave(), wave(0.6, 0.8)) })
		for _, minutes := range []int{0, 1, 1500} {
			checkTideNew(t, "TideDay", list, still(9), func(list []impl.Harmonic) []float64 {
				return first(impl.TideDay(3, list, minutes))
			})
		}
	}
}

func TestTideAnswersAgainAndTogether(t *testing.T) {
	ask := func() string {
		d := &draws{state: 83}
		list := listOf(d, 8, nil, func() impl.Harmonic { return harmonic(d.nearWave(), wave(0.6, 0.8)) })
		day, _ := impl.TideDay(3, list, 1500)
		found, _ := impl.WindowFor(impl.WindowsOf(day, 1), 3, 2)
		deeper, _ := impl.Squat(3, 0.7, 2, 9)
		return fmt.Sprint(append(allOfDay(day), day, found, deeper))
	}
	want := ask()
	told := make(chan string)
	for range 8 {
		go func() { told <- ask() }()
	}
	for range 8 {
		if got := <-told; got != want {
			t.Error("answers hang on earlier calls", got, want)
		}
	}
}
