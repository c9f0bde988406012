package tests

import (
	"math"
	"slices"

	"loop.example/g00059/impl"
)

type floats = []float64

type windows = []impl.Window

func harmonic(start, turn impl.Wave) impl.Harmonic { return impl.Harmonic{Start: start, Turn: turn} }

// still is a harmonic that does not turn.
func still(height float64) impl.Harmonic { return harmonic(wave(height, 0), wave(1, 0)) }

func window(from, to int) impl.Window { return impl.Window{From: from, To: to} }

func sameFloats(a, b []float64) bool { return slices.EqualFunc(a, b, same) }

func justBelow(n float64) float64 { return math.Nextafter(n, -infinite) }

// tideDay goes through each harmonic by itself, and then adds what they tell.
func (r *reckoner) tideDay(mean float64, list []impl.Harmonic, minutes int) ([]float64, bool) {
	if len(list) > 8 || minutes < 0 || minutes > 1500 {
		return nil, false
	}
	day := slices.Repeat([]float64{mean}, minutes)
	for _, h := range list {
		phase := h.Start
		for m := range day {
			day[m] = add(day[m], phase.Re)
			phase = r.times(phase, h.Turn)
		}
	}
	return day, true
}

// windowsOf tells the minutes that begin a row and those that end one apart.
func windowsOf(depths []float64, need float64) []impl.Window {
	if len(depths) > 1500 {
		return nil
	}
	isDeep := func(m int) bool { return m >= 0 && m < len(depths) && depths[m] >= need }
	var froms, tos []int
	for m := range depths {
		if isDeep(m) && !isDeep(m-1) {
			froms = append(froms, m)
		}
		if isDeep(m) && !isDeep(m+1) {
			tos = append(tos, m)
		}
	}
	var list []impl.Window
	for i := range froms {
		list = append(list, window(froms[i], tos[i]))
	}
	return list
}

// windowFor tries each minute that a day may have.
func windowFor(list []impl.Window, from, many int) (int, bool) {
	for m := from; m < 1500; m++ {
		for _, w := range list {
			if w.From <= m && m+many-1 <= w.To {
				return m, true
			}
		}
	}
	return -1, false
}

func highLow(day []float64) []int {
	if len(day) > 1500 {
		return nil
	}
	var told []int
	for m := 1; m < len(day)-1; m++ {
		ahead, now, next := day[m-1], day[m], day[m+1]
		switch {
		case now > ahead:
			if now < next {
				continue
			}
		case now < ahead:
			if now > next {
				continue
			}
		default:
			continue
		}
		told = append(told, m)
	}
	return told
}

func squat(speed, block, width, depth float64) (float64, bool) {
	for _, n := range []float64{speed, block, width, depth} {
		if math.IsNaN(n) || math.IsInf(n, 0) || n < 0 {
			return 0, false
		}
	}
	if depth == 0 {
		return 0, false
	}
	return div(mul(mul(mul(speed, speed), block), add(1, div(width, depth))), 100), true
}

func underKeel(depths []float64, draft, squat, least float64) []bool {
	if len(depths) > 1500 {
		return nil
	}
	var told []bool
	for _, depth := range depths {
		told = append(told, add(add(depth, -draft), -squat) >= least)
	}
	return told
}

// drawnCount is often at an end of what a day may have.
func drawnCount(d *draws) int {
	return []int{0, 1, 2, 3, d.below(20), d.below(impl.MaxDay + 1), impl.MaxDay - 1, impl.MaxDay}[d.below(8)]
}

// drawnSteps has few heights, so that many are alike; sometimes one is a NaN.
func drawnSteps(d *draws) []float64 {
	list := make([]float64, drawnCount(d))
	kinds := d.between(1, 6)
	for m := range list {
		list[m] = float64(d.below(kinds))
		if kinds == 6 && d.below(5) == 0 {
			list[m] = none
		}
	}
	return list
}

// drawnDay rises and falls.
func drawnDay(d *draws) []float64 {
	day, _ := impl.TideDay(d.nearFloat(), drawnHarmonics(d), drawnCount(d))
	return day
}

func drawnHarmonics(d *draws) []impl.Harmonic {
	turns := []impl.Wave{wave(0.6, 0.8), wave(0.96, -0.28), wave(0, 1), wave(-1, 0), wave(1, 0), wave(1-0x1p-10, 0x1p-5)}
	var list []impl.Harmonic
	for range []int{0, 1, 2, impl.MaxTides, d.below(impl.MaxTides + 1)}[d.below(5)] {
		list = append(list, harmonic(d.nearWave(), turns[d.below(len(turns))]))
	}
	return list
}

// drawnWindows lie in a day, some of them one minute apart, some one minute
// long; sometimes the last one ends where the day does.
func drawnWindows(d *draws) []impl.Window {
	var list []impl.Window
	length := []int{1, 3, 30, 300}[d.below(4)]
	from := d.below(2) * d.below(length)
	for range d.below(12) {
		to := from + d.below(length)
		if to >= impl.MaxDay {
			break
		}
		list = append(list, window(from, to))
		from = to + 2 + d.below(2)*d.below(length)
	}
	if len(list) > 0 && d.below(3) == 0 {
		list[len(list)-1].To = impl.MaxDay - 1
	}
	return list
}
