package tests

import (
	"math"
	"reflect"
	"slices"
	"testing"

	"loop.example/g00059/impl"
)

func TestHullConstants(t *testing.T) {
	got := []int{impl.MaxMinute, impl.MaxStations, impl.MaxWaters, impl.MaxHalf}
	if !slices.Equal(got, []int{100000000, 12, 10, 50}) {
		t.Error("constants", got)
	}
}

func TestHullOkAtLimits(t *testing.T) {
	for i, h := range someHulls() {
		if !impl.HullOk(h) {
			t.Error("a right hull is refused", i, h)
		}
	}
	for _, step := range []int{1, 100} {
		for _, rise := range []int{1, 20} {
			for _, half := range []int{0, impl.MaxHalf} {
				if !impl.HullOk(box(3, 3, step, rise, half)) {
					t.Error("a limit met exactly is refused", step, rise, half)
				}
			}
		}
	}
	for stations := 0; stations <= impl.MaxStations+3; stations++ {
		for waters := 0; waters <= impl.MaxWaters+3; waters++ {
			want := stations >= 2 && stations <= 12 && waters >= 2 && waters <= 10
			if impl.HullOk(box(stations, waters, 1, 1, 1)) != want {
				t.Error("sizes", stations, waters)
			}
		}
	}
}

func TestHullOkOfWrongHulls(t *testing.T) {
	for name, h := range wrongHulls() {
		if impl.HullOk(h) {
			t.Error("taken:", name)
		}
	}
}

func TestHullOkLooksAtEachHalfBreadth(t *testing.T) {
	for s := range impl.MaxStations {
		for w := range impl.MaxWaters {
			for _, half := range []int{-1, impl.MaxHalf + 1} {
				h := withHalf(box(impl.MaxStations, impl.MaxWaters, 1, 1, 1), s, w, half)
				if impl.HullOk(h) {
					t.Error("taken:", s, w, half)
				}
			}
		}
	}
}

func TestHullByHand(t *testing.T) {
	h := unlike()
	rows := []struct {
		plane, inertia, volume, height, along int
		strips                                []int
	}{
		{27, 387, 0, 0, 0, []int{0, 0}},
		{42, 834, 138, 276, 882, []int{60, 78}},
		{57, 2163, 336, 1464, 2124, []int{150, 186}},
	}
	for w, want := range rows {
		if got := impl.Plane(h, w); got != want.plane {
			t.Error("Plane", w, got)
		}
		if got := impl.Inertia3(h, w); got != want.inertia {
			t.Error("Inertia3", w, got)
		}
		if got := impl.Strips2(h, w); !slices.Equal(got, want.strips) {
			t.Error("Strips2", w, got)
		}
		if got := impl.Volume2(h, w); got != want.volume {
			t.Error("Volume2", w, got)
		}
		if got := impl.Height4(h, w); got != want.height {
			t.Error("Height4", w, got)
		}
		if got := impl.Along4(h, w); got != want.along {
			t.Error("Along4", w, got)
		}
	}
	want := impl.Hull{Step: 3, Rise: 2, Half: [][]int{{1, 3, 3}, {4, 5, 7}, {0, 1, 2}}}
	if got := impl.Mirror(h); !reflect.DeepEqual(got, want) {
		t.Error("Mirror", got)
	}
}

// A box has closed forms, also where all limits are met at once.
func TestHullBoxes(t *testing.T) {
	for _, stations := range []int{2, 7, impl.MaxStations} {
		for _, waters := range []int{2, 5, impl.MaxWaters} {
			for _, half := range []int{0, 1, impl.MaxHalf} {
				checkBox(t, stations, waters, 1, 1, half)
				checkBox(t, stations, waters, 100, 20, half)
			}
		}
	}
}

func checkBox(t *testing.T, stations, waters, step, rise, half int) {
	t.Helper()
	h := box(stations, waters, step, rise, half)
	strips := stations - 1
	plane := 2 * half * step * strips
	for w := range waters {
		strip := 4 * half * step * rise * w
		if got := impl.Plane(h, w); got != plane {
			t.Error("Plane", h, w, got)
		}
		if got := impl.Inertia3(h, w); got != plane*half*half {
			t.Error("Inertia3", h, w, got)
		}
		if got := impl.Strips2(h, w); !slices.Equal(got, slices.Repeat([]int{strip}, strips)) {
			t.Error("Strips2", h, w, got)
		}
		if got := impl.Volume2(h, w); got != strip*strips {
			t.Error("Volume2", h, w, got)
		}
		if got := impl.Height4(h, w); got != 2*plane*rise*rise*w*w {
			t.Error("Height4", h, w, got)
		}
		if got := impl.Along4(h, w); got != strip*step*strips*strips {
			t.Error("Along4", h, w, got)
		}
	}
}

func TestHullAnswersByEachOther(t *testing.T) {
	for _, h := range someHulls() {
		volume, height := 0, 0
		for w := range h.Half[0] {
			if w > 0 {
				layer := h.Rise * (impl.Plane(h, w-1) + impl.Plane(h, w))
				volume += layer
				height += layer * h.Rise * (2*w - 1)
			}
			if impl.Volume2(h, w) != volume || impl.Height4(h, w) != height {
				t.Error("layers are not the whole", h, w)
			}
			along := 0
			for s, strip := range impl.Strips2(h, w) {
				along += strip * h.Step * (2*s + 1)
			}
			if impl.Along4(h, w) != along {
				t.Error("Along4", h, w)
			}
		}
	}
}

// Promise 1.
func TestHullVolumeNeverLessHigherUp(t *testing.T) {
	for _, h := range someHulls() {
		if impl.Volume2(h, 0) != 0 {
			t.Error("the lowest water line has volume", h)
		}
		for w := 1; w < len(h.Half[0]); w++ {
			if impl.Volume2(h, w) < impl.Volume2(h, w-1) {
				t.Error("less volume higher up", h, w)
			}
		}
	}
}

// Promise 1.
func TestHullStripsAreTheWhole(t *testing.T) {
	for _, h := range someHulls() {
		for w := range h.Half[0] {
			strips := impl.Strips2(h, w)
			if len(strips) != len(h.Half)-1 {
				t.Fatal("how many strips", h, w, strips)
			}
			sum := 0
			for s, strip := range strips {
				alone := impl.Hull{Step: h.Step, Rise: h.Rise, Half: h.Half[s : s+2]}
				if impl.Volume2(alone, w) != strip {
					t.Error("a strip is not the volume between its stations", h, w, s)
				}
				sum += strip
			}
			if impl.Volume2(h, w) != sum {
				t.Error("strips are not the whole", h, w)
			}
		}
	}
}

// Promise 1.
func TestHullMirrored(t *testing.T) {
	for _, h := range someHulls() {
		m := impl.Mirror(h)
		if !impl.HullOk(m) || !reflect.DeepEqual(impl.Mirror(m), h) {
			t.Fatal("mirrored twice", h, m)
		}
		length := h.Step * (len(h.Half) - 1)
		for w := range h.Half[0] {
			if impl.Plane(m, w) != impl.Plane(h, w) || impl.Inertia3(m, w) != impl.Inertia3(h, w) {
				t.Error("areas", h, w)
			}
			if impl.Volume2(m, w) != impl.Volume2(h, w) || impl.Height4(m, w) != impl.Height4(h, w) {
				t.Error("volumes", h, w)
			}
			strips := impl.Strips2(h, w)
			slices.Reverse(strips)
			if !slices.Equal(impl.Strips2(m, w), strips) {
				t.Error("strips", h, w)
			}
			if impl.Along4(m, w) != 2*length*impl.Volume2(h, w)-impl.Along4(h, w) {
				t.Error("moments from the other end", h, w)
			}
		}
	}
}

func TestAfloatByHand(t *testing.T) {
	keel := impl.Hull{Step: 1, Rise: 1, Half: [][]int{{0, 0, 0, 5}, {0, 0, 0, 5}}}
	roof := impl.Hull{Step: 1, Rise: 1, Half: [][]int{{5, 0, 0, 0}, {5, 0, 0, 0}}}
	greatest := box(impl.MaxStations, impl.MaxWaters, 100, 20, impl.MaxHalf)
	nothing := box(2, 2, 1, 1, 0)
	rows := []struct {
		name   string
		h      impl.Hull
		volume int
		want   int
	}{
		{"nothing to bear", unlike(), 0, 0},
		{"the least volume", unlike(), 1, 1},
		{"just the first layer", unlike(), 69, 1},
		{"one more than that", unlike(), 70, 2},
		{"just the whole hull", unlike(), 168, 2},
		{"one more than the whole hull", unlike(), 169, -1},
		{"below 0", unlike(), -1, -1},
		{"the most that may be asked", unlike(), 1000000000, -1},
		{"one more than that", unlike(), 1000000001, -1},
		{"what wraps round when doubled, to 0", unlike(), math.MinInt, -1},
		{"what wraps round when doubled, below 0", unlike(), math.MaxInt, -1},
		{"what wraps round when doubled, to little", unlike(), math.MinInt + 1, -1},
		{"half of all numbers", unlike(), 1 << 62, -1},
		{"layers without volume, nothing to bear", keel, 0, 0},
		{"layers without volume", keel, 1, 3},
		{"layers without volume, all", keel, 5, 3},
		{"layers without volume, more", keel, 6, -1},
		{"the least of several water lines", roof, 5, 1},
		{"no volume, nothing to bear", nothing, 0, 0},
		{"no volume", nothing, 1, -1},
		{"the greatest hull", greatest, 19800000, 9},
		{"the greatest hull but one layer", greatest, 17600000, 8},
		{"one more than that", greatest, 17600001, 9},
		{"more than the greatest hull", greatest, 19800001, -1},
		{"far more than the greatest hull", greatest, 1000000000, -1},
	}
	for _, r := range rows {
		if got := impl.Afloat(r.h, r.volume); got != r.want {
			t.Error(r.name, r.volume, got, "wanted", r.want)
		}
	}
}

func TestAfloatIsLeast(t *testing.T) {
	for _, h := range someHulls() {
		for w := range h.Half[0] {
			half := impl.Volume2(h, w) / 2
			for _, volume := range []int{half - 1, half, half + 1} {
				if got, want := impl.Afloat(h, volume), leastWater(h, volume); got != want {
					t.Error(h, volume, got, want)
				}
			}
		}
	}
}

func leastWater(h impl.Hull, volume int) int {
	for w := range h.Half[0] {
		if volume >= 0 && impl.Volume2(h, w) >= 2*volume {
			return w
		}
	}
	return -1
}
