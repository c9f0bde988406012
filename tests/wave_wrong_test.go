package tests

import (
	"fmt"
	"math"
	"slices"
	"testing"

	"loop.example/g00059/impl"
)

// Promise 24: each function of waves answers, and a wrong input has one fixed
// answer, of which each 0 is +0.

func notFinite() []float64 {
	return []float64{infinite, -infinite, none, math.Float64frombits(0x7ff0000000000001), math.Float64frombits(0xffffffffffffffff)}
}

func checkNotOver(t *testing.T, a, b impl.Wave) {
	t.Helper()
	if got, ok := impl.Over(a, b); ok || !sameWave(got, impl.Wave{}) {
		t.Error("Over", a, b, got, ok)
	}
}

func TestOverOfPartsThatAreNotFinite(t *testing.T) {
	for _, wrong := range notFinite() {
		for _, right := range []impl.Wave{wave(1, 2), wave(2, 1), wave(1, 1), wave(greatest64, least64)} {
			for _, other := range append(edgeFloats(), 5) {
				checkNotOver(t, wave(wrong, other), right)
				checkNotOver(t, wave(other, wrong), right)
				checkNotOver(t, right, wave(wrong, other))
				checkNotOver(t, right, wave(other, wrong))
			}
		}
	}
}

func TestOverOfNothing(t *testing.T) {
	for _, re := range []float64{0, minus0} {
		for _, im := range []float64{0, minus0} {
			for _, a := range wavesOf(edgeFloats()) {
				checkNotOver(t, a, wave(re, im))
			}
		}
	}
	// With one part alone 0, of either sign, it is a number.
	for _, zero := range []float64{0, minus0} {
		for _, n := range []float64{1, -1, least64, -least64, greatest64} {
			for _, b := range []impl.Wave{wave(n, zero), wave(zero, n)} {
				if got, ok := impl.Over(b, b); !ok || !impl.Alike(got, wave(1, 0)) {
					t.Error(b, got, ok)
				}
			}
		}
	}
}

func TestRepliesThatAreNone(t *testing.T) {
	list := [][2]float64{
		// Both parts of what is divided by are 0.
		{1, 0}, {-1, 0}, {1, minus0}, {-1, minus0}, {1 + 0x1p-53, 0},
		// A square, or a product, is too great: 2 damp comes ahead of ratio.
		{0x1p512, 0}, {-0x1p512, 1}, {greatest64, least64}, {0x1p-10, greatest64}, {0, greatest64}, {0x1p10, 0x1p1020}, {2, -0x1p1022},
	}
	for _, wrong := range notFinite() {
		list = append(list, [2]float64{wrong, 0}, [2]float64{wrong, 1}, [2]float64{0, wrong}, [2]float64{2, wrong}, [2]float64{wrong, wrong})
	}
	for _, c := range list {
		if got, ok := impl.Reply(c[0], c[1]); ok || !sameWave(got, impl.Wave{}) {
			t.Error(c, got, ok)
		}
	}
	for _, c := range [][2]float64{{0x1p511, 0}, {0x1p-10, greatest64 / 2}, {0, greatest64 / 2}, {1, least64}, {1 + 0x1p-52, 0}, {1 - 0x1p-53, 0}, {2, 0x1p1021}} {
		if got, ok := impl.Reply(c[0], c[1]); !ok {
			t.Error(c, got, ok)
		}
	}
}

func TestTooManyParts(t *testing.T) {
	for _, count := range []int{impl.MaxParts + 1, impl.MaxParts + 2, 1000} {
		for _, n := range []float64{1, 0, minus0, none, infinite} {
			amps := slices.Repeat([]float64{n}, count)
			if got, ok := impl.Strip(amps, wave(1, 1)); ok || !sameWave(got, impl.Wave{}) {
				t.Error("Strip", count, n, got, ok)
			}
			replies := slices.Repeat([]impl.Wave{wave(n, 1)}, count)
			if got, ok := impl.Energy(replies, amps, 1); ok || !same(got, 0) {
				t.Error("Energy", count, n, got, ok)
			}
			little, great := impl.Summed(slices.Repeat([]impl.Small{small(float32(n), 1)}, count))
			if !sameSmall(little, impl.Small{}) || !sameWave(great, impl.Wave{}) {
				t.Error("Summed", count, n, little, great)
			}
		}
	}
}

func TestEnergyOfListsThatAreNotAsLong(t *testing.T) {
	for _, c := range [][2]int{{0, 1}, {1, 0}, {1, 2}, {2, 1}, {59, 60}, {60, 59}, {60, 61}, {61, 60}, {0, 60}, {60, 0}, {0, 61}, {61, 0}, {61, 62}} {
		replies, heights := slices.Repeat([]impl.Wave{wave(3, 4)}, c[0]), slices.Repeat([]float64{2}, c[1])
		for _, width := range []float64{1, -1, 0, minus0, none} {
			if got, ok := impl.Energy(replies, heights, width); ok || !same(got, 0) {
				t.Error(c, width, got, ok)
			}
		}
	}
}

// bitsOf tells waves and floats apart that == does not, and NaNs too.
func bitsOf(list any) []uint64 {
	var bits []uint64
	switch list := list.(type) {
	case []float64:
		for _, n := range list {
			bits = append(bits, math.Float64bits(n))
		}
	case []impl.Wave:
		for _, a := range list {
			bits = append(bits, math.Float64bits(a.Re), math.Float64bits(a.Im))
		}
	case []impl.Harmonic:
		for _, h := range list {
			bits = append(bits, bitsOf([]impl.Wave{h.Start, h.Turn})...)
		}
	case []impl.Small:
		for _, a := range list {
			bits = append(bits, uint64(math.Float32bits(a.Re))<<32|uint64(math.Float32bits(a.Im)))
		}
	}
	return bits
}

// checkWaveKept asks of a list with room behind it, and again of the list
// alone. (As texts all NaNs are one, and -0 is not 0.)
func checkWaveKept[T any](t *testing.T, name string, plain []T, behind T, ask func([]T) []any) {
	t.Helper()
	list := spare(plain, behind)
	before := bitsOf(list[:cap(list)])
	got := fmt.Sprint(ask(list))
	if len(before) == 0 || !slices.Equal(bitsOf(list[:cap(list)]), before) {
		t.Fatal(name, "written into", plain)
	}
	if want := fmt.Sprint(ask(plain)); got != want {
		t.Fatal(name, "what lies behind the list is looked at", plain, got, want)
	}
}

// listOf begins with the edges, or what of them there is room for.
func listOf[T any](d *draws, count int, edges []T, draw func() T) []T {
	list := slices.Clone(edges[:min(count, len(edges))])
	for len(list) < count {
		list = append(list, draw())
	}
	return list
}

func strips(turn impl.Wave) func([]float64) []any {
	return func(amps []float64) []any {
		sum, ok := impl.Strip(amps, turn)
		return []any{sum, ok}
	}
}

func sums(list []impl.Small) []any {
	little, great := impl.Summed(list)
	return []any{little, great}
}

func energies(replies []impl.Wave, heights []float64) []any {
	sum, ok := impl.Energy(replies, heights, 0.5)
	return []any{sum, ok}
}

func TestWaveArgumentsAreNotChanged(t *testing.T) {
	d := &draws{state: 51}
	for _, count := range []int{0, 1, 2, 3, 59, 60, 61, 100} {
		amps := listOf(d, count, []float64{minus0, 1, none, infinite}, d.nearFloat)
		calm := listOf(d, count, nil, d.nearFloat)
		replies := listOf(d, count, []impl.Wave{wave(minus0, none), wave(-infinite, 1)}, d.nearWave)
		steady := listOf(d, count, nil, d.nearWave)
		for _, behind := range []float64{7, none} {
			checkWaveKept(t, "Strip", amps, behind, strips(wave(0.6, 0.8)))
			checkWaveKept(t, "Strip", calm, behind, strips(wave(0.6, -0.8)))
			checkWaveKept(t, "Summed", listOf(d, count, edgeSmalls()[:2], d.anySmall), small(float32(behind), 1), sums)
			checkWaveKept(t, "Summed", listOf(d, count, nil, d.nearSmall), small(float32(behind), 1), sums)
			for _, heights := range [][]float64{amps, calm, listOf(d, count+1, nil, d.nearFloat)} {
				checkWaveKept(t, "Energy, replies", replies, wave(behind, 2), func(list []impl.Wave) []any { return energies(list, heights) })
				checkWaveKept(t, "Energy, replies", steady, wave(behind, 2), func(list []impl.Wave) []any { return energies(list, heights) })
				checkWaveKept(t, "Energy, heights", heights, behind, func(list []float64) []any { return energies(steady, list) })
			}
		}
	}
}

func TestWaveAnswersAgainAndTogether(t *testing.T) {
	ask := func() string {
		d := &draws{state: 52}
		a, b, ratio := d.nearWave(), d.nearWave(), d.nearFloat()
		quotient, _ := impl.Over(a, b)
		reply, _ := impl.Reply(ratio, 0.1)
		told := []any{impl.Times(a, b), quotient, reply, impl.Little(a), impl.Barred(b), impl.TimesSmall(d.nearSmall(), d.nearSmall())}
		told = append(told, strips(a)(listOf(d, 60, nil, d.nearFloat))...)
		told = append(told, energies(listOf(d, 60, nil, d.nearWave), listOf(d, 60, nil, d.nearFloat))...)
		return fmt.Sprint(append(told, sums(listOf(d, 60, nil, d.nearSmall))...))
	}
	want := ask()
	told := make(chan string)
	for range 8 {
		go func() { told <- ask() }()
	}
	for range 8 {
		if got := <-told; got != want {
			t.Error("answers hang on earlier calls", got, want)
		}
	}
}
