package tests

import (
	"slices"
	"testing"

	"loop.example/g00059/impl"
)

// Promise 4: waves in lists.

func TestStripByHand(t *testing.T) {
	const a, square = 1 + tiny, 1 + 2*tiny
	still := wave(1, 0)
	for _, c := range []struct {
		amps []float64
		turn impl.Wave
		want impl.Wave
	}{
		{nil, wave(0, 1), wave(0, 0)},
		{[]float64{}, wave(none, infinite), wave(0, 0)},
		{[]float64{5}, wave(0, 1), wave(5, 0)},
		{[]float64{5}, wave(none, infinite), wave(5, 0)},
		{[]float64{minus0}, wave(0, 1), wave(0, 0)},
		{[]float64{minus0, minus0}, wave(-1, minus0), wave(0, 0)},
		{[]float64{1, 2, 3}, wave(0, 1), wave(-2, 2)},
		{[]float64{1, 2, 3, 4, 5}, wave(0, -1), wave(3, 2)},
		{[]float64{1, 1, 1}, wave(1, 1), wave(2, 3)},
		{[]float64{1, 10, 100}, wave(2, 0), wave(421, 0)},
		{[]float64{1, 10}, wave(0, 0), wave(1, 0)},
		{[]float64{1, 0}, wave(infinite, 0), wave(none, none)},
		{[]float64{infinite}, still, wave(infinite, none)},
		{[]float64{none, 1}, still, wave(none, none)},
		{[]float64{greatest64, greatest64}, still, wave(infinite, 0)},
		{[]float64{1, 1}, wave(none, 2), wave(none, none)},
		{[]float64{1, 0, 0}, wave(greatest64, greatest64), wave(none, none)},
		// The order counts.
		{[]float64{1e16, 1, -1e16}, still, wave(0, 0)},
		{[]float64{1e16, -1e16, 1}, still, wave(1, 0)},
		{[]float64{1, 1e16, -1e16}, still, wave(0, 0)},
		// The product is rounded ahead of the sum.
		{[]float64{-square, a}, wave(a, 0), wave(0, 0)},
		{[]float64{0, 1, a}, wave(a, 0), wave(a+(1+3*tiny), 0)},
		{[]float64{0, a, -1}, wave(0, a), wave(square, square)},
		// So are those of the phase: its Re is 0 behind two turns.
		{[]float64{0, 0, 0x1p60}, wave(a, a), wave(0, 0x1p61*square)},
	} {
		if got, ok := impl.Strip(c.amps, c.turn); !ok || !sameWave(got, c.want) {
			t.Error(c.amps, c.turn, got, ok)
		}
	}
}

func checkStrip(t *testing.T, amps []float64, turn impl.Wave) {
	t.Helper()
	got, ok := impl.Strip(amps, turn)
	if want, wantOk := new(reckoner).strip(amps, turn); ok != wantOk || !sameWave(got, want) {
		t.Fatal("Strip", amps, turn, got, ok, want, wantOk)
	}
}

func TestManyStrips(t *testing.T) {
	for _, turn := range wavesOf(edgeFloats()) {
		checkStrip(t, []float64{1, -2, 3}, turn)
		checkStrip(t, edgeFloats()[1:3], turn)
		checkStrip(t, edgeFloats(), turn)
	}
	d := &draws{state: 41}
	for range 3000 {
		checkStrip(t, drawnList(d, d.nearFloat), d.nearWave())
		checkStrip(t, drawnList(d, d.nearFloat), wave(0.6, 0.8))
		checkStrip(t, drawnList(d, d.anyFloat), d.nearWave())
		checkStrip(t, drawnList(d, d.anyFloat), d.anyWave())
	}
}

// Each amp has six products: two of the sum, four of the phase. Those of the
// first phase round nothing, and the last two of the second one are alike.
func TestStripFusesNothing(t *testing.T) {
	d, changed := &draws{state: 42}, map[int]int{}
	for range 2000 {
		amps, turn := listOf(d, 4, nil, d.nearFloat), d.nearWave()
		got, _ := impl.Strip(amps, turn)
		for fuse := 1; fuse <= 20; fuse++ {
			if fused, _ := (&reckoner{fuse: fuse}).strip(amps, turn); !sameWave(fused, got) {
				changed[fuse]++
			}
		}
	}
	bites(t, "Strip", changed, 7, 9, 10, 13, 14, 15, 16, 17, 18, 19, 20)
}

func TestStripAtItsLimit(t *testing.T) {
	amps := slices.Repeat([]float64{1}, impl.MaxParts)
	if got, ok := impl.Strip(amps, wave(1, 0)); !ok || !sameWave(got, wave(60, 0)) {
		t.Error(got, ok)
	}
	if got, ok := impl.Strip(amps, wave(-1, 0)); !ok || !sameWave(got, wave(0, 0)) {
		t.Error(got, ok)
	}
	amps[59] = 0x1p-59
	if got, ok := impl.Strip(amps, wave(2, 0)); !ok || !sameWave(got, wave(0x1p59, 0)) {
		t.Error(got, ok)
	}
}

func TestEnergyByHand(t *testing.T) {
	type waves = []impl.Wave
	type floats = []float64
	const a, square = 1 + tiny, 1 + 2*tiny
	for _, c := range []struct {
		replies waves
		heights floats
		width   float64
		want    float64
	}{
		{nil, nil, 1, 0},
		{waves{}, nil, none, 0},
		{nil, floats{}, infinite, 0},
		{waves{wave(3, 4)}, floats{2}, 0.5, 25},
		{waves{wave(-3, -4)}, floats{2}, 0.5, 25},
		{waves{wave(3, 4), wave(1, 0), wave(0, 1)}, floats{1, 10, 100}, 2, 270},
		{waves{wave(3, 4)}, floats{-2}, 0.5, -25},
		{waves{wave(3, 4)}, floats{minus0}, 0.5, 0},
		{waves{wave(0, 0)}, floats{-1}, 1, 0},
		{waves{wave(1, 0)}, floats{1}, none, none},
		{waves{wave(1, none)}, floats{1}, 1, none},
		{waves{wave(none, 1)}, floats{0}, 1, none},
		{waves{wave(1, 1)}, floats{none}, 0, none},
		{waves{wave(infinite, -infinite)}, floats{1}, 1, infinite},
		{waves{wave(infinite, 0)}, floats{0}, 1, none},
		{waves{wave(1e200, 0)}, floats{1e-300}, 1, infinite},
		{waves{wave(least64, least64)}, floats{greatest64}, greatest64, 0},
		{waves{wave(greatest64, 0), wave(0, greatest64)}, floats{1, -1}, 1, none},
		// From the left: the height comes ahead of the width.
		{waves{wave(0x1p500, 0)}, floats{0x1p-1000}, 0x1p1000, 0x1p1000},
		{waves{wave(0x1p500, 0)}, floats{0x1p1000}, 0x1p-1000, infinite},
		{waves{wave(0x1p-500, 0)}, floats{0x1p1000}, 0x1p1000, 0x1p1000},
		{waves{wave(0x1p-500, 0)}, floats{0x1p-500}, 0x1p500, 0},
		// The order counts.
		{waves{wave(1, 0), wave(1, 0), wave(1, 0)}, floats{1e16, 1, -1e16}, 1, 0},
		{waves{wave(1, 0), wave(1, 0), wave(1, 0)}, floats{1e16, -1e16, 1}, 1, 1},
		// Each product is rounded by itself: both squares, and what is added.
		{waves{wave(1, 0), wave(a, 0)}, floats{-square, 1}, 1, 0},
		{waves{wave(1, 0), wave(0, a)}, floats{-square, 1}, 1, 0},
		{waves{wave(1, 0), wave(1, 0)}, floats{-square, a}, 1, -tiny},
		{waves{wave(1, 0), wave(1, 0)}, floats{-a, a}, a, 0},
		{waves{wave(0x1p-10, 1)}, floats{1}, 1, 1 + 0x1p-20},
	} {
		if got, ok := impl.Energy(c.replies, c.heights, c.width); !ok || !same(got, c.want) {
			t.Error(c.replies, c.heights, c.width, got, ok, c.want)
		}
	}
}

func checkEnergy(t *testing.T, replies []impl.Wave, heights []float64, width float64) {
	t.Helper()
	got, ok := impl.Energy(replies, heights, width)
	if want, wantOk := new(reckoner).energy(replies, heights, width); ok != wantOk || !same(got, want) {
		t.Fatal("Energy", replies, heights, width, got, ok, want, wantOk)
	}
}

func TestManyEnergies(t *testing.T) {
	for _, reply := range wavesOf(edgeFloats()) {
		for _, n := range edgeFloats() {
			checkEnergy(t, []impl.Wave{reply}, []float64{n}, 1)
			checkEnergy(t, []impl.Wave{reply, wave(3, 4)}, []float64{1, 2}, n)
		}
	}
	d := &draws{state: 43}
	for range 5000 {
		heights := drawnList(d, d.nearFloat)
		near, wild := make([]impl.Wave, len(heights)), make([]impl.Wave, len(heights))
		for i := range heights {
			near[i], wild[i] = d.nearWave(), d.anyWave()
		}
		checkEnergy(t, near, heights, d.nearFloat())
		checkEnergy(t, near, heights, d.anyFloat())
		checkEnergy(t, wild, heights, d.nearFloat())
		checkEnergy(t, near, drawnList(d, d.anyFloat), d.nearFloat())
	}
}

// Each reply has three products. The last one of the first goes into a sum from
// 0 on, and so rounds nothing.
func TestEnergyFusesNothing(t *testing.T) {
	d, changed := &draws{state: 44}, map[int]int{}
	for range 2000 {
		replies, heights := []impl.Wave{d.nearWave(), d.nearWave()}, []float64{d.nearFloat(), d.nearFloat()}
		width := d.nearFloat()
		got, _ := impl.Energy(replies, heights, width)
		for fuse := 1; fuse <= 6; fuse++ {
			if fused, _ := (&reckoner{fuse: fuse}).energy(replies, heights, width); !same(fused, got) {
				changed[fuse]++
			}
		}
	}
	bites(t, "Energy", changed, 1, 2, 4, 5, 6)
}

func TestEnergyAtItsLimit(t *testing.T) {
	replies, heights := slices.Repeat([]impl.Wave{wave(0, 1)}, impl.MaxParts), slices.Repeat([]float64{2}, impl.MaxParts)
	heights[59] = 1000
	if got, ok := impl.Energy(replies, heights, 0.5); !ok || got != 559 {
		t.Error(got, ok)
	}
}

func TestSummedByHand(t *testing.T) {
	inf, minus, nan := float32(infinite), float32(minus0), float32(none)
	type smalls = []impl.Small
	for _, c := range []struct {
		list   smalls
		little impl.Small
		great  impl.Wave
	}{
		{nil, small(0, 0), wave(0, 0)},
		{smalls{}, small(0, 0), wave(0, 0)},
		{smalls{small(1.5, 0), small(0, 2)}, small(1.5, 2), wave(1.5, 2)},
		{smalls{small(minus, minus)}, small(0, 0), wave(0, 0)},
		{smalls{small(minus, 1), small(minus, -1)}, small(0, 0), wave(0, 0)},
		{smalls{small(0.1, -0.1)}, small(0.1, -0.1), wave(0x1.99999ap-4, -0x1.99999ap-4)},
		{smalls{small(0.1, 0.2), small(0.2, 0.1)}, small(0x1.333334p-2, 0x1.333334p-2), wave(0x1.3333338p-2, 0x1.3333338p-2)},
		// The order counts, and the size.
		{smalls{small(0x1p24, 1), small(1, 0x1p24), small(-0x1p24, -0x1p24)}, small(0, 0), wave(1, 1)},
		{smalls{small(0x1p24, 1), small(-0x1p24, 0x1p24), small(1, 1)}, small(1, 0x1p24), wave(1, 0x1p24+2)},
		{smalls{small(0x1p60, 1), small(1, 0x1p60), small(-0x1p60, -0x1p60)}, small(0, 0), wave(0, 0)},
		{smalls{small(greatest32, -greatest32), small(greatest32, -greatest32)}, small(inf, -inf), wave(2*greatest32, -2*greatest32)},
		{smalls{small(greatest32, 1), small(greatest32, 1), small(-greatest32, 1)}, small(inf, 3), wave(greatest32, 3)},
		{smalls{small(least32, least32), small(-least32, least32)}, small(0, 2*least32), wave(0, 0x1p-148)},
		{smalls{small(inf, 1), small(-inf, nan)}, small(nan, nan), wave(none, none)},
		{smalls{small(inf, 1), small(5, 1)}, small(inf, 2), wave(infinite, 2)},
	} {
		if little, great := impl.Summed(c.list); !sameSmall(little, c.little) || !sameWave(great, c.great) {
			t.Error(c.list, little, great)
		}
	}
}

func checkSummed(t *testing.T, list []impl.Small) {
	t.Helper()
	little, great := impl.Summed(list)
	if wantLittle, wantGreat := summed(list); !sameSmall(little, wantLittle) || !sameWave(great, wantGreat) {
		t.Fatal("Summed", list, little, great, wantLittle, wantGreat)
	}
}

func TestManySums(t *testing.T) {
	for _, a := range edgeSmalls() {
		for _, b := range edgeSmalls() {
			checkSummed(t, []impl.Small{a, b})
		}
	}
	d := &draws{state: 45}
	for range 5000 {
		checkSummed(t, drawnList(d, d.nearSmall))
		checkSummed(t, drawnList(d, d.anySmall))
	}
}

// Sums of whole numbers that float32 has all are the same in both sizes, in
// whatever order.
func TestWholeNumbersHaveTheSameSumsInBothSizes(t *testing.T) {
	const most = 1 << 24 / impl.MaxParts
	check := func(list []impl.Small) {
		re, im := 0, 0
		for _, a := range list {
			re, im = re+int(a.Re), im+int(a.Im)
		}
		little, great := impl.Summed(list)
		if little != small(float32(re), float32(im)) || great != wave(float64(re), float64(im)) || impl.Great(little) != great {
			t.Fatal(list, little, great)
		}
	}
	check(slices.Repeat([]impl.Small{small(most, -most)}, impl.MaxParts))
	d := &draws{state: 46}
	for range 3000 {
		list := drawnList(d, func() impl.Small { return small(float32(d.between(-most, most)), float32(d.between(-most, most))) })
		check(list)
		slices.Reverse(list)
		check(list)
	}
}
