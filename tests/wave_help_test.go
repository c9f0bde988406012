package tests

import (
	"math"

	"loop.example/g00059/impl"
)

// Two floats are the same when their bits are, but all NaNs are one.

func same(a, b float64) bool {
	return math.Float64bits(a) == math.Float64bits(b) || math.IsNaN(a) && math.IsNaN(b)
}

func same32(a, b float32) bool {
	return math.Float32bits(a) == math.Float32bits(b) || a != a && b != b
}

func sameWave(a, b impl.Wave) bool { return same(a.Re, b.Re) && same(a.Im, b.Im) }

func sameSmall(a, b impl.Small) bool { return same32(a.Re, b.Re) && same32(a.Im, b.Im) }

func wave(re, im float64) impl.Wave { return impl.Wave{Re: re, Im: im} }

func small(re, im float32) impl.Small { return impl.Small{Re: re, Im: im} }

var (
	minus0   = math.Copysign(0, -1)
	infinite = math.Inf(1)
	none     = math.NaN()
)

const (
	least64    = math.SmallestNonzeroFloat64
	greatest64 = math.MaxFloat64
	least32    = math.SmallestNonzeroFloat32
	greatest32 = math.MaxFloat32
	tooGreat32 = greatest32 + 0x1p103 // halfway to what would be the next one
)

// edgeFloats are the edges of both sizes, and numbers between them.
func edgeFloats() []float64 {
	list := []float64{none}
	for _, n := range []float64{0, least64, 0x1p-1022 - least64, 0x1p-1022, 1e-200, 0x1p-150, least32, 0.1, 1, 1 + 0x1p-52, 3, 0x1p53, greatest32, tooGreat32, 1e200, greatest64, infinite} {
		list = append(list, n, -n)
	}
	return list
}

func wavesOf(list []float64) []impl.Wave {
	var waves []impl.Wave
	for _, re := range list {
		for _, im := range list {
			waves = append(waves, wave(re, im))
		}
	}
	return waves
}

func edgeSmalls() []impl.Small {
	var list []impl.Small
	floats := []float32{float32(none)}
	for _, n := range []float32{0, least32, 0x1p-126 - least32, 0x1p-126, 0.1, 1, 1 + 0x1p-23, 3, 0x1p24, 1e30, greatest32, float32(infinite)} {
		floats = append(floats, n, -n)
	}
	for _, re := range floats {
		for _, im := range floats {
			list = append(list, small(re, im))
		}
	}
	return list
}

// bits tells all 64; those of below alone would leave low ones out.
func (d *draws) bits() uint64 {
	return uint64(d.below(1<<31))<<33 ^ uint64(d.below(1<<31))<<16 ^ uint64(d.below(1<<31))
}

// anyFloat has any bits; nearFloat is near enough to others that a sum of them
// is rounded.
func (d *draws) anyFloat() float64 { return math.Float64frombits(d.bits()) }

func (d *draws) nearFloat() float64 {
	n := 1 + float64(d.bits()>>12)*0x1p-52
	return math.Ldexp(n, d.between(-2, 2)) * float64(d.below(2)*2-1)
}

func (d *draws) anyWave() impl.Wave { return wave(d.anyFloat(), d.anyFloat()) }

func (d *draws) nearWave() impl.Wave { return wave(d.nearFloat(), d.nearFloat()) }

func (d *draws) anySmall() impl.Small {
	return small(math.Float32frombits(uint32(d.bits())), math.Float32frombits(uint32(d.bits())))
}

func (d *draws) nearSmall() impl.Small { return small(float32(d.nearFloat()), float32(d.nearFloat())) }

// drawnList has at most MaxParts, often none, one or as many as may be.
func drawnList[T any](d *draws, draw func() T) []T {
	count := []int{0, 1, 2, impl.MaxParts - 1, impl.MaxParts, d.below(impl.MaxParts + 1)}[d.below(6)]
	var list []T
	for range count {
		list = append(list, draw())
	}
	return list
}

// One operation each, not inlined, so that no machine fuses two of them.

//go:noinline
func mul(a, b float64) float64 { return a * b }

//go:noinline
func add(a, b float64) float64 { return a + b }

//go:noinline
func div(a, b float64) float64 { return a / b }

// reckoner follows the document's words. Of the products that go into a sum it
// fuses one, if asked: the one that is numbered so, from 1 on.
type reckoner struct {
	fuse int
	seen int
}

// plus is z and x y together.
func (r *reckoner) plus(z, x, y float64) float64 {
	r.seen++
	if r.seen == r.fuse {
		return math.FMA(x, y, z)
	}
	return add(z, mul(x, y))
}

// both is x y and v w together.
func (r *reckoner) both(x, y, v, w float64) float64 {
	r.seen += 2
	switch r.fuse {
	case r.seen - 1:
		return math.FMA(x, y, mul(v, w))
	case r.seen:
		return math.FMA(v, w, mul(x, y))
	}
	return add(mul(x, y), mul(v, w))
}

func (r *reckoner) times(a, b impl.Wave) impl.Wave {
	return wave(r.both(a.Re, b.Re, -a.Im, b.Im), r.both(a.Re, b.Im, a.Im, b.Re))
}

func (r *reckoner) over(a, b impl.Wave) (impl.Wave, bool) {
	for _, n := range []float64{a.Re, a.Im, b.Re, b.Im} {
		if math.IsInf(n, 0) || math.IsNaN(n) {
			return impl.Wave{}, false
		}
	}
	if b.Re == 0 && b.Im == 0 {
		return impl.Wave{}, false
	}
	if math.Abs(b.Re) >= math.Abs(b.Im) {
		ratio := div(b.Im, b.Re)
		d := r.plus(b.Re, ratio, b.Im)
		return wave(div(r.plus(a.Re, a.Im, ratio), d), div(r.plus(a.Im, -a.Re, ratio), d)), true
	}
	ratio := div(b.Re, b.Im)
	d := r.plus(b.Im, ratio, b.Re)
	return wave(div(r.plus(a.Im, a.Re, ratio), d), div(r.plus(-a.Re, a.Im, ratio), d)), true
}

func (r *reckoner) reply(ratio, damp float64) (impl.Wave, bool) {
	return r.over(wave(1, 0), wave(r.plus(1, -ratio, ratio), mul(mul(2, damp), ratio)))
}

// dragFused is a reply whose drag, the greater part of what it divides by, is
// fused into d.
func dragFused(ratio, damp float64) impl.Wave {
	stiff, drag := add(1, -mul(ratio, ratio)), mul(mul(2, damp), ratio)
	r := div(stiff, drag)
	d := math.FMA(mul(2, damp), ratio, mul(r, stiff))
	return wave(div(r, d), div(-1, d))
}

func (r *reckoner) strip(amps []float64, turn impl.Wave) (impl.Wave, bool) {
	if len(amps) > 60 {
		return impl.Wave{}, false
	}
	sum, phase := wave(0, 0), wave(1, 0)
	for _, amp := range amps {
		sum.Re = r.plus(sum.Re, amp, phase.Re)
		sum.Im = r.plus(sum.Im, amp, phase.Im)
		phase = r.times(phase, turn)
	}
	return sum, true
}

func (r *reckoner) energy(replies []impl.Wave, heights []float64, width float64) (float64, bool) {
	if len(replies) != len(heights) || len(replies) > 60 {
		return 0, false
	}
	sum := 0.0
	for i, w := range replies {
		sum = r.plus(sum, mul(r.both(w.Re, w.Re, w.Im, w.Im), heights[i]), width)
	}
	return sum, true
}

// addSmall takes sums of float32 by way of float64, which holds more than
// twice as many bits: what is rounded twice is as if it were rounded once.
func addSmall(a, b impl.Small) impl.Small {
	return small(float32(add(float64(a.Re), float64(b.Re))), float32(add(float64(a.Im), float64(b.Im))))
}

func summed(list []impl.Small) (impl.Small, impl.Wave) {
	var little impl.Small
	var great impl.Wave
	if len(list) > 60 {
		return little, great
	}
	for _, a := range list {
		little = addSmall(little, a)
		great = wave(add(great.Re, float64(a.Re)), add(great.Im, float64(a.Im)))
	}
	return little, great
}
