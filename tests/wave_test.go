package tests

import (
	"math"
	"math/big"
	"slices"
	"testing"

	"loop.example/g00059/impl"
)

// Promise 4: waves, ordinary inputs and the edges that the chapter names.

func TestMaxParts(t *testing.T) {
	if impl.MaxParts != 60 {
		t.Error(impl.MaxParts)
	}
}

// The operations that the tests lean on round once, to the nearest, of two as
// near to the even one.
func TestOperationsAreRoundedOnce(t *testing.T) {
	wide := func(n float64) *big.Float { return new(big.Float).SetPrec(2200).SetFloat64(n) }
	list := slices.DeleteFunc(edgeFloats(), func(n float64) bool { return n == 0 || n-n != 0 })
	d := &draws{state: 21}
	for range 40 {
		list = append(list, d.nearFloat())
	}
	for _, a := range list {
		for _, b := range list {
			product, _ := wide(0).Mul(wide(a), wide(b)).Float64()
			sum, _ := wide(0).Add(wide(a), wide(b)).Float64()
			quotient, _ := wide(0).Quo(wide(a), wide(b)).Float64()
			if !same(mul(a, b), product) || !same(add(a, b), sum) || !same(div(a, b), quotient) {
				t.Error(a, b)
			}
		}
	}
}

func TestGreatIsExact(t *testing.T) {
	for _, c := range []struct {
		from float32
		want float64
	}{
		{0, 0}, {float32(minus0), minus0}, {1, 1}, {-1.5, -1.5}, {0.1, 0x1.99999ap-4}, {least32, 0x1p-149}, {-least32, -0x1p-149},
		{0x1p-126, 0x1p-126}, {greatest32, 0x1.fffffep127}, {-greatest32, -0x1.fffffep127},
		{float32(infinite), infinite}, {float32(-infinite), -infinite}, {float32(none), none},
	} {
		if got := impl.Great(small(c.from, 7)); !sameWave(got, wave(c.want, 7)) {
			t.Error(c.from, got)
		}
		if got := impl.Great(small(-3, c.from)); !sameWave(got, wave(-3, c.want)) {
			t.Error(c.from, got)
		}
	}
}

func TestLittleByHand(t *testing.T) {
	small0 := float32(minus0)
	for _, c := range []struct {
		from float64
		want float32
	}{
		{0, 0}, {minus0, small0}, {1, 1}, {-2.5, -2.5}, {0.1, 0x1.99999ap-4}, {1.0 / 3, 0x1.555556p-2},
		// Halfway between two the even one is told, a little beside it the nearer.
		{1 + 0x1p-24, 1}, {-1 - 0x1p-24, -1}, {1 + 0x1p-24 + 0x1p-52, 1 + 0x1p-23}, {1 + 0x1p-24 - 0x1p-52, 1},
		{1 + 0x3p-24, 1 + 0x1p-22}, {1 + 0x3p-24 - 0x1p-52, 1 + 0x1p-23}, {1 + 0x3p-24 + 0x1p-52, 1 + 0x1p-22},
		{1 + 0x5p-24, 1 + 0x1p-22}, {1 - 0x1p-25, 1}, {1 - 0x1p-25 - 0x1p-53, 1 - 0x1p-24}, {0x1p24 + 1, 0x1p24}, {0x1p24 + 3, 0x1p24 + 4},
		// Down by the least: there the numbers stand evenly.
		{0x1p-149, least32}, {0x1p-150, 0}, {-0x1p-150, small0}, {0x1p-150 + 0x1p-202, least32}, {-0x1p-150 - 0x1p-202, -least32},
		{0x1p-150 - 0x1p-203, 0}, {0x3p-150, 2 * least32}, {0x5p-150, 2 * least32}, {0x7p-150, 4 * least32}, {least64, 0}, {-least64, small0},
		{0x1p-1022, 0}, {0x1p-126 - 0x1p-150, 0x1p-126}, {0x1p-126 - 0x1p-149, 0x1p-126 - 0x1p-149},
		// What is too great becomes infinite, what is nearer to the greatest does not.
		{greatest32, greatest32}, {tooGreat32 - 0x1p75, greatest32}, {tooGreat32, float32(infinite)}, {0x1p128, float32(infinite)},
		{-greatest32, -greatest32}, {-tooGreat32 + 0x1p75, -greatest32}, {-tooGreat32, float32(-infinite)}, {1e300, float32(infinite)},
		{greatest64, float32(infinite)}, {-greatest64, float32(-infinite)}, {infinite, float32(infinite)}, {-infinite, float32(-infinite)}, {none, float32(none)},
	} {
		if got := impl.Little(wave(c.from, 7)); !sameSmall(got, small(c.want, 7)) {
			t.Error(c.from, got, c.want)
		}
		if got := impl.Little(wave(-3, c.from)); !sameSmall(got, small(-3, c.want)) {
			t.Error(c.from, got, c.want)
		}
	}
}

func TestLittleRoundsOnce(t *testing.T) {
	d := &draws{state: 22}
	list := edgeFloats()
	for range 20000 {
		// A number of float32, or halfway between two, and what lies beside it.
		n := math.Ldexp(float64(d.below(1<<26)), d.between(-180, 105))
		list = append(list, n, -n, math.Nextafter(n, infinite), math.Nextafter(n, -infinite), d.anyFloat())
	}
	for _, n := range list {
		want := float32(none)
		if !math.IsNaN(n) {
			want, _ = big.NewFloat(n).Float32()
		}
		if got := impl.Little(wave(n, -n)); !sameSmall(got, small(want, -want)) {
			t.Fatal(n, got, want)
		}
	}
}

func TestBothSizesGoIntoEachOther(t *testing.T) {
	list := edgeSmalls()
	for bits := uint64(0); bits < 1<<32; bits += 9973 {
		n := math.Float32frombits(uint32(bits))
		list = append(list, small(n, 1), small(-2, n))
	}
	for _, a := range list {
		great := impl.Great(a)
		if !sameWave(great, wave(float64(a.Re), float64(a.Im))) {
			t.Fatal("Great", a, great)
		}
		if back := impl.Little(great); !sameSmall(back, a) {
			t.Fatal("Little of Great", a, back)
		}
	}
}

func checkSums(t *testing.T, a, b impl.Small) {
	t.Helper()
	sum := impl.AddSmall(a, b)
	if want := addSmall(a, b); !sameSmall(sum, want) {
		t.Fatal("AddSmall", a, b, sum, want)
	}
	if !sameSmall(impl.AddSmall(b, a), sum) {
		t.Fatal("a sum that is turned about", a, b)
	}
	less := impl.LessSmall(a, b)
	if want := addSmall(a, small(-b.Re, -b.Im)); !sameSmall(less, want) {
		t.Fatal("LessSmall", a, b, less, want)
	}
}

func TestSmallSums(t *testing.T) {
	list := edgeSmalls()
	for _, a := range list {
		for _, b := range list {
			checkSums(t, a, b)
		}
	}
	d := &draws{state: 23}
	for range 20000 {
		checkSums(t, d.anySmall(), d.anySmall())
		checkSums(t, d.nearSmall(), d.nearSmall())
	}
}

func TestSmallSumsByHand(t *testing.T) {
	inf := float32(infinite)
	for _, c := range []struct{ a, b, sum, less impl.Small }{
		{small(1, 2), small(10, 20), small(11, 22), small(-9, -18)},
		{small(0, float32(minus0)), small(float32(minus0), float32(minus0)), small(0, float32(minus0)), small(0, 0)},
		// As float32: a half of the last bit is lost, to the even one.
		{small(0x1p24, 0x1p24+2), small(1, 1), small(0x1p24, 0x1p24+4), small(0x1p24-1, 0x1p24)},
		{small(greatest32, -greatest32), small(greatest32, -greatest32), small(inf, -inf), small(0, 0)},
		{small(greatest32, greatest32), small(0x1p103, 0x1p102), small(inf, greatest32), small(greatest32-0x1p104, greatest32)},
		{small(inf, -inf), small(inf, inf), small(inf, float32(none)), small(float32(none), -inf)},
		{small(float32(none), 1), small(1, float32(none)), small(float32(none), float32(none)), small(float32(none), float32(none))},
		{small(least32, least32), small(least32, -least32), small(2*least32, 0), small(0, 2*least32)},
	} {
		if got := impl.AddSmall(c.a, c.b); !sameSmall(got, c.sum) {
			t.Error("AddSmall", c.a, c.b, got)
		}
		if got := impl.LessSmall(c.a, c.b); !sameSmall(got, c.less) {
			t.Error("LessSmall", c.a, c.b, got)
		}
	}
}

func checkTimes(t *testing.T, a, b impl.Wave) {
	t.Helper()
	got, want := impl.Times(a, b), new(reckoner).times(a, b)
	if !sameWave(got, want) {
		t.Fatal("Times", a, b, got, want)
	}
	if !sameWave(impl.Times(b, a), got) {
		t.Fatal("a product that is turned about", a, b)
	}
}

func TestTimesOfManyWaves(t *testing.T) {
	list := wavesOf(edgeFloats())
	d := &draws{state: 24}
	for i, a := range list {
		for k := i % 3; k < len(list); k += 3 {
			checkTimes(t, a, list[k])
		}
		checkTimes(t, a, d.anyWave())
	}
	for range 20000 {
		checkTimes(t, d.anyWave(), d.anyWave())
		checkTimes(t, d.nearWave(), d.nearWave())
	}
}

// tiny is so small that a square of 1 + tiny is rounded, to 1 + 2 tiny.
const tiny = 0x1p-30

func TestTimesByHand(t *testing.T) {
	const a, square = 1 + tiny, 1 + 2*tiny
	for _, c := range []struct{ a, b, want impl.Wave }{
		{wave(3, 4), wave(0, 1), wave(-4, 3)},
		{wave(1, 2), wave(3, 5), wave(-7, 11)},
		{wave(-1, 2), wave(3, -5), wave(7, 11)},
		{wave(0, 0), wave(1, 1), wave(0, 0)},
		{wave(minus0, 0), wave(1, 1), wave(minus0, 0)},
		{wave(minus0, minus0), wave(1, 0), wave(0, minus0)},
		{wave(least64, 0), wave(0.5, 0.5), wave(0, 0)},
		{wave(least64, 0), wave(0.75, -0.25), wave(least64, 0)},
		{wave(greatest64, greatest64), wave(1, 1), wave(0, infinite)},
		{wave(greatest64, 0), wave(2, 0), wave(infinite, 0)},
		{wave(1e200, 1e200), wave(1e200, 1e200), wave(none, infinite)},
		{wave(infinite, 0), wave(1, 0), wave(infinite, none)},
		{wave(infinite, infinite), wave(1, 1), wave(none, infinite)},
		{wave(none, 0), wave(1, 2), wave(none, none)},
		// Each product is rounded by itself, and nothing is left of its rest.
		{wave(a, a), wave(a, a), wave(0, 2*square)},
		{wave(a, 1), wave(a, square), wave(0, (1+3*tiny)+a)},
		{wave(1, a), wave(square, a), wave(0, a+(1+3*tiny))},
		{wave(a, -1), wave(square, a), wave((1+3*tiny)+a, 0)},
		{wave(-1, a), wave(a, square), wave(-a-(1+3*tiny), 0)},
	} {
		if got := impl.Times(c.a, c.b); !sameWave(got, c.want) {
			t.Error(c.a, c.b, got)
		}
	}
}

// bites wants as many fused products to change an answer as there are.
func bites(t *testing.T, name string, changed map[int]int, fuses ...int) {
	t.Helper()
	for _, fuse := range fuses {
		if changed[fuse] == 0 {
			t.Error(name, "no input tells product", fuse, "from a fused one")
		}
	}
}

func TestTimesFusesNothing(t *testing.T) {
	d, changed := &draws{state: 25}, map[int]int{}
	for range 2000 {
		a, b := d.nearWave(), d.nearWave()
		if d.below(2) == 0 {
			b = impl.Wave{Re: a.Im, Im: a.Re}
		}
		checkTimes(t, a, b)
		for fuse := 1; fuse <= 4; fuse++ {
			if r := (&reckoner{fuse: fuse}); !sameWave(r.times(a, b), impl.Times(a, b)) {
				changed[fuse]++
			}
		}
	}
	bites(t, "Times", changed, 1, 2, 3, 4)
}

func TestTimesSmallByHand(t *testing.T) {
	inf, minus := float32(infinite), float32(minus0)
	const a = 1 + 0x1p-12
	for _, c := range []struct{ a, b, want impl.Small }{
		{small(3, 4), small(0, 1), small(-4, 3)},
		{small(1, 2), small(3, 5), small(-7, 11)},
		{small(minus, 0), small(1, 1), small(minus, 0)},
		// Rounded as float32 one by one, the products would be alike.
		{small(a, 1), small(a, 1+0x1p-11), small(0x1p-24, 2+0x1p-10)},
		{small(1, a), small(1+0x1p-11, a), small(-0x1p-24, 2+0x1p-10)},
		// And here both would be infinite, or 0.
		{small(0x1p100, 0x1p100), small(0x1p100, 0x1p100), small(0, inf)},
		{small(0x1p100, 0x1p100), small(0x1p28, 0x1p28-0x1p10), small(0x1p110, inf)},
		{small(0x1p-100, 0x1p-100), small(0x1p-50, 0x1p-50), small(0, 0x1p-149)},
		{small(0x1p-75, 0x1p-75), small(0x1p-75, -0x1p-75), small(0x1p-149, 0)},
		// 97 times 172961 is halfway between two. What is added is lost in the
		// greater size, so that the even one is told, not the nearer.
		{small(97, 0x1p-50), small(172961, -0x1p-50), small(0x1p24, (172961-97)*0x1p-50)},
		{small(greatest32, 0), small(1, 0), small(greatest32, 0)},
		{small(greatest32, 0), small(2, 0), small(inf, 0)},
		{small(inf, 0), small(1, 0), small(inf, float32(none))},
		{small(float32(none), 0), small(1, 1), small(float32(none), float32(none))},
	} {
		if got := impl.TimesSmall(c.a, c.b); !sameSmall(got, c.want) {
			t.Error(c.a, c.b, got)
		}
	}
}

func timesSmall(a, b impl.Small) impl.Small {
	w := new(reckoner).times(wave(float64(a.Re), float64(a.Im)), wave(float64(b.Re), float64(b.Im)))
	return small(float32(w.Re), float32(w.Im))
}

// oneByOne rounds each product as float32.
func oneByOne(a, b impl.Small) impl.Small {
	part := func(x, y float32) float64 { return float64(float32(mul(float64(x), float64(y)))) }
	return small(float32(add(part(a.Re, b.Re), -part(a.Im, b.Im))), float32(add(part(a.Re, b.Im), part(a.Im, b.Re))))
}

func TestTimesSmallOfManyWaves(t *testing.T) {
	changed := 0
	check := func(a, b impl.Small) {
		got, want := impl.TimesSmall(a, b), timesSmall(a, b)
		if !sameSmall(got, want) || !sameSmall(got, impl.Little(impl.Times(impl.Great(a), impl.Great(b)))) {
			t.Fatal(a, b, got, want)
		}
		if !sameSmall(impl.TimesSmall(b, a), got) {
			t.Fatal("a product that is turned about", a, b)
		}
		if !sameSmall(oneByOne(a, b), got) {
			changed++
		}
	}
	d := &draws{state: 26}
	list := edgeSmalls()
	for i, a := range list {
		for k := i % 3; k < len(list); k += 3 {
			check(a, list[k])
		}
	}
	for range 20000 {
		check(d.anySmall(), d.anySmall())
		check(d.nearSmall(), d.nearSmall())
	}
	if changed < 1000 {
		t.Error("few products hang on their size:", changed)
	}
}

func TestOverByHand(t *testing.T) {
	for _, c := range []struct{ a, b, want impl.Wave }{
		{wave(3, 4), wave(1, 2), wave(2.2, -0.4)},
		{wave(3, 4), wave(2, 1), wave(2, 1)},
		{wave(1, 2), wave(1, 1), wave(1.5, 0.5)},
		{wave(1, 2), wave(1, -1), wave(-0.5, 1.5)},
		{wave(1, 2), wave(-1, 1), wave(0.5, -1.5)},
		{wave(1, 2), wave(-1, -1), wave(-1.5, -0.5)},
		{wave(6, 8), wave(2, 0), wave(3, 4)},
		{wave(6, 8), wave(0, 2), wave(4, -3)},
		{wave(6, 8), wave(minus0, -2), wave(-4, 3)},
		{wave(0, 0), wave(1, 0), wave(0, 0)},
		{wave(1, 0), wave(-1, 0), wave(-1, minus0)},
		{wave(minus0, 0), wave(1, 0), wave(0, 0)},
		{wave(minus0, minus0), wave(1, 0), wave(minus0, 0)},
		{wave(1, 1), wave(greatest64, 0), wave(0x1p-1024, 0x1p-1024)},
		{wave(least64, least64), wave(least64, least64), wave(1, 0)},
		{wave(1, 0), wave(least64, 0), wave(infinite, 0)},
		{wave(0, 1), wave(0, least64), wave(infinite, 0)},
		// d is infinite, or what is divided by it; the answer is as it comes.
		{wave(1, 1), wave(greatest64, greatest64), wave(0, 0)},
		{wave(greatest64, greatest64), wave(greatest64, greatest64), wave(none, 0)},
		{wave(greatest64, greatest64), wave(1, 1), wave(infinite, 0)},
		{wave(greatest64, -greatest64), wave(-1, 1), wave(-infinite, minus0)},
	} {
		if got, ok := impl.Over(c.a, c.b); !ok || !sameWave(got, c.want) {
			t.Error(c.a, c.b, got, ok)
		}
	}
}

func checkOver(t *testing.T, a, b impl.Wave) {
	t.Helper()
	got, ok := impl.Over(a, b)
	if want, wantOk := new(reckoner).over(a, b); ok != wantOk || !sameWave(got, want) {
		t.Fatal("Over", a, b, got, ok, want, wantOk)
	}
}

func TestOverOfManyWaves(t *testing.T) {
	list := wavesOf(edgeFloats())
	d := &draws{state: 27}
	for i, a := range list {
		for k := i % 3; k < len(list); k += 3 {
			checkOver(t, a, list[k])
		}
		checkOver(t, a, d.anyWave())
		checkOver(t, d.anyWave(), a)
	}
	for range 20000 {
		a, b := d.nearWave(), d.nearWave()
		checkOver(t, a, b)
		// The sizes of both parts are the same, of either sign.
		checkOver(t, a, wave(b.Re, b.Re))
		checkOver(t, a, wave(b.Re, -b.Re))
		checkOver(t, a, wave(b.Re, math.Nextafter(b.Re, infinite)))
		checkOver(t, a, wave(b.Re, math.Nextafter(b.Re, -infinite)))
		checkOver(t, d.anyWave(), d.anyWave())
	}
}

func TestOverFusesNothing(t *testing.T) {
	d := &draws{state: 28}
	for _, name := range []string{"Re the greater", "Im the greater"} {
		changed := map[int]int{}
		for range 2000 {
			a, b := d.nearWave(), d.nearWave()
			if (math.Abs(b.Re) < math.Abs(b.Im)) != (name == "Im the greater") {
				b.Re, b.Im = b.Im, b.Re
			}
			checkOver(t, a, b)
			got, _ := impl.Over(a, b)
			for fuse := 1; fuse <= 3; fuse++ {
				if fused, _ := (&reckoner{fuse: fuse}).over(a, b); !sameWave(fused, got) {
					changed[fuse]++
				}
			}
		}
		bites(t, name, changed, 1, 2, 3)
	}
}

// Where b's ratio is a number of halves, nothing is rounded.
func TestDivisionUndoes(t *testing.T) {
	d := &draws{state: 29}
	for range 5000 {
		a := wave(float64(d.between(-1<<20, 1<<20)), float64(d.between(-1<<20, 1<<20)))
		n := float64(d.between(1, 1<<10) * (d.below(2)*2 - 1))
		for _, b := range []impl.Wave{
			wave(n, 0), wave(0, n), wave(n, n), wave(n, -n), wave(4*n, 2*n), wave(-2*n, 4*n), wave(3*n, 4*n), wave(4*n, -3*n), wave(n, 16*n), wave(n, minus0),
		} {
			product := impl.Times(a, b)
			if got, ok := impl.Over(product, b); !ok || !impl.Alike(got, a) {
				t.Fatal(a, b, product, got, ok)
			}
		}
	}
}

func TestTimesOfWholeNumbers(t *testing.T) {
	d := &draws{state: 30}
	for range 5000 {
		a, b, c, e := d.between(-1<<22, 1<<22), d.between(-1<<22, 1<<22), d.between(-1<<22, 1<<22), d.between(-1<<22, 1<<22)
		got := impl.Times(wave(float64(a), float64(b)), wave(float64(c), float64(e)))
		if !impl.Alike(got, wave(float64(a*c-b*e), float64(a*e+b*c))) {
			t.Fatal(a, b, c, e, got)
		}
	}
}

func TestAlike(t *testing.T) {
	for _, c := range []struct {
		a, b impl.Wave
		want bool
	}{
		{wave(1, 2), wave(1, 2), true},
		{wave(1, 2), wave(1, 3), false},
		{wave(1, 2), wave(3, 2), false},
		{wave(1, 2), wave(2, 1), false},
		{wave(1, 2), wave(1, -2), false},
		{wave(0, minus0), wave(minus0, 0), true},
		{wave(minus0, minus0), wave(0, 0), true},
		{wave(least64, 0), wave(0, 0), false},
		{wave(1, 0), wave(1+0x1p-52, 0), false},
		{wave(infinite, -infinite), wave(infinite, -infinite), true},
		{wave(infinite, 0), wave(-infinite, 0), false},
		{wave(infinite, 0), wave(greatest64, 0), false},
		{wave(none, 0), wave(none, 0), false},
		{wave(0, none), wave(0, none), false},
		{wave(none, none), wave(none, none), false},
		{wave(none, 1), wave(2, 1), false},
	} {
		if got := impl.Alike(c.a, c.b); got != c.want {
			t.Error(c.a, c.b, got)
		}
	}
	list := wavesOf(edgeFloats())
	for _, a := range list {
		for _, b := range list {
			if impl.Alike(a, b) != (a.Re == b.Re && a.Im == b.Im) {
				t.Fatal(a, b)
			}
		}
	}
}

func TestBarred(t *testing.T) {
	for _, c := range []struct{ a, want impl.Wave }{
		{wave(1, 2), wave(1, -2)},
		{wave(-1, -2), wave(-1, 2)},
		{wave(0, 0), wave(0, minus0)},
		{wave(minus0, minus0), wave(minus0, 0)},
		{wave(minus0, 0), wave(minus0, minus0)},
		{wave(least64, least64), wave(least64, -least64)},
		{wave(greatest64, -greatest64), wave(greatest64, greatest64)},
		{wave(infinite, infinite), wave(infinite, -infinite)},
		{wave(-infinite, -infinite), wave(-infinite, infinite)},
		{wave(none, 3), wave(none, -3)},
		{wave(3, none), wave(3, none)},
	} {
		if got := impl.Barred(c.a); !sameWave(got, c.want) {
			t.Error(c.a, got)
		}
	}
	d := &draws{state: 31}
	for range 5000 {
		a := d.anyWave()
		got := impl.Barred(a)
		if !same(got.Re, a.Re) || !same(got.Im, math.Copysign(a.Im, 1)) && !same(got.Im, math.Copysign(a.Im, -1)) || !sameWave(impl.Barred(got), a) {
			t.Fatal(a, got)
		}
		if !math.IsNaN(a.Im) && math.Signbit(got.Im) == math.Signbit(a.Im) {
			t.Fatal("the sign is not turned", a, got)
		}
	}
}

func TestReplyByHand(t *testing.T) {
	for _, c := range []struct {
		ratio, damp float64
		want        impl.Wave
	}{
		{0, 0, wave(1, 0)},
		{0, 5, wave(1, 0)},
		{minus0, 5, wave(1, 0)},
		{1, 0.25, wave(0, -2)},
		{1, -0.25, wave(minus0, 2)},
		{-1, 0.25, wave(minus0, 2)},
		{2, 0, wave(-1.0/3, minus0)},
		{2, 0.75, wave(-1.0/6, -1.0/6)},
		{2, 1, wave(-0.12, -0.16)},
		{0x1p500, 0, wave(-0x1p-1000, minus0)},
		{1, least64, wave(0, -infinite)},
		// The square of 1 + tiny is rounded by itself.
		{1 + tiny, 0, wave(-0x1p29, minus0)},
	} {
		if got, ok := impl.Reply(c.ratio, c.damp); !ok || !sameWave(got, c.want) {
			t.Error(c.ratio, c.damp, got, ok)
		}
	}
}

func checkReply(t *testing.T, ratio, damp float64) {
	t.Helper()
	got, ok := impl.Reply(ratio, damp)
	if want, wantOk := new(reckoner).reply(ratio, damp); ok != wantOk || !sameWave(got, want) {
		t.Fatal("Reply", ratio, damp, got, ok, want, wantOk)
	}
}

func TestManyReplies(t *testing.T) {
	for _, ratio := range edgeFloats() {
		for _, damp := range edgeFloats() {
			checkReply(t, ratio, damp)
		}
	}
	d := &draws{state: 32}
	for range 20000 {
		checkReply(t, d.anyFloat(), d.anyFloat())
		checkReply(t, d.nearFloat(), d.nearFloat())
		checkReply(t, d.nearFloat(), d.anyFloat())
	}
}

func TestReplyFusesNothing(t *testing.T) {
	d, changed, dragged := &draws{state: 33}, map[int]int{}, 0
	for range 5000 {
		ratio, damp := d.nearFloat(), d.nearFloat()
		got, _ := impl.Reply(ratio, damp)
		for fuse := 1; fuse <= 2; fuse++ {
			if fused, _ := (&reckoner{fuse: fuse}).reply(ratio, damp); !sameWave(fused, got) {
				changed[fuse]++
			}
		}
		if stiff := 1 - ratio*ratio; math.Abs(stiff) < math.Abs(2*damp*ratio) && !sameWave(dragFused(ratio, damp), got) {
			dragged++
		}
	}
	bites(t, "Reply", changed, 1, 2)
	if dragged == 0 {
		t.Error("no input tells the drag from a fused one")
	}
}
