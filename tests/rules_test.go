package tests

import (
	"fmt"
	"reflect"
	"slices"
	"testing"

	"loop.example/g00059/impl"
)

func TestRulesConstants(t *testing.T) {
	got := []int{impl.MaxShips, impl.SortPower, impl.SortSail, impl.SortFish, impl.SortSlow, impl.SortLost,
		impl.DutyNone, impl.DutyKeep, impl.DutyClear, impl.DutyBoth, impl.DutyBad}
	if want := []int{20, 1, 2, 3, 4, 5, 0, 1, 2, 3, 4}; !slices.Equal(got, want) {
		t.Error(got, "not", want)
	}
}

func TestShipLimitsThatAreMet(t *testing.T) {
	right := power(3, 4, 5, 6)
	for name, s := range map[string]impl.Ship{
		"plain":             right,
		"X -10^5":           power(-100000, 4, 5, 6),
		"X 10^5":            power(100000, 4, 5, 6),
		"Y -10^5":           power(3, -100000, 5, 6),
		"Y 10^5":            power(3, 100000, 5, 6),
		"X and Y 0":         power(0, 0, 5, 6),
		"VX -1000":          power(3, 4, -1000, 6),
		"VX 1000":           power(3, 4, 1000, 6),
		"VY -1000":          power(3, 4, 5, -1000),
		"VY 1000":           power(3, 4, 5, 1000),
		"VX 0":              power(3, 4, 0, 6),
		"VY 0":              power(3, 4, 5, 0),
		"VX 0, VY -1":       power(3, 4, 0, -1),
		"VX -1, VY 0":       power(3, 4, -1, 0),
		"VX 0, VY 1000":     power(3, 4, 0, 1000),
		"ways that come to": power(3, 4, 7, -7),
		"Sort 1":            sorted(right, 1),
		"Sort 2":            sorted(right, 2),
		"Sort 3":            sorted(right, 3),
		"Sort 4":            sorted(right, 4),
		"Sort 5":            sorted(right, 5),
		"Draft 0":           drawing(right, 0),
		"Draft 1":           drawing(right, 1),
		"Draft 1000":        drawing(right, 1000),
	} {
		if !impl.ShipOk(s) {
			t.Error(name)
		}
	}
	for _, s := range edgeShips() {
		if !impl.ShipOk(s) {
			t.Error(s)
		}
	}
}

func checkClosest(t *testing.T, a, b impl.Ship, when, far impl.Frac) {
	t.Helper()
	for _, pair := range [][2]impl.Ship{{a, b}, {b, a}} {
		if gotWhen, gotFar, ok := impl.Closest(pair[0], pair[1]); gotWhen != when || gotFar != far || !ok {
			t.Error(pair, "are nearest", gotWhen, gotFar, ok, "not", when, far)
		}
	}
}

// apartBy is a ship for which the bearing from a and the way less a's are so.
func apartBy(a impl.Ship, dx, dy, vx, vy int) impl.Ship {
	return power(a.X+dx, a.Y+dy, a.VX+vx, a.VY+vy)
}

func TestClosestByHand(t *testing.T) {
	a := power(40, -7, 20, 30)
	for _, c := range []struct {
		dx, dy, vx, vy int
		when, far      impl.Frac
	}{
		{10, 10, -2, -2, frac(5, 1), frac(0, 1)},
		{10, 3, -2, 0, frac(5, 1), frac(9, 1)},
		{10, 3, -3, 0, frac(10, 3), frac(9, 1)},
		{10, -3, -3, 0, frac(10, 3), frac(9, 1)},
		{-10, 3, 3, 0, frac(10, 3), frac(9, 1)},
		{3, 10, 0, -4, frac(5, 2), frac(9, 1)},
		{1, 0, -1, 1, frac(1, 2), frac(1, 2)},
		{4, 0, -2, 2, frac(1, 1), frac(8, 1)},
		{6, 2, -3, 3, frac(2, 3), frac(32, 1)},
		{1, 2, -4, -2, frac(2, 5), frac(9, 5)},
		{2, 4, -8, -4, frac(2, 5), frac(36, 5)},
		{2, 1, -3, -1, frac(7, 10), frac(1, 10)},
		{1, 0, -1, 9, frac(1, 82), frac(81, 82)},
		{1, 0, -1, -9, frac(1, 82), frac(81, 82)},
		{1, 0, 0, 9, frac(0, 1), frac(1, 1)},
		{1, 0, 1, 9, frac(0, 1), frac(1, 1)},
		{0, 7, 3, 0, frac(0, 1), frac(49, 1)},
		{3, 4, 4, -3, frac(0, 1), frac(25, 1)},
		{3, 4, 1, 1, frac(0, 1), frac(25, 1)},
		{3, 4, -1, 1, frac(0, 1), frac(25, 1)},
		{3, 4, 0, 0, frac(0, 1), frac(25, 1)},
		{0, 0, 0, 0, frac(0, 1), frac(0, 1)},
		{0, 0, 5, -2, frac(0, 1), frac(0, 1)},
		{-6, 8, 6, -8, frac(1, 1), frac(0, 1)},
		{-6, 8, 9, -12, frac(2, 3), frac(0, 1)},
	} {
		checkClosest(t, a, apartBy(a, c.dx, c.dy, c.vx, c.vy), c.when, c.far)
	}
}

func TestClosestAtTheLimits(t *testing.T) {
	low, high := power(-100000, -100000, 1000, 1000), power(100000, 100000, -1000, -1000)
	checkClosest(t, low, high, frac(100, 1), frac(0, 1))
	low, high = power(-100000, -100000, 1000, -1000), power(100000, 100000, -1000, 1000)
	checkClosest(t, low, high, frac(0, 1), frac(80000000000, 1))
	low, high = power(-100000, -100000, -1000, -1000), power(100000, 100000, 1000, 1000)
	checkClosest(t, low, high, frac(0, 1), frac(80000000000, 1))
	checkClosest(t, low, power(100000, 100000, -1000, -1000), frac(0, 1), frac(80000000000, 1))
	// The greatest cross that is by no whole number: 799800000 squared.
	low, high = power(-100000, -100000, 1000, -1000), power(100000, 100000, -1000, 999)
	checkClosest(t, low, high, frac(200000, 7996001), frac(639680040000000000, 7996001))
	checkClosest(t, power(-100000, 5, 1, 0), power(100000, 5, 0, 1), frac(100000, 1), frac(20000000000, 1))
	checkClosest(t, power(-100000, 5, 2, 1), power(100000, 5, 1, 1), frac(200000, 1), frac(0, 1))
}

// The told minute is the nearest one, by where the ships are then.
func TestClosestIsNearestOfAllMinutes(t *testing.T) {
	d := &draws{state: 110}
	whole := 0
	for range 3000 {
		a, b := drawnPair(d)
		when, far, _ := impl.Closest(a, b)
		for minute := range 101 {
			one, ok := impl.Moved(a, minute)
			other, okToo := impl.Moved(b, minute)
			if !ok || !okToo {
				break
			}
			x, y := one.X-other.X, one.Y-other.Y
			now := ratio(frac(x*x+y*y, 1))
			if now.Cmp(ratio(far)) < 0 {
				t.Fatal(a, b, "are nearer than", far, "at", minute)
			}
			if when == frac(minute, 1) {
				whole++
				if now.Cmp(ratio(far)) != 0 {
					t.Fatal(a, b, "are not", far, "apart at", minute)
				}
			}
		}
	}
	if whole < 1000 {
		t.Error("too few whole minutes", whole)
	}
}

// checkSides asks Behind of ships at a bearing from b, at either side of it,
// and with b going all four ways.
func checkSides(t *testing.T, name string, aside, along, fast int, want bool) {
	t.Helper()
	for _, side := range []int{aside, -aside} {
		a, b := power(side, along, 3, 5), power(0, 0, 0, fast)
		for range 4 {
			if impl.Behind(a, b) != want {
				t.Error(name, a, b, "is not", want)
			}
			a, b = quartered(a), quartered(b)
		}
	}
}

func TestBehindByHand(t *testing.T) {
	for _, fast := range []int{1, 7, 1000} {
		checkSides(t, "right astern", 0, -1, fast, true)
		checkSides(t, "far astern", 0, -100000, fast, true)
		checkSides(t, "on the quarter", 5, -5, fast, true)
		checkSides(t, "ahead", 0, 1, fast, false)
		checkSides(t, "on the bow", 5, 5, fast, false)
		checkSides(t, "abeam, a dot of 0", 9, 0, fast, false)
		checkSides(t, "near abeam, a dot of 0", 1, 0, fast, false)
		checkSides(t, "abaft the beam, a dot below 0", 9, -1, fast, false)
		checkSides(t, "at one place", 0, 0, fast, false)
		// No square, five times, is another, 29 times: these differ by 5, 9 or 16.
		checkSides(t, "just within", 2, -1, fast, true)
		checkSides(t, "just beyond", 5, -2, fast, false)
		checkSides(t, "just within", 12, -5, fast, true)
		checkSides(t, "one beyond", 13, -5, fast, false)
		checkSides(t, "one further ahead", 12, -4, fast, false)
		checkSides(t, "just beyond", 53, -22, fast, false)
		checkSides(t, "just within", 65, -27, fast, true)
		checkSides(t, "just beyond", 289, -120, fast, false)
		checkSides(t, "one within", 288, -120, fast, true)
		checkSides(t, "just within", 6948, -2885, fast, true)
		checkSides(t, "one beyond", 6949, -2885, fast, false)
		checkSides(t, "as far on the bow", 12, 5, fast, false)
		checkSides(t, "as far on the bow", 6948, 2885, fast, false)
	}
}

func TestBehindAtTheLimits(t *testing.T) {
	for _, fast := range []int{1, 1000} {
		b := power(-100000, 0, 0, fast)
		for aside, want := range map[int]bool{67041: false, 67040: true, 67042: false} {
			if got := impl.Behind(power(aside, -69360, 1, 1), b); got != want {
				t.Error(aside, fast, got)
			}
		}
	}
	low, high := power(-100000, -100000, 1, 1), power(100000, 100000, 1000, 1000)
	if !impl.Behind(low, high) || impl.Behind(high, low) {
		t.Error("the greatest dot")
	}
	high = power(100000, 100000, 1000, -999)
	if impl.Behind(low, high) {
		t.Error("the greatest cross")
	}
	if !impl.Behind(low, power(100000, 100000, 1000, 0)) {
		t.Error("on the quarter of one that goes along X")
	}
	// It is b's way that counts, not a's.
	for _, way := range [][2]int{{0, 1}, {0, -1}, {1000, 0}, {-1000, 1000}} {
		if !impl.Behind(power(0, -9, way[0], way[1]), power(0, 0, 0, 2)) || impl.Behind(power(0, 9, way[0], way[1]), power(0, 0, 0, 2)) {
			t.Error("by a's way", way)
		}
	}
}

// checkHeadOn asks it of both, all four ways and in a mirror.
func checkHeadOn(t *testing.T, name string, a, b impl.Ship, want bool) {
	t.Helper()
	for _, pair := range [][2]impl.Ship{{a, b}, {glassed(a), glassed(b)}} {
		for range 4 {
			if impl.HeadOn(pair[0], pair[1]) != want || impl.HeadOn(pair[1], pair[0]) != want {
				t.Error(name, pair, "is not", want)
			}
			pair = [2]impl.Ship{quartered(pair[0]), quartered(pair[1])}
		}
	}
}

func TestHeadOnByHand(t *testing.T) {
	a := power(0, 0, 0, 100)
	checkHeadOn(t, "just opposite", a, power(0, 200, 0, -100), true)
	checkHeadOn(t, "just opposite, slow", a, power(0, 1, 0, -1), true)
	checkHeadOn(t, "other sorts", sorted(a, 2), sorted(power(0, 200, 0, -100), 5), true)
	checkHeadOn(t, "at one place", a, power(0, 0, 0, -100), false)
	checkHeadOn(t, "past each other", a, power(0, -200, 0, -100), false)
	checkHeadOn(t, "one behind the other", a, power(0, 200, 0, 50), false)
	checkHeadOn(t, "ways with a dot of 0", a, power(0, 200, 100, 0), false)
	checkHeadOn(t, "abeam, a dot of 0", a, power(50, 0, 0, -100), false)
	checkHeadOn(t, "well beside", a, power(100, 200, 0, -100), false)
}

// In each row the other two bounds are kept with room to spare, where it is not
// said otherwise.
func TestHeadOnAtItsBounds(t *testing.T) {
	a := power(0, 0, 0, 100)
	checkHeadOn(t, "ways just at the bound", a, power(-5, 100, 10, -100), true)
	checkHeadOn(t, "ways just within", a, power(-5, 100, 10, -101), true)
	checkHeadOn(t, "ways just beyond", a, power(-5, 100, 10, -99), false)
	checkHeadOn(t, "ways just at a great bound", a, power(-5, 100, 100, -1000), true)
	checkHeadOn(t, "ways just beyond a great bound", a, power(-5, 100, 100, -999), false)
	b := power(0, 0, -5, -100)
	at := func(x, y int) impl.Ship { return shifted(b, x, y) }
	checkHeadOn(t, "a's bearing just at the bound", a, at(10, 100), true)
	checkHeadOn(t, "a's bearing just within", a, at(10, 101), true)
	checkHeadOn(t, "a's bearing just beyond", a, at(10, 99), false)
	checkHeadOn(t, "a's bearing just at a far bound", a, at(10000, 100000), true)
	checkHeadOn(t, "a's bearing just within a far bound", a, at(9999, 100000), true)
	checkHeadOn(t, "a's bearing just beyond a far bound", a, at(10000, 99999), false)
	c := power(0, 0, 0, -100)
	checkHeadOn(t, "both bearings just at the bound", a, shifted(c, 10, 100), true)
	checkHeadOn(t, "both bearings just beyond", a, shifted(c, 10, 99), false)
	checkHeadOn(t, "ways and a bearing at the bound", a, power(0, 100, 10, -100), true)
	checkHeadOn(t, "ways and a bearing beyond", a, power(0, 100, 10, -99), false)
}

// A hundred times the square of the greatest cross is more than 63 bits hold.
func TestHeadOnAtTheLimits(t *testing.T) {
	low := power(-100000, -100000, 1000, 1000)
	checkHeadOn(t, "greatest dots", low, power(100000, 100000, -1000, -1000), true)
	for slow := range 1000 {
		a := power(-100000, -100000, 1000, -slow)
		b := power(100000, 100000, -1000, slow)
		checkHeadOn(t, "great crosses", a, b, false)
		a.VY, b.VY = slow, -slow
		checkHeadOn(t, "great crosses, nearer", a, b, slow >= 819)
	}
}

func checkDuty(t *testing.T, name string, a, b impl.Ship, want int) {
	t.Helper()
	if got := impl.Duty(a, b); got != want {
		t.Error(name, a, b, "is", got, "not", want)
	}
	if got := impl.Duty(b, a); got != otherDuty(want) {
		t.Error(name, a, b, "is for the other", got, "not", otherDuty(want))
	}
}

// allSorts are all pairs of sorts.
func allSorts() [][2]int {
	var all [][2]int
	for a := 1; a <= 5; a++ {
		for b := 1; b <= 5; b++ {
			all = append(all, [2]int{a, b})
		}
	}
	return all
}

func TestDutyOfShipsThatDoNotClose(t *testing.T) {
	a := power(0, 0, 0, 2)
	for name, b := range map[string]impl.Ship{
		"parting":                            power(0, -10, 0, -2),
		"crossing behind":                    power(10, -10, -1, 0),
		"going alike ahead":                  power(0, 10, 0, 2),
		"going alike astern":                 power(0, -10, 0, 2),
		"going alike abeam":                  power(10, 0, 0, 2),
		"one that is faster ahead":           power(0, 10, 0, 3),
		"nearest now":                        power(10, 0, 0, -2),
		"nearest now, on the bow":            power(10, 10, 1, 1),
		"at one place":                       power(0, 0, 0, -2),
		"at one place, going alike":          power(0, 0, 0, 2),
		"at one place, crossing":             power(0, 0, -5, 0),
		"each Behind the other":              power(0, -10, 0, -1),
		"each Behind the other, at a corner": power(5, -5, 1, -1),
	} {
		for _, sorts := range allSorts() {
			for _, draft := range []int{0, 5, 9} {
				checkDuty(t, name, drawing(sorted(a, sorts[0]), 5), drawing(sorted(b, sorts[1]), draft), impl.DutyNone)
			}
		}
	}
	both := power(0, -10, 0, -1)
	if !impl.Behind(a, both) || !impl.Behind(both, a) {
		t.Error("not each Behind the other")
	}
	checkDuty(t, "a dot of -1", power(0, 0, 1, 2), sorted(power(1, 0, 0, 9), 2), impl.DutyClear)
	checkDuty(t, "a dot of 0", power(0, 0, 1, 2), sorted(power(1, 0, 1, 9), 2), impl.DutyNone)
	checkDuty(t, "a dot of 1", power(0, 0, 1, 2), sorted(power(1, 0, 2, 9), 2), impl.DutyNone)
}

// Who comes up from behind keeps clear, whatever both are.
func TestDutyOfOneThatOvertakes(t *testing.T) {
	for name, pair := range map[string][2]impl.Ship{
		"right astern":         {power(0, 0, 0, 3), power(0, 10, 0, 1)},
		"on the quarter":       {power(5, 0, 0, 3), power(0, 10, 0, 1)},
		"on the other quarter": {power(-5, 0, 0, 3), power(0, 10, 0, 1)},
		"crossing from behind": {power(12, -5, -9, 9), power(0, 0, 0, 1)},
		"b on a's right":       {power(-12, -5, 9, 9), power(0, 0, 0, 1)},
	} {
		for _, sorts := range allSorts() {
			for _, draft := range []int{0, 5, 9} {
				checkDuty(t, name, drawing(sorted(pair[0], sorts[0]), 5), drawing(sorted(pair[1], sorts[1]), draft), impl.DutyClear)
			}
		}
	}
	// Just beyond the bound it crosses, so that Sort and the right hand count.
	checkDuty(t, "just beyond", sorted(power(5, -2, -9, 9), 3), power(0, 0, 0, 1), impl.DutyKeep)
	checkDuty(t, "just within", sorted(power(2, -1, -9, 9), 3), power(0, 0, 0, 1), impl.DutyClear)
	checkDuty(t, "just beyond, at the right", power(5, -2, -9, 9), power(0, 0, 0, 1), impl.DutyKeep)
	checkDuty(t, "just within, at the right", power(2, -1, -9, 9), power(0, 0, 0, 1), impl.DutyClear)
}

// meetings are ones that close, of which neither comes up from behind: with
// the first one's duty, where both are alike in Sort and Draft, for SortPower
// and for the others.
func meetings() map[string]struct {
	a, b         impl.Ship
	power, other int
} {
	const keep, clears, both = impl.DutyKeep, impl.DutyClear, impl.DutyBoth
	a := power(0, 0, 0, 2)
	return map[string]struct {
		a, b         impl.Ship
		power, other int
	}{
		"from the right":         {a, power(10, 10, -2, 0), clears, clears},
		"from the left":          {a, power(-10, 10, 2, 0), keep, keep},
		"from the right, ahead":  {a, power(1, 10, -2, -1), clears, clears},
		"from the left, ahead":   {a, power(-1, 10, 2, -1), keep, keep},
		"abeam at the right":     {a, power(10, 0, -1, 2), clears, clears},
		"abeam at the left":      {a, power(-10, 0, 1, 2), keep, keep},
		"end on":                 {a, power(0, 20, 0, -2), both, both},
		"end on, a bit right":    {a, power(1, 20, 0, -2), both, both},
		"end on, a bit left":     {a, power(-1, 20, 0, -2), both, both},
		"end on, askew":          {a, power(2, 20, -19, -200), both, both},
		"end on, right of one":   {a, power(1, 20, -10, -101), both, clears},
		"end on, left of one":    {a, power(-1, 20, 10, -101), both, keep},
		"both at the right":      {a, power(10, 20, 0, -2), both, both},
		"both at the left":       {a, power(-10, 20, 0, -2), both, both},
		"right ahead, to left":   {a, power(0, 10, -1, 0), both, both},
		"right ahead, to right":  {a, power(0, 10, 1, 0), keep, keep},
		"just not end on, right": {a, power(1, 9, 0, -2), both, both},
	}
}

func TestDutyBySort(t *testing.T) {
	for name, m := range meetings() {
		for _, sorts := range allSorts() {
			want := impl.DutyClear
			if sorts[0] > sorts[1] {
				want = impl.DutyKeep
			}
			if sorts[0] == sorts[1] {
				continue
			}
			for _, draft := range []int{0, 5, 9} {
				checkDuty(t, fmt.Sprint(name, sorts), drawing(sorted(m.a, sorts[0]), 5), drawing(sorted(m.b, sorts[1]), draft), want)
			}
		}
	}
}

// Of ships alike in Sort, Draft counts where neither end on nor one right hand
// tells.
func TestDutyOfShipsAlikeInSort(t *testing.T) {
	for name, m := range meetings() {
		for sort := 1; sort <= 5; sort++ {
			want := m.other
			if sort == impl.SortPower {
				want = m.power
			}
			isEndOn := sort == impl.SortPower && impl.HeadOn(m.a, m.b)
			for draft, byDraft := range map[int]int{0: impl.DutyKeep, 4: impl.DutyKeep, 5: impl.DutyBoth, 6: impl.DutyClear, 1000: impl.DutyClear} {
				if want != impl.DutyBoth || isEndOn {
					byDraft = want
				}
				checkDuty(t, fmt.Sprint(name, " sort ", sort), drawing(sorted(m.a, sort), 5), drawing(sorted(m.b, sort), draft), byDraft)
			}
		}
	}
	for name, isEndOn := range map[string]bool{
		"end on": true, "end on, a bit right": true, "end on, a bit left": true, "end on, askew": true, "end on, right of one": true,
		"end on, left of one": true, "both at the right": false, "both at the left": false, "just not end on, right": false,
	} {
		if m := meetings()[name]; impl.HeadOn(m.a, m.b) != isEndOn {
			t.Error(name, "is not", isEndOn)
		}
	}
}

func TestDutiesByHand(t *testing.T) {
	list := ships{power(0, 0, 0, 2), power(10, 10, -2, 0), power(0, 20, 0, -2), sorted(power(0, 5, 0, 1), impl.SortLost), power(0, 0, 0, 2)}
	got, ok := impl.Duties(list)
	want := [][]int{
		{0, 2, 3, 2, 0},
		{1, 0, 2, 2, 1},
		{3, 1, 0, 2, 3},
		{1, 1, 1, 0, 1},
		{0, 2, 3, 2, 0},
	}
	if !ok || !reflect.DeepEqual(got, want) {
		t.Error(got, ok, "not", want)
	}
	for _, none := range []ships{nil, {}} {
		if got, ok := impl.Duties(none); len(got) != 0 || !ok {
			t.Error("of none", got, ok)
		}
	}
	if got, ok := impl.Duties(list[:1]); !ok || !reflect.DeepEqual(got, [][]int{{0}}) {
		t.Error("of one", got, ok)
	}
}

func TestDutiesOfManyShips(t *testing.T) {
	d := &draws{state: 111}
	for _, count := range []int{2, 3, 10, 19, 20, 20, 20} {
		var list ships
		for range count {
			list = append(list, drawnShip(d, 30))
		}
		got, ok := impl.Duties(list)
		if !ok || len(got) != count {
			t.Fatal(count, len(got), ok)
		}
		for i, row := range got {
			if len(row) != count || row[i] != 0 {
				t.Fatal("row", i, row)
			}
			for j, duty := range row {
				if i != j && duty != dutyOf(list[i], list[j]) {
					t.Error(list[i], list[j], duty)
				}
			}
		}
	}
}

func TestMovedByHand(t *testing.T) {
	s := impl.Ship{X: 7, Y: -9, VX: -3, VY: 11, Sort: impl.SortFish, Draft: 6}
	for minutes, want := range map[int][2]int{0: {7, -9}, 1: {4, 2}, 2: {1, 13}, 50: {-143, 541}, 99: {-290, 1080}, 100: {-293, 1091}} {
		moved := s
		moved.X, moved.Y = want[0], want[1]
		if got, ok := impl.Moved(s, minutes); got != moved || !ok {
			t.Error(minutes, got, ok)
		}
	}
}

// At each of the four sides, what comes just to the bound and what goes beyond.
func TestMovedToTheBounds(t *testing.T) {
	for _, way := range [][2]int{{0, 10}, {3, 10}, {-1000, 10}, {7, 1000}} {
		for _, minutes := range []int{1, 60, 100} {
			s := drawing(power(-way[0]*minutes, 100000-way[1]*minutes, way[0], way[1]), 8)
			for range 4 {
				want := shifted(s, s.VX*minutes, s.VY*minutes)
				if got, ok := impl.Moved(s, minutes); got != want || !ok {
					t.Error("just to it", s, minutes, got, ok)
				}
				s = quartered(s)
			}
			s.Y++
			for range 4 {
				if got, ok := impl.Moved(s, minutes); got != (impl.Ship{}) || ok {
					t.Error("beyond", s, minutes, got, ok)
				}
				if got, ok := impl.Moved(s, minutes-1); got != shifted(s, s.VX*(minutes-1), s.VY*(minutes-1)) || !ok {
					t.Error("a minute sooner", s, minutes, got, ok)
				}
				s = quartered(s)
			}
		}
	}
	for _, s := range edgeShips() {
		for _, minutes := range []int{1, 37, 100} {
			want := shifted(s, s.VX*minutes, s.VY*minutes)
			isThere := shipOk(want)
			if !isThere {
				want = impl.Ship{}
			}
			if got, ok := impl.Moved(s, minutes); got != want || ok != isThere {
				t.Error(s, minutes, got, ok)
			}
		}
	}
}

// checkPair holds all answers about two ships against the document's words.
func checkPair(t *testing.T, a, b impl.Ship) {
	t.Helper()
	when, far, ok := impl.Closest(a, b)
	if wantWhen, wantFar, want := closestOf(a, b); when != wantWhen || far != wantFar || ok != want {
		t.Error("Closest", a, b, when, far, ok, "not", wantWhen, wantFar, want)
	}
	if got, want := impl.Behind(a, b), behindOf(a, b); got != want {
		t.Error("Behind", a, b, got)
	}
	if got, want := impl.HeadOn(a, b), headOnOf(a, b); got != want {
		t.Error("HeadOn", a, b, got)
	}
	if got, want := impl.Duty(a, b), dutyOf(a, b); got != want {
		t.Error("Duty", a, b, got, "not", want)
	}
}

func TestDrawnShips(t *testing.T) {
	d := &draws{state: 112}
	var behind, headOn, fallen int
	var duties [5]int
	for range 60000 {
		a, b := drawnPair(d)
		checkPair(t, a, b)
		if impl.Behind(a, b) {
			behind++
		}
		if impl.HeadOn(a, b) {
			headOn++
		}
		if duty := impl.Duty(a, b); duty < 5 {
			duties[duty]++
			if duty != impl.DutyNone && a.Sort == b.Sort && isRightOf(a, b) == isRightOf(b, a) {
				fallen++
			}
		}
		if t.Failed() {
			t.FailNow()
		}
	}
	if behind < 5000 || headOn < 1000 || fallen < 1000 || slices.Min(duties[:4]) < 1000 || duties[4] != 0 {
		t.Error("too few of a kind", behind, headOn, fallen, duties)
	}
}

func TestShipsAtTheLimits(t *testing.T) {
	all := edgeShips()
	for _, a := range all {
		for _, b := range all {
			checkPair(t, a, b)
			checkPair(t, sorted(a, 3), sorted(b, 3))
		}
	}
}

// Promise 8, the first part: what one has to do tells what the other has.
func TestOneKeepsJustWhereTheOtherKeepsClear(t *testing.T) {
	d := &draws{state: 113}
	for range 40000 {
		a, b := drawnPair(d)
		ours, theirs := impl.Duty(a, b), impl.Duty(b, a)
		if (ours == impl.DutyKeep) != (theirs == impl.DutyClear) || (ours == impl.DutyClear) != (theirs == impl.DutyKeep) {
			t.Fatal(a, b, ours, theirs)
		}
		for _, both := range []int{impl.DutyBoth, impl.DutyNone, impl.DutyBad} {
			if (ours == both) != (theirs == both) {
				t.Fatal(a, b, ours, theirs)
			}
		}
		if impl.Duty(a, a) != impl.DutyNone {
			t.Fatal("about itself", a)
		}
	}
	for name, s := range wrongShips() {
		for _, right := range []impl.Ship{power(0, 0, 1, 1), power(3, 4, -5, -6)} {
			if impl.Duty(s, right) != impl.DutyBad || impl.Duty(right, s) != impl.DutyBad {
				t.Error(name)
			}
		}
	}
}

// Promise 8, the second part: neither another part of the sea nor a turn about
// a quarter is to be seen in a duty.
func TestDutiesMovedAndTurned(t *testing.T) {
	d := &draws{state: 114}
	for range 20000 {
		a, b := drawnPair(d)
		want := impl.Duty(a, b)
		x := d.between(-100000-min(a.X, b.X), 100000-max(a.X, b.X))
		y := d.between(-100000-min(a.Y, b.Y), 100000-max(a.Y, b.Y))
		for _, by := range [][2]int{{x, y}, {-100000 - min(a.X, b.X), 100000 - max(a.Y, b.Y)}, {100000 - max(a.X, b.X), -100000 - min(a.Y, b.Y)}} {
			one, other := shifted(a, by[0], by[1]), shifted(b, by[0], by[1])
			for range 4 {
				if got := impl.Duty(one, other); got != want {
					t.Fatal(a, b, want, "but", one, other, got)
				}
				one, other = quartered(one), quartered(other)
			}
		}
	}
}

func TestListsOfDutiesMovedAndTurned(t *testing.T) {
	d := &draws{state: 115}
	for range 60 {
		var list ships
		for range d.below(21) {
			list = append(list, drawnShip(d, 500))
		}
		want, _ := impl.Duties(list)
		x, y := d.between(-99500, 99500), d.between(-99500, 99500)
		for i, s := range list {
			list[i] = shifted(s, x, y)
		}
		for range 4 {
			if got, ok := impl.Duties(list); !ok || !reflect.DeepEqual(got, want) {
				t.Fatal(list, got, ok, "not", want)
			}
			for i, s := range list {
				list[i] = quartered(s)
			}
		}
	}
}
