package tests

import (
	"math"
	"math/big"
	"slices"

	"loop.example/g00059/impl"
)

type ships = []impl.Ship

// power is a ship under power without a draft.
func power(x, y, vx, vy int) impl.Ship {
	return impl.Ship{X: x, Y: y, VX: vx, VY: vy, Sort: impl.SortPower}
}

func sorted(s impl.Ship, sort int) impl.Ship {
	s.Sort = sort
	return s
}

func drawing(s impl.Ship, draft int) impl.Ship {
	s.Draft = draft
	return s
}

// shifted lies at another part of the sea.
func shifted(s impl.Ship, x, y int) impl.Ship {
	s.X, s.Y = s.X+x, s.Y+y
	return s
}

// quartered is turned about a quarter to the left.
func quartered(s impl.Ship) impl.Ship {
	s.X, s.Y = -s.Y, s.X
	s.VX, s.VY = -s.VY, s.VX
	return s
}

// glassed is seen in a mirror: left is right.
func glassed(s impl.Ship) impl.Ship {
	s.X, s.VX = -s.X, -s.VX
	return s
}

func shipOk(s impl.Ship) bool {
	for _, far := range []int{s.X, s.Y} {
		if far < -100000 || far > 100000 {
			return false
		}
	}
	for _, far := range []int{s.VX, s.VY} {
		if far < -1000 || far > 1000 {
			return false
		}
	}
	return (s.VX != 0 || s.VY != 0) && slices.Contains([]int{1, 2, 3, 4, 5}, s.Sort) && s.Draft >= 0 && s.Draft <= 1000
}

// pointed is a vector of numbers of any size.
type pointed struct{ x, y *big.Int }

func bearingOf(s, from impl.Ship) pointed {
	return pointed{big.NewInt(int64(s.X) - int64(from.X)), big.NewInt(int64(s.Y) - int64(from.Y))}
}

func headingOf(s impl.Ship) pointed { return pointed{big.NewInt(int64(s.VX)), big.NewInt(int64(s.VY))} }

func relativeOf(a, b impl.Ship) pointed {
	return pointed{big.NewInt(int64(b.VX) - int64(a.VX)), big.NewInt(int64(b.VY) - int64(a.VY))}
}

func (a pointed) dot(b pointed) *big.Int {
	return new(big.Int).Add(new(big.Int).Mul(a.x, b.x), new(big.Int).Mul(a.y, b.y))
}

func (a pointed) cross(b pointed) *big.Int {
	return new(big.Int).Sub(new(big.Int).Mul(a.x, b.y), new(big.Int).Mul(a.y, b.x))
}

// isBounded tells whether the square of the cross, so many times, is at most
// that of the dot, so many times.
func (a pointed) isBounded(b pointed, crossTimes, dotTimes int64) bool {
	cross, dot := a.cross(b), a.dot(b)
	cross.Mul(cross.Mul(cross, cross), big.NewInt(crossTimes))
	return cross.Cmp(dot.Mul(dot.Mul(dot, dot), big.NewInt(dotTimes))) <= 0
}

func fracOf(r *big.Rat) impl.Frac {
	return impl.Frac{Num: int(r.Num().Int64()), Den: int(r.Denom().Int64())}
}

func isClosingOf(a, b impl.Ship) bool {
	d := bearingOf(b, a)
	return d.dot(d).Sign() != 0 && d.dot(relativeOf(a, b)).Sign() < 0
}

func closestOf(a, b impl.Ship) (impl.Frac, impl.Frac, bool) {
	if !shipOk(a) || !shipOk(b) {
		return impl.Frac{}, impl.Frac{}, false
	}
	d, v := bearingOf(b, a), relativeOf(a, b)
	if d.dot(v).Sign() >= 0 {
		return frac(0, 1), fracOf(new(big.Rat).SetInt(d.dot(d))), true
	}
	when := new(big.Rat).SetFrac(new(big.Int).Neg(d.dot(v)), v.dot(v))
	cross := d.cross(v)
	return fracOf(when), fracOf(new(big.Rat).SetFrac(cross.Mul(cross, cross), v.dot(v))), true
}

func behindOf(a, b impl.Ship) bool {
	r, h := bearingOf(a, b), headingOf(b)
	return shipOk(a) && shipOk(b) && r.dot(h).Sign() < 0 && r.isBounded(h, 5, 29)
}

func headOnOf(a, b impl.Ship) bool {
	if !shipOk(a) || !shipOk(b) {
		return false
	}
	r, h, k := bearingOf(b, a), headingOf(a), headingOf(b)
	if h.dot(k).Sign() >= 0 || r.dot(h).Sign() <= 0 || r.dot(k).Sign() >= 0 {
		return false
	}
	return h.isBounded(k, 100, 1) && r.isBounded(h, 100, 1) && r.isBounded(k, 100, 1)
}

func isRightOf(s, of impl.Ship) bool { return headingOf(of).cross(bearingOf(s, of)).Sign() < 0 }

// clearsOf tells, ahead of Draft, which of two that close keeps clear: 1 for
// a, -1 for b, 0 for neither.
func clearsOf(a, b impl.Ship) int {
	if behindOf(a, b) != behindOf(b, a) {
		if behindOf(a, b) {
			return 1
		}
		return -1
	}
	if a.Sort != b.Sort {
		if a.Sort < b.Sort {
			return 1
		}
		return -1
	}
	if isRightOf(b, a) == isRightOf(a, b) {
		return 0
	}
	if isRightOf(b, a) {
		return 1
	}
	return -1
}

func dutyOf(a, b impl.Ship) int {
	if !shipOk(a) || !shipOk(b) {
		return impl.DutyBad
	}
	if !isClosingOf(a, b) {
		return impl.DutyNone
	}
	clears := clearsOf(a, b)
	// Who meets end on is behind none, so that Sort alone comes ahead of it.
	if headOnOf(a, b) && a.Sort == 1 && b.Sort == 1 {
		return impl.DutyBoth
	}
	if clears == 0 {
		clears = b.Draft - a.Draft
	}
	switch {
	case clears > 0:
		return impl.DutyClear
	case clears < 0:
		return impl.DutyKeep
	}
	return impl.DutyBoth
}

// otherDuty is what the other one has to do.
func otherDuty(duty int) int {
	switch duty {
	case impl.DutyKeep:
		return impl.DutyClear
	case impl.DutyClear:
		return impl.DutyKeep
	}
	return duty
}

// drawnShip lies in a part of the sea that is often small, so that ships are
// at one place, in one line and abeam; its way is often straight.
func drawnShip(d *draws, far int) impl.Ship {
	s := power(d.between(-far, far), d.between(-far, far), 0, 0)
	for s.VX == 0 && s.VY == 0 {
		fast := []int{1, 2, 10, 1000}[d.below(4)]
		s.VX, s.VY = d.between(-fast, fast), d.between(-fast, fast)
	}
	if d.below(2) == 0 {
		s.Sort = d.between(1, 5)
	}
	s.Draft = []int{0, 1, 2, 1000}[d.below(4)]
	return s
}

// drawnPair is two ships, some of which meet nearly end on or go one behind
// the other.
func drawnPair(d *draws) (impl.Ship, impl.Ship) {
	far := []int{0, 1, 2, 5, 30, 1000, 100000}[d.below(7)]
	a, b := drawnShip(d, far), drawnShip(d, far)
	switch d.below(4) {
	case 0:
		b.VX, b.VY = -a.VX, -a.VY
	case 1:
		b.VX, b.VY = a.VX, a.VY
	}
	if d.below(3) == 0 {
		times := d.between(-90, 90)
		b.X, b.Y = a.X+times*a.VX+d.between(-2, 2), a.Y+times*a.VY+d.between(-2, 2)
		b.X, b.Y = max(-100000, min(100000, b.X)), max(-100000, min(100000, b.Y))
	}
	return a, b
}

// edgeShips are right ones at the ends of all limits.
func edgeShips() ships {
	var all ships
	for _, x := range []int{-100000, 0, 100000} {
		for _, y := range []int{-100000, 100000} {
			for _, way := range [][2]int{{-1000, -1000}, {-1000, 1000}, {1000, -999}, {1000, 1000}, {0, 1}, {-1, 0}, {-999, 1000}, {0, -1000}} {
				all = append(all, power(x, y, way[0], way[1]))
			}
		}
	}
	return all
}

// wrongShips pass one limit each, most of them by one.
func wrongShips() map[string]impl.Ship {
	right := power(3, 4, 5, 6)
	all := map[string]impl.Ship{
		"empty":        {},
		"no way":       power(3, 4, 0, 0),
		"no way, deep": drawing(power(-100000, 100000, 0, 0), 1000),
		"Sort 0":       sorted(right, 0),
		"Sort -1":      sorted(right, -1),
		"Sort 6":       sorted(right, 6),
		"least Sort":   sorted(right, math.MinInt),
		"Sort great":   sorted(right, math.MaxInt),
		"Draft -1":     drawing(right, -1),
		"Draft 1001":   drawing(right, 1001),
		"least Draft":  drawing(right, math.MinInt),
		"Draft great":  drawing(right, math.MaxInt),
	}
	for name, far := range map[string]int{"-100001": -100001, "100001": 100001, "least": math.MinInt, "greatest": math.MaxInt} {
		all["X "+name] = power(far, 4, 5, 6)
		all["Y "+name] = power(3, far, 5, 6)
		all["X and Y "+name] = power(far, far, 5, 6)
	}
	for name, far := range map[string]int{"-1001": -1001, "1001": 1001, "least": math.MinInt, "greatest": math.MaxInt} {
		all["VX "+name] = power(3, 4, far, 6)
		all["VY "+name] = power(3, 4, 5, far)
		all["VX alone "+name] = power(3, 4, far, 0)
		all["VY alone "+name] = power(3, 4, 0, far)
		all["VX and VY "+name] = power(3, 4, far, far)
	}
	return all
}
