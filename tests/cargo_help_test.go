package tests

import (
	"fmt"
	"math"
	"math/big"
	"slices"

	"loop.example/g00059/impl"
)

type (
	cargoes  = []impl.CargoTank
	cargoOps = []impl.CargoOp
)

func cargo(has, most, side, gas, air int) impl.CargoTank {
	return impl.CargoTank{Has: has, Most: most, Side: side, Gas: gas, Air: air}
}

// inert is a tank on the middle line with nothing but inert gas above.
func inert(has, most int) impl.CargoTank { return cargo(has, most, 0, 0, 0) }

// above is a tank with so much gas and air above what it has.
func above(gas, air int) impl.CargoTank { return cargo(50, 100, 0, gas, air) }

func filling(a, many int) impl.CargoOp { return impl.CargoOp{Kind: 1, A: a, Many: many} }

func emptying(a, many int) impl.CargoOp { return impl.CargoOp{Kind: 2, A: a, Many: many} }

func pouring(a, b, many int) impl.CargoOp { return impl.CargoOp{Kind: 3, A: a, B: b, Many: many} }

func inerting(a, many int) impl.CargoOp { return impl.CargoOp{Kind: 4, A: a, Many: many} }

func venting(a, many int) impl.CargoOp { return impl.CargoOp{Kind: 5, A: a, Many: many} }

func withCargo(list cargoes, at int, tank impl.CargoTank) cargoes {
	list = slices.Clone(list)
	list[at] = tank
	return list
}

func withB(op impl.CargoOp, b int) impl.CargoOp {
	op.B = b
	return op
}

func cargoOk(c impl.CargoTank) bool {
	inert := new(big.Int).Sub(big.NewInt(1000), new(big.Int).Add(big.NewInt(int64(c.Gas)), big.NewInt(int64(c.Air))))
	if c.Gas < 0 || c.Air < 0 || inert.Sign() < 0 {
		return false
	}
	return 0 <= c.Has && c.Has <= c.Most && c.Most <= 100000 && -50 <= c.Side && c.Side <= 50
}

func cargoesOk(list cargoes) bool {
	isWrong := func(c impl.CargoTank) bool { return !cargoOk(c) }
	return len(list) > 0 && len(list) <= 12 && !slices.ContainsFunc(list, isWrong)
}

func mayBurnOf(c impl.CargoTank) bool { return c.Air > 110 && c.Gas >= 20 && c.Gas <= 600 }

func leanOf(list cargoes) int {
	lean := 0
	for _, c := range list {
		lean += c.Has * c.Side
	}
	return lean
}

func cargoIn(list cargoes) int {
	sum := 0
	for _, c := range list {
		sum += c.Has
	}
	return sum
}

// namesOf are the places of the tanks that an op names.
func namesOf(op impl.CargoOp) []int {
	if op.Kind == 3 {
		return []int{op.A, op.B}
	}
	return []int{op.A}
}

func cargoOpOf(op impl.CargoOp, tanks int) bool {
	most, isKind := map[int]int{1: 100000, 2: 100000, 3: 100000, 4: 100, 5: 100}[op.Kind]
	if !isKind || op.Many < 1 || op.Many > most || op.Kind == 3 && op.A == op.B {
		return false
	}
	isBeyond := func(place int) bool { return place < 0 || place >= tanks }
	return !slices.ContainsFunc(namesOf(op), isBeyond)
}

// leftOf is what is left of a share, by an exact fraction.
func leftOf(share, part, whole int) int {
	left := new(big.Rat).Mul(big.NewRat(int64(share), 1), big.NewRat(int64(part), int64(whole)))
	return int(floorOf(left).Int64())
}

// behindOp is the list behind an op that is as told: what the tanks have
// first, then what stands above.
func behindOp(list cargoes, op impl.CargoOp) cargoes {
	now := slices.Clone(list)
	if op.Kind == 1 {
		now[op.A].Has += op.Many
	}
	if op.Kind == 2 || op.Kind == 3 {
		now[op.A].Has -= op.Many
	}
	if op.Kind == 3 {
		now[op.B].Has += op.Many
	}
	was, is := list[op.A], &now[op.A]
	if op.Kind == 2 || op.Kind == 3 {
		is.Gas = leftOf(was.Gas, was.Most-was.Has, is.Most-is.Has)
		is.Air = leftOf(was.Air, was.Most-was.Has, is.Most-is.Has)
	}
	if op.Kind == 4 || op.Kind == 5 {
		is.Gas, is.Air = leftOf(was.Gas, 100-op.Many, 100), leftOf(was.Air, 100-op.Many, 100)
	}
	if op.Kind == 5 {
		is.Air += 10 * op.Many
	}
	return now
}

// faultsOf are all codes of which the reason is so behind an op, in the order
// of the chapter.
func faultsOf(list, now cargoes, op impl.CargoOp, lean int) []int {
	was, is := apart(leanOf(list), 0), apart(leanOf(now), 0)
	reasons := []bool{
		slices.ContainsFunc(now, func(c impl.CargoTank) bool { return c.Has < 0 }),
		slices.ContainsFunc(now, func(c impl.CargoTank) bool { return c.Has > c.Most }),
		slices.ContainsFunc(namesOf(op), func(place int) bool { return mayBurnOf(now[place]) }),
		is > lean && is > was,
	}
	var codes []int
	for i, isSo := range reasons {
		if isSo {
			codes = append(codes, i+2)
		}
	}
	return codes
}

func cargoStepOf(list cargoes, op impl.CargoOp, lean int) (cargoes, int) {
	if !cargoesOk(list) || !cargoOpOf(op, len(list)) || lean < 0 || lean > 100000000 {
		return slices.Clone(list), 1
	}
	now := behindOp(list, op)
	if codes := faultsOf(list, now, op, lean); len(codes) > 0 {
		return slices.Clone(list), codes[0]
	}
	return now, 0
}

func cargoRunOf(list cargoes, ops cargoOps, lean int) (cargoes, []int) {
	now := slices.Clone(list)
	if len(ops) > 100 {
		return now, nil
	}
	var codes []int
	for _, op := range ops {
		var code int
		now, code = cargoStepOf(now, op, lean)
		codes = append(codes, code)
	}
	return now, codes
}

// ullageOf goes from amount to amount, by exact fractions.
func ullageOf(table []int, has int) (int, bool) {
	if len(table) < 2 || len(table) > 30 || has < 0 {
		return 0, false
	}
	for i, n := range table {
		if n < 0 || n > 100000 || i > 0 && n >= table[i-1] {
			return 0, false
		}
	}
	for i, n := range table {
		switch d := has - 100*i; {
		case d == 0:
			return n, true
		case d < 100 && i+1 < len(table):
			return n - leftOf(n-table[i+1], d, 100), true
		}
	}
	return 0, false
}

// surveyOf looks for the whole number that is nearest to the eighths.
func surveyOf(fore, mid, aft, per int) (int, bool) {
	for _, draft := range []int{fore, mid, aft} {
		if draft < 0 || draft > 20000 {
			return 0, false
		}
	}
	if per < 1 || per > 1000 {
		return 0, false
	}
	eighths := per*fore + 6*per*mid + per*aft
	less := eighths / 8
	if eighths-8*less < 8*(less+1)-eighths {
		return less, true
	}
	return less + 1, true
}

func drawnShares(d *draws) (gas, air int) {
	gas = []int{0, 19, 20, 21, 599, 600, 601, d.below(1001), d.below(200)}[d.below(9)]
	air = []int{0, 109, 110, 111, 112, d.below(1001), 1000 - gas}[d.below(7)]
	return gas, min(air, 1000-gas)
}

// drawnCargo is small or great, and often just empty or just full.
func drawnCargo(d *draws) impl.CargoTank {
	great := []int{3, 40, 1000, 100000}[d.below(4)]
	most := []int{great, d.below(great + 1)}[d.below(2)]
	has := []int{0, d.below(most + 1), most}[d.below(3)]
	gas, air := drawnShares(d)
	return cargo(has, most, []int{-50, 50, 0, d.between(-50, 50), d.between(-2, 2)}[d.below(5)], gas, air)
}

func drawnCargoes(d *draws) cargoes {
	list := make(cargoes, []int{1, 2, d.between(1, 12), 12}[d.below(4)])
	for i := range list {
		list[i] = drawnCargo(d)
	}
	return list
}

// drawnCargoOp has something that is not so now and then, and otherwise often
// just what a tank has or has room for.
func drawnCargoOp(d *draws, list cargoes) impl.CargoOp {
	op := impl.CargoOp{Kind: d.between(1, 5), A: d.below(len(list)), B: d.below(len(list))}
	own, other := list[op.A], list[op.B]
	if op.Kind < 4 {
		op.Many = max(1, []int{own.Has, own.Most - own.Has, other.Most - other.Has, d.between(1, own.Most+1), d.between(1, 5)}[d.below(5)])
		op.Many = min(100000, op.Many+d.below(8)/7)
	} else {
		op.Many = []int{1, 100, d.between(1, 100), d.between(1, 20), d.between(80, 100)}[d.below(5)]
	}
	switch d.below(30) {
	case 0:
		op.A = []int{-1, len(list)}[d.below(2)]
	case 1:
		op.B = []int{-1, len(list), op.A}[d.below(3)]
	case 2:
		op.Many = []int{0, -1, 101, 100001}[d.below(4)]
	case 3:
		op.Kind = []int{0, 6, -1}[d.below(3)]
	}
	return op
}

func drawnCargoOps(d *draws, list cargoes) cargoOps {
	ops := make(cargoOps, []int{d.below(6), d.below(101), 100}[d.below(3)])
	for i := range ops {
		ops[i] = drawnCargoOp(d, list)
	}
	return ops
}

// drawnLean is often about as much as the list leans.
func drawnLean(d *draws, list cargoes) int {
	own := apart(leanOf(list), 0)
	return []int{0, own, own + d.below(100), max(0, own-d.below(100)), d.below(1000), 100000000, 100000000, 100000000}[d.below(8)]
}

// drawnUllages fall by small steps or great ones.
func drawnUllages(d *draws) []int {
	table := make([]int, []int{2, d.between(2, 30), 30}[d.below(3)])
	great := []int{1, 3, 150, 3000}[d.below(4)]
	n := []int{d.below(5), 0}[d.below(2)]
	for i := range table {
		table[len(table)-1-i] = n
		n += d.between(1, great)
	}
	return table
}

// downTo0 falls by one each.
func downTo0(count int) []int { return backwards(upTo(count)) }

// wrongCargo passes one limit each, most of them by one.
func wrongCargo() map[string]impl.CargoTank {
	return map[string]impl.CargoTank{
		"Has -1": inert(-1, 9), "one above Most": inert(10, 9), "Most 10^5 and one": inert(5, 100001), "all of them": inert(100001, 100001),
		"both -1": inert(-1, -1), "Most -1": inert(0, -1), "least Has": inert(math.MinInt, 9), "greatest Has": inert(math.MaxInt, 9),
		"least Most": inert(0, math.MinInt), "greatest Most": inert(0, math.MaxInt), "both least": inert(math.MinInt, math.MinInt), "both greatest": inert(math.MaxInt, math.MaxInt),
		"Side -51": cargo(5, 9, -51, 0, 0), "Side 51": cargo(5, 9, 51, 0, 0), "least Side": cargo(5, 9, math.MinInt, 0, 0), "greatest Side": cargo(5, 9, math.MaxInt, 0, 0),
		"Gas -1": above(-1, 0), "Gas -1 beside Air": above(-1, 1000), "Gas 1001": above(1001, 0), "least Gas": above(math.MinInt, 0), "greatest Gas": above(math.MaxInt, 0),
		"Air -1": above(0, -1), "Air -1 beside Gas": above(1000, -1), "Air 1001": above(0, 1001), "least Air": above(0, math.MinInt), "greatest Air": above(0, math.MaxInt),
		"together 1001": above(500, 501), "together 1001, most of it Gas": above(1000, 1), "together 1001, most of it Air": above(1, 1000), "both 1000": above(1000, 1000),
		"Gas 1001 less 1": above(1001, -1), "Air 1001 less 1": above(-1, 1001), "both least above": above(math.MinInt, math.MinInt), "both greatest above": above(math.MaxInt, math.MaxInt),
		"greatest Gas and least Air": above(math.MaxInt, math.MinInt), "least Gas and greatest Air": above(math.MinInt, math.MaxInt),
	}
}

func wrongCargoes() map[string]cargoes {
	all := map[string]cargoes{
		"none": nil, "an empty list": {}, "one more": slices.Repeat(cargoes{inert(5, 9)}, 13), "one more, empty ones": make(cargoes, 13), "many more": make(cargoes, 3000),
	}
	right := slices.Repeat(cargoes{inert(5, 9)}, 12)
	for name, c := range wrongCargo() {
		all[name+", by itself"] = cargoes{c}
		for _, at := range []int{0, 1, 2} {
			all[fmt.Sprint(name, " at ", at)] = withCargo(right[:3], at, c)
		}
		all[name+", the twelfth"] = withCargo(right, 11, c)
	}
	return all
}

// wrongCargoOps are so for three tanks of 4 in 9: each passes one limit, most
// by one.
func wrongCargoOps() map[string]impl.CargoOp {
	all := map[string]impl.CargoOp{"empty": {}, "both 0": pouring(0, 0, 1), "both 1": pouring(1, 1, 1), "both the last": pouring(2, 2, 1), "both none": pouring(3, 3, 1), "both -1": pouring(-1, -1, 1)}
	for _, kind := range []int{0, -1, 6, 7, math.MinInt, math.MaxInt} {
		all[fmt.Sprint("Kind ", kind)] = impl.CargoOp{Kind: kind, A: 0, B: 1, Many: 1}
	}
	for kind := 1; kind <= 5; kind++ {
		for _, place := range []int{-1, -2, 3, 4, 12, math.MinInt, math.MaxInt} {
			all[fmt.Sprint("Kind ", kind, " A ", place)] = impl.CargoOp{Kind: kind, A: place, B: 1, Many: 1}
		}
		for _, many := range []int{0, -1, 100001, math.MinInt, math.MaxInt} {
			all[fmt.Sprint("Kind ", kind, " Many ", many)] = impl.CargoOp{Kind: kind, A: 0, B: 1, Many: many}
		}
	}
	for _, place := range []int{-1, -2, 3, 4, 12, math.MinInt, math.MaxInt} {
		all[fmt.Sprint("B ", place)] = pouring(0, place, 1)
	}
	all["inert 101"], all["vent 101"] = inerting(0, 101), venting(0, 101)
	all["inert 10^5"], all["vent 10^5"] = inerting(0, 100000), venting(0, 100000)
	return all
}

func wrongUllages() map[string][]int {
	all := map[string][]int{
		"none": nil, "an empty list": {}, "one number": {5}, "one more": downTo0(31), "many more": downTo0(3000), "empty numbers": make([]int, 3),
		"alike": {9, 9}, "alike at the end": {9, 8, 8}, "alike at the start": {9, 9, 8}, "one that grows": {9, 7, 8}, "all grow": {7, 8, 9}, "one ahead of the last but one": {9, 7, 8, 6},
	}
	for _, n := range []int{-1, 100001, math.MinInt, math.MaxInt} {
		for at := range 3 {
			table := []int{9, 5, 1}
			table[at] = n
			all[fmt.Sprint(n, " at ", at)] = table
		}
	}
	all["-1 at the end of 30"] = append(downTo0(29), -1)
	all["100001 ahead of 29"] = append([]int{100001}, downTo0(29)...)
	return all
}
