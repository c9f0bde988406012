package tests

import (
	"math"
	"slices"
	"testing"

	"loop.example/g00059/impl"
)

// Promise 16: money, bonds and duty balance; nothing is gone but free or by way
// of a bond; what is held stays.

func TestCustomsConstants(t *testing.T) {
	got := []int{impl.MaxLots, impl.MaxTraders, impl.MaxDeeds, impl.LotLanded, impl.LotHeld, impl.LotTransit, impl.LotFree, impl.LotGone,
		impl.DeedLand, impl.DeedHold, impl.DeedLift, impl.DeedPay, impl.DeedTransit, impl.DeedArrive, impl.DeedTake, impl.DeedSplit,
		impl.DeedDone, impl.DeedBad, impl.DeedHas, impl.DeedNone, impl.DeedState, impl.DeedPoor}
	if want := []int{40, 10, 200, 1, 2, 3, 4, 5, 1, 2, 3, 4, 5, 6, 7, 8, 0, 1, 2, 3, 4, 5}; !slices.Equal(got, want) {
		t.Error(got, "not", want)
	}
}

func checkDuty6(t *testing.T, many, value, rate, want int, ok bool) {
	t.Helper()
	if got, told := impl.Duty6(many, value, rate); got != want || told != ok {
		t.Error(many, value, rate, "got", got, told, "not", want, ok)
	}
}

func TestDuty6ByHand(t *testing.T) {
	checkDuty6(t, 10, 20, 100, 20, true)
	checkDuty6(t, 3, 333, 10, 9, true)
	checkDuty6(t, 1, 1, 999, 0, true)
	checkDuty6(t, 1, 1, 1000, 1, true)
	checkDuty6(t, 1, 1, 1001, 1, true)
	checkDuty6(t, 1, 1, 1999, 1, true)
	checkDuty6(t, 1, 1, 2000, 2, true)
	checkDuty6(t, 1, 1, 5000, 5, true)
	checkDuty6(t, 7, 11, 13, 1, true)
	checkDuty6(t, 37, 27, 1, 0, true)
	checkDuty6(t, 40, 25, 1, 1, true)
	checkDuty6(t, 1000000, 1, 1, 1000, true)
	checkDuty6(t, 999999, 999999, 4999, 4998990002004, true)
	checkDuty6(t, 1000000, 1000000, 5000, 5000000000000, true)
}

// Each of the three at its bounds and one beyond, with the two others at
// theirs.
func TestDuty6AtItsEdges(t *testing.T) {
	for _, many := range []int{0, 1, 1000000, 1000001} {
		for _, value := range []int{-1, 0, 1, 1000000, 1000001} {
			for _, rate := range []int{-1, 0, 1, 5000, 5001} {
				isSo := many != 0 && many != 1000001 && value != -1 && value != 1000001 && rate != -1 && rate != 5001
				want := 0
				if isSo {
					want = many * value * rate / 1000
				}
				checkDuty6(t, many, value, rate, want, isSo)
			}
		}
	}
	checkDuty6(t, 1, 0, 0, 0, true)
	checkDuty6(t, 1, 0, 5000, 0, true)
	checkDuty6(t, 1000000, 1000000, 0, 0, true)
	for _, n := range []int{math.MinInt, math.MinInt + 1, -1000, -1, math.MaxInt - 1, math.MaxInt} {
		checkDuty6(t, n, 5, 5, 0, false)
		checkDuty6(t, 5, n, 5, 0, false)
		checkDuty6(t, 5, 5, n, 0, false)
		checkDuty6(t, n, n, n, 0, false)
	}
}

// Nothing is rounded ahead of the end, and then down.
func TestDuty6OfManyKinds(t *testing.T) {
	d := &draws{state: 190}
	rests := 0
	for range 20000 {
		many, value, rate := drawnWares(d)
		want, ok := dutyWant(many, value, rate)
		checkDuty6(t, many, value, rate, want, ok)
		if many*value*rate%1000 != 0 {
			rests++
		}
	}
	if rests < 5000 {
		t.Error("few do not divide evenly", rests)
	}
}

func TestHouseOkAtItsLimits(t *testing.T) {
	one := traders{trader(100, 100)}
	last := make(traders, 10)
	transit := house(traders{trader(0, 24)}, inState(3, 3), inState(4, 3))
	for name, h := range map[string]impl.House{
		"nothing": {}, "empty lists": {Lots: lots{}, Traders: traders{}}, "one trader": house(one), "10 traders": {Traders: last}, "one lot": shed(1), "39 lots": shed(39), "40 lots": shed(40),
		"Id 1": house(one, inState(1, 1)), "Id 10^6": house(one, inState(1000000, 1)), "Ids 1 and 10^6": house(one, inState(1, 1), inState(1000000, 1)), "Ids side by side": house(one, inState(4, 1), inState(5, 1)),
		"of the last trader": house(last, lot(3, 9, 6, 20, 100, 1)), "of the first": house(last, lot(3, 0, 6, 20, 100, 1)), "Many 1": house(one, lot(3, 0, 1, 20, 100, 1)), "Many 10^6": house(one, lot(3, 0, 1000000, 20, 100, 1)),
		"Value 0": house(one, lot(3, 0, 6, 0, 100, 1)), "Value 10^6": house(one, lot(3, 0, 6, 1000000, 100, 1)), "Rate 0": house(one, lot(3, 0, 6, 20, 0, 1)), "Rate 5000": house(one, lot(3, 0, 6, 20, 5000, 1)),
		"landed": house(one, inState(3, 1)), "held": house(one, inState(3, 2)), "in transit": house(one, inState(3, 3)), "free": house(one, inState(3, 4)), "gone": house(one, inState(3, 5)),
		"all of the bond bound": transit, "a bond of 0": house(traders{{}}, lot(3, 0, 6, 0, 100, 3)), "nothing of a great bond": house(traders{trader(0, mostWealth)}), "the greatest duty": house(traders{trader(0, 5000000000000)}, lot(3, 0, 1000000, 1000000, 5000, 3)),
		"Money 10^15": house(traders{trader(mostWealth, 0)}), "Taken 10^15": withTaken(house(one), mostWealth), "Taken 10^15 and nobody": {Taken: mostWealth}, "all 10^15": withTaken(house(slices.Repeat(traders{trader(mostWealth, mostWealth)}, 10)), mostWealth),
		"two who bind": house(traders{trader(0, 12), {}, trader(0, 13)}, inState(3, 3), lot(4, 2, 6, 20, 100, 3)), "one Id less than the next by much": house(one, inState(1, 2), inState(900000, 2)),
	} {
		if !impl.HouseOk(h) {
			t.Error(name, "is not ok")
		}
	}
	for name, h := range wrongHouses() {
		if impl.HouseOk(h) {
			t.Error(name, "is ok")
		}
	}
}

// What is bound is the sum of the lots' bonds, of each trader by themselves.
func TestBoundIsTheSumOfTheBonds(t *testing.T) {
	for bond := 23; bond <= 25; bond++ {
		for first := -1; first <= 26; first++ {
			for second := -1; second <= 26; second++ {
				h := impl.House{Lots: lots{inState(3, 3), lot(4, 1, 6, 20, 100, 3), lot(5, 1, 6, 20, 100, 2), inState(6, 3)}}
				h.Traders = traders{{Bond: bond, Bound: first}, {Bond: 13, Bound: second}}
				if want := bond >= 24 && first == 24 && second == 12; impl.HouseOk(h) != want {
					t.Error(h, !want)
				}
			}
		}
	}
}

func TestHouseOkOfDrawnOnes(t *testing.T) {
	d := &draws{state: 191}
	seen := map[bool]int{}
	for range 10000 {
		h := drawnHouse(d)
		for range d.below(4) {
			spoilHouse(d, &h)
		}
		if impl.HouseOk(h) != houseOkOf(h) {
			t.Fatal(h)
		}
		seen[houseOkOf(h)]++
	}
	if seen[true] < 2000 || seen[false] < 2000 {
		t.Error("few drawn", seen)
	}
}

// spoilHouse changes something that may well stay right.
func spoilHouse(d *draws, h *impl.House) {
	if len(h.Traders) > 0 && d.below(3) == 0 {
		has := &h.Traders[d.below(len(h.Traders))]
		*[]*int{&has.Money, &has.Bond, &has.Bound}[d.below(3)] += d.between(-1, 1)
		return
	}
	if len(h.Lots) == 0 || d.below(5) == 0 {
		h.Taken += d.between(-1, 1)
		return
	}
	own := &h.Lots[d.below(len(h.Lots))]
	switch d.below(9) {
	case 0:
		h.Lots = append(h.Lots, inState([]int{1000000, 1000001, 60}[d.below(3)], 1))
	case 1:
		h.Traders = append(h.Traders, trader(1, 1))
	default:
		*[]*int{&own.Id, &own.Owner, &own.Many, &own.Value, &own.Rate, &own.State, &own.Bond}[d.below(7)] += d.between(-1, 1)
	}
}

func checkDeed(t *testing.T, h impl.House, d impl.Deed, want impl.House, code int) {
	t.Helper()
	if got, told := impl.DoDeed(h, d); !sameHouse(got, want) || told != code {
		t.Error(h, d, "got", got, told, "not", want, code)
	}
}

func checkNoDeed(t *testing.T, h impl.House, d impl.Deed, code int) {
	t.Helper()
	checkDeed(t, h, d, h, code)
}

func TestDeedsByHand(t *testing.T) {
	money := traders{trader(5, 6), trader(100, 50)}
	with := func(state int) impl.House { return withTaken(house(money, lot(7, 1, 6, 20, 100, state)), 30) }
	for name, deed := range map[string]struct {
		kind, from, to int
		behind         impl.Trader
		taken          int
	}{
		"hold":    {impl.DeedHold, impl.LotLanded, impl.LotHeld, trader(100, 50), 30},
		"lift":    {impl.DeedLift, impl.LotHeld, impl.LotLanded, trader(100, 50), 30},
		"pay":     {impl.DeedPay, impl.LotLanded, impl.LotFree, trader(88, 50), 42},
		"transit": {impl.DeedTransit, impl.LotLanded, impl.LotTransit, impl.Trader{Money: 100, Bond: 50, Bound: 12}, 30},
		"arrive":  {impl.DeedArrive, impl.LotTransit, impl.LotGone, trader(100, 50), 30},
		"take":    {impl.DeedTake, impl.LotFree, impl.LotGone, trader(100, 50), 30},
	} {
		want := impl.House{Lots: lots{{Id: 7, Owner: 1, Many: 6, Value: 20, Rate: 100, State: deed.to}}, Traders: traders{trader(5, 6), deed.behind}, Taken: deed.taken}
		if deed.to == impl.LotTransit {
			want.Lots[0].Bond = 12
		}
		got, code := impl.DoDeed(with(deed.from), doing(deed.kind, 7))
		if !sameHouse(got, want) || code != impl.DeedDone {
			t.Error(name, got, code, "not", want)
		}
	}
	landed := impl.House{Lots: lots{{Id: 7, Owner: 1, Many: 6, Value: 20, Rate: 100, State: impl.LotLanded}}, Traders: money}
	checkDeed(t, impl.House{Traders: money}, landing(7, 1, 6, 20, 100), landed, impl.DeedDone)
	split := impl.House{Lots: lots{{Id: 3, Owner: 1, Many: 2, Value: 20, Rate: 100, State: impl.LotLanded}, {Id: 7, Owner: 1, Many: 4, Value: 20, Rate: 100, State: impl.LotLanded}}, Traders: money}
	checkDeed(t, landed, splitting(7, 2, 3), split, impl.DeedDone)
}

// Each kind with a lot of each state: six kinds have one state each that they
// take, and all others tell DeedState.
func TestEachDeedInEachState(t *testing.T) {
	done := 0
	for kind := impl.DeedHold; kind <= impl.DeedSplit; kind++ {
		for state := impl.LotLanded; state <= impl.LotGone; state++ {
			h := withTaken(house(traders{trader(100, 100)}, inState(5, 3), inState(7, state), inState(9, 1)), 8)
			d := impl.Deed{Kind: kind, Id: 7, Many: 2, New: 6}
			if passages()[kind][0] == state {
				checkDeed(t, h, d, behindDeed(h, d), impl.DeedDone)
				done++
			} else {
				checkNoDeed(t, h, d, impl.DeedState)
			}
		}
	}
	if done != 7 {
		t.Error(done, "were done")
	}
	for state := impl.LotLanded; state <= impl.LotGone; state++ {
		checkNoDeed(t, house(traders{trader(100, 100)}, inState(7, state)), landing(7, 0, 1, 1, 1), impl.DeedHas)
	}
}

func TestLandInEachPlace(t *testing.T) {
	two := house(traders{trader(1, 2), trader(3, 100)}, lot(3, 1, 6, 20, 100, 3), lot(9, 0, 1, 1, 1, 5))
	fresh := func(id int) impl.Lot { return lot(id, 1, 4, 5, 6, 1) }
	for id, want := range map[int]lots{
		1: {fresh(1), two.Lots[0], two.Lots[1]}, 2: {fresh(2), two.Lots[0], two.Lots[1]}, 4: {two.Lots[0], fresh(4), two.Lots[1]}, 8: {two.Lots[0], fresh(8), two.Lots[1]},
		10: {two.Lots[0], two.Lots[1], fresh(10)}, 1000000: {two.Lots[0], two.Lots[1], fresh(1000000)},
	} {
		checkDeed(t, two, landing(id, 1, 4, 5, 6), impl.House{Lots: want, Traders: two.Traders}, impl.DeedDone)
	}
	for _, id := range []int{3, 9} {
		checkNoDeed(t, two, landing(id, 1, 4, 5, 6), impl.DeedHas)
	}
}

func TestLandAtTheBoundsOfALot(t *testing.T) {
	h := impl.House{Traders: make(traders, 10)}
	for _, d := range []impl.Deed{
		landing(1, 0, 1, 0, 0), landing(1000000, 9, 1000000, 1000000, 5000), landing(5, 9, 1, 1000000, 0), landing(5, 0, 1000000, 0, 5000), landing(5, 3, 1, 1, 1),
	} {
		checkDeed(t, h, d, impl.House{Lots: lots{lot(d.Id, d.Owner, d.Many, d.Value, d.Rate, 1)}, Traders: h.Traders}, impl.DeedDone)
		checkNoDeed(t, impl.House{}, d, impl.DeedBad)
	}
	for _, d := range []impl.Deed{
		landing(0, 0, 1, 1, 1), landing(1000001, 0, 1, 1, 1), landing(5, -1, 1, 1, 1), landing(5, 10, 1, 1, 1), landing(5, 0, 0, 1, 1), landing(5, 0, 1000001, 1, 1),
		landing(5, 0, 1, -1, 1), landing(5, 0, 1, 1000001, 1), landing(5, 0, 1, 1, -1), landing(5, 0, 1, 1, 5001),
	} {
		checkNoDeed(t, h, d, impl.DeedBad)
	}
	for count := 1; count <= 10; count++ {
		h := impl.House{Traders: make(traders, count)}
		checkDeed(t, h, landing(5, count-1, 1, 1, 1), house(h.Traders, lot(5, count-1, 1, 1, 1, 1)), impl.DeedDone)
		checkNoDeed(t, h, landing(5, count, 1, 1, 1), impl.DeedBad)
	}
}

// With 39 lots there is room for one more, with 40 for none.
func TestLandAndSplitInAFullHouse(t *testing.T) {
	for _, id := range []int{1, 205, 999999} {
		for _, d := range []impl.Deed{landing(id, 0, 1, 1, 1), splitting(200, 2, id)} {
			got, code := impl.DoDeed(shed(39), d)
			if code != impl.DeedDone || len(got.Lots) != 40 || !impl.HouseOk(got) || lotIn(got, id) < 0 {
				t.Error(d, got, code)
			}
			checkNoDeed(t, shed(40), d, impl.DeedHas)
			checkNoDeed(t, got, landing(id+1, 0, 1, 1, 1), impl.DeedHas)
			checkNoDeed(t, got, splitting(200, 2, id+1), impl.DeedHas)
		}
	}
	gone := shed(40)
	for i := range gone.Lots {
		gone.Lots[i].State = impl.LotGone
	}
	checkNoDeed(t, gone, landing(5, 0, 1, 1, 1), impl.DeedHas)
	checkNoDeed(t, gone, landing(10, 0, 1, 1, 1), impl.DeedHas)
	checkNoDeed(t, shed(40), splitting(10, 6, 5), impl.DeedState)
	checkNoDeed(t, shed(40), splitting(5, 1, 6), impl.DeedNone)
	checkNoDeed(t, shed(40), splitting(5, 0, 6), impl.DeedBad)
}

func TestSplitByHand(t *testing.T) {
	h := withTaken(house(traders{trader(100, 100), trader(7, 100)}, inState(3, 3), lot(7, 1, 6, 20, 100, 1), inState(9, 4)), 5)
	for _, many := range []int{1, 2, 5} {
		for fresh, at := range map[int]int{1: 0, 2: 0, 4: 1, 6: 1, 8: 2, 10: 3, 1000000: 3} {
			want := cloneHouse(h)
			want.Lots[1].Many = 6 - many
			want.Lots = slices.Insert(want.Lots, at, lot(fresh, 1, many, 20, 100, 1))
			checkDeed(t, h, splitting(7, many, fresh), want, impl.DeedDone)
		}
		for _, fresh := range []int{3, 7, 9} {
			checkNoDeed(t, h, splitting(7, many, fresh), impl.DeedHas)
		}
		for _, fresh := range []int{0, -1, 1000001, math.MinInt, math.MaxInt} {
			checkNoDeed(t, h, splitting(7, many, fresh), impl.DeedBad)
		}
	}
	for _, many := range []int{6, 7, 1000000, 1000001, math.MaxInt} {
		for _, fresh := range []int{1, 3, 7, 8, 9, 1000000} {
			checkNoDeed(t, h, splitting(7, many, fresh), impl.DeedState)
		}
	}
	for _, many := range []int{0, -1, math.MinInt} {
		checkNoDeed(t, h, splitting(7, many, 8), impl.DeedBad)
	}
}

func TestSplitOfOneAndOfTwo(t *testing.T) {
	for many := 1; many <= 3; many++ {
		h := house(traders{{}}, lot(7, 0, many, 5, 5, 1))
		for off := 0; off <= 4; off++ {
			d := splitting(7, off, 8)
			switch {
			case off == 0:
				checkNoDeed(t, h, d, impl.DeedBad)
			case off >= many:
				checkNoDeed(t, h, d, impl.DeedState)
			default:
				checkDeed(t, h, d, house(traders{{}}, lot(7, 0, many-off, 5, 5, 1), lot(8, 0, off, 5, 5, 1)), impl.DeedDone)
			}
		}
	}
	most := house(traders{{}}, lot(7, 0, 1000000, 1000000, 5000, 1))
	checkDeed(t, most, splitting(7, 999999, 1), house(traders{{}}, lot(1, 0, 999999, 1000000, 5000, 1), lot(7, 0, 1, 1000000, 5000, 1)), impl.DeedDone)
	checkNoDeed(t, most, splitting(7, 1000000, 1), impl.DeedState)
}

// DeedHas of a split is told behind DeedNone and DeedState, that of a landing
// ahead of all but DeedBad.
func TestHasBehindNoneAndStateWhereALotIsSplit(t *testing.T) {
	one := traders{trader(100, 100)}
	for name, h := range map[string]impl.House{"New is there": house(one, inState(3, 1), inState(9, 2)), "40 lots": shed(40)} {
		for _, id := range []int{1, 4, 1000000} {
			if got, code := impl.DoDeed(h, splitting(id, 1, 3)); code != impl.DeedNone || !sameHouse(got, h) {
				t.Error(name, id, got, code)
			}
			if got, code := impl.DoDeed(h, splitting(id, 1, id)); code != impl.DeedNone || !sameHouse(got, h) {
				t.Error(name, id, got, code)
			}
		}
	}
	for state := impl.LotHeld; state <= impl.LotGone; state++ {
		full := withLot(shed(40), 5, inState(60, state))
		full.Traders[0].Bound = full.Lots[5].Bond
		for _, many := range []int{1, 5, 6, 7} {
			for _, fresh := range []int{10, 60, 61, 400} {
				checkNoDeed(t, full, splitting(60, many, fresh), impl.DeedState)
				checkNoDeed(t, house(one, inState(10, 1), inState(60, state)), splitting(60, many, fresh), impl.DeedState)
			}
		}
	}
	checkNoDeed(t, house(one, inState(3, 1)), splitting(3, 5, 3), impl.DeedHas)
	checkNoDeed(t, house(one, inState(3, 1)), splitting(3, 6, 3), impl.DeedState)
	checkNoDeed(t, shed(40), splitting(400, 5, 401), impl.DeedHas)
	checkNoDeed(t, shed(40), splitting(400, 6, 401), impl.DeedState)
}

func TestPayAtItsEdges(t *testing.T) {
	for _, own := range []impl.Lot{inState(7, 1), lot(7, 0, 3, 333, 10, 1), lot(7, 0, 1, 1, 999, 1), lot(7, 0, 1, 0, 5000, 1), lot(7, 0, 1000000, 1000000, 5000, 1)} {
		duty := dutyIn(own)
		for _, money := range []int{0, duty - 1, duty, duty + 1, mostWealth} {
			for _, taken := range []int{0, mostWealth - duty - 1, mostWealth - duty, mostWealth - duty + 1, mostWealth} {
				if money < 0 || taken > mostWealth {
					continue
				}
				h := withTaken(house(traders{trader(money, 0)}, own), taken)
				want := withTaken(house(traders{trader(money-duty, 0)}, lot(7, 0, own.Many, own.Value, own.Rate, 4)), taken+duty)
				if money >= duty && taken+duty <= mostWealth {
					checkDeed(t, h, doing(impl.DeedPay, 7), want, impl.DeedDone)
				} else {
					checkNoDeed(t, h, doing(impl.DeedPay, 7), impl.DeedPoor)
				}
			}
		}
	}
}

// Money pays no bond, and a bond no duty.
func TestMoneyAndBondAreApart(t *testing.T) {
	h := house(traders{trader(11, 1000), trader(1000, 11)}, inState(7, 1), lot(8, 1, 6, 20, 100, 1))
	checkNoDeed(t, h, doing(impl.DeedPay, 7), impl.DeedPoor)
	checkNoDeed(t, h, doing(impl.DeedTransit, 8), impl.DeedPoor)
	checkDeed(t, h, doing(impl.DeedTransit, 7), behindDeed(h, doing(5, 7)), impl.DeedDone)
	checkDeed(t, h, doing(impl.DeedPay, 8), behindDeed(h, doing(4, 8)), impl.DeedDone)
	full := withTaken(h, mostWealth)
	checkNoDeed(t, full, doing(impl.DeedPay, 8), impl.DeedPoor)
	checkDeed(t, full, doing(impl.DeedTransit, 7), behindDeed(full, doing(5, 7)), impl.DeedDone)
}

func TestTransitAtItsEdges(t *testing.T) {
	for _, own := range []impl.Lot{inState(7, 1), lot(7, 0, 3, 333, 10, 1), lot(7, 0, 1, 1, 999, 1), lot(7, 0, 1, 0, 5000, 1), lot(7, 0, 1000000, 1000000, 5000, 1)} {
		duty := dutyIn(own)
		for _, other := range []impl.Lot{inState(3, 1), inState(3, 3), lot(3, 0, 1000000, 1000000, 5000, 3)} {
			for _, left := range []int{0, duty - 1, duty, duty + 1, mostWealth - other.Bond} {
				if left < 0 {
					continue
				}
				h := house(traders{trader(0, other.Bond+left)}, other, own)
				if left >= duty {
					want := house(traders{trader(0, other.Bond+left)}, other, lot(7, 0, own.Many, own.Value, own.Rate, 3))
					checkDeed(t, h, doing(impl.DeedTransit, 7), want, impl.DeedDone)
				} else {
					checkNoDeed(t, h, doing(impl.DeedTransit, 7), impl.DeedPoor)
				}
			}
		}
	}
}

// A bond that was bound is free again at the end, and may be bound again.
func TestArriveFreesTheBond(t *testing.T) {
	h := house(traders{trader(0, 12)}, inState(3, 1), inState(7, 3))
	checkNoDeed(t, h, doing(impl.DeedTransit, 3), impl.DeedPoor)
	behind := house(traders{trader(0, 12)}, inState(3, 1), inState(7, 5))
	checkDeed(t, h, doing(impl.DeedArrive, 7), behind, impl.DeedDone)
	checkDeed(t, behind, doing(impl.DeedTransit, 3), house(traders{trader(0, 12)}, inState(3, 3), inState(7, 5)), impl.DeedDone)
	full := withTaken(h, mostWealth)
	checkDeed(t, full, doing(impl.DeedArrive, 7), withTaken(behind, mostWealth), impl.DeedDone)
}

func TestDutyOfNothing(t *testing.T) {
	for _, own := range []impl.Lot{lot(7, 0, 5, 0, 5000, 1), lot(7, 0, 5, 1000000, 0, 1), lot(7, 0, 1, 1, 999, 1), lot(7, 0, 999, 1, 1, 1)} {
		as := func(state int) impl.House {
			return withTaken(house(traders{{}}, lot(7, 0, own.Many, own.Value, own.Rate, state)), mostWealth)
		}
		checkDeed(t, as(1), doing(impl.DeedPay, 7), as(4), impl.DeedDone)
		checkDeed(t, as(1), doing(impl.DeedTransit, 7), as(3), impl.DeedDone)
		checkDeed(t, as(3), doing(impl.DeedArrive, 7), as(5), impl.DeedDone)
		checkDeed(t, as(4), doing(impl.DeedTake, 7), as(5), impl.DeedDone)
	}
}

// Only who owns the lot pays for it.
func TestTheOwnerPays(t *testing.T) {
	for owner := range 10 {
		h := house(slices.Repeat(traders{trader(50, 50)}, 10), lot(3, (owner+1)%10, 6, 20, 100, 1), lot(7, owner, 6, 20, 100, 1))
		paid, code := impl.DoDeed(h, doing(impl.DeedPay, 7))
		if want := withTrader(h, owner, trader(38, 50)).Traders; code != impl.DeedDone || !slices.Equal(paid.Traders, want) {
			t.Error(owner, paid, code)
		}
		bound, code := impl.DoDeed(h, doing(impl.DeedTransit, 7))
		if want := withTrader(h, owner, impl.Trader{Money: 50, Bond: 50, Bound: 12}).Traders; code != impl.DeedDone || !slices.Equal(bound.Traders, want) {
			t.Error(owner, bound, code)
		}
		poor := withTrader(h, owner, trader(11, 11))
		checkNoDeed(t, poor, doing(impl.DeedPay, 7), impl.DeedPoor)
		checkNoDeed(t, poor, doing(impl.DeedTransit, 7), impl.DeedPoor)
	}
}

// What a kind does not name may be anything.
func TestWhatADeedDoesNotName(t *testing.T) {
	for _, n := range []int{math.MinInt, -1, 0, 1, 7, 11, 5001, 1000001, math.MaxInt} {
		for kind := impl.DeedHold; kind <= impl.DeedTake; kind++ {
			h := house(traders{trader(100, 100)}, inState(7, passages()[kind][0]))
			d := impl.Deed{Kind: kind, Id: 7, Owner: n, Many: n, Value: n, Rate: n, New: n}
			checkDeed(t, h, d, behindDeed(h, d), impl.DeedDone)
		}
		h := house(traders{trader(100, 100), {}}, inState(7, 1))
		split := impl.Deed{Kind: impl.DeedSplit, Id: 7, Owner: n, Many: 2, Value: n, Rate: n, New: 9}
		checkDeed(t, h, split, house(h.Traders, lot(7, 0, 4, 20, 100, 1), lot(9, 0, 2, 20, 100, 1)), impl.DeedDone)
		land := landing(9, 1, 1, 2, 3)
		land.New = n
		checkDeed(t, h, land, house(h.Traders, h.Lots[0], lot(9, 1, 1, 2, 3, 1)), impl.DeedDone)
	}
}

// cause makes a code's reason so, of a deed that could be done on the lots 3, 7
// and 9.
type cause struct {
	code int
	make func(h *impl.House, d *impl.Deed)
}

func causesOfAllKinds() []cause {
	return []cause{
		{impl.DeedBad, func(h *impl.House, d *impl.Deed) { h.Taken = -1 }},
		{impl.DeedBad, func(h *impl.House, d *impl.Deed) { h.Traders[1].Bound = 1 }},
		{impl.DeedBad, func(h *impl.House, d *impl.Deed) { h.Lots[0].Many = 0 }},
		{impl.DeedBad, func(h *impl.House, d *impl.Deed) { d.Id = 0 }},
		{impl.DeedBad, func(h *impl.House, d *impl.Deed) { d.Id = 1000001 }},
		{impl.DeedBad, func(h *impl.House, d *impl.Deed) { d.Kind = 0 }},
		{impl.DeedBad, func(h *impl.House, d *impl.Deed) { d.Kind = 9 }},
	}
}

// fillUp makes it 40 lots, without touching those that are there.
func fillUp(h *impl.House, d *impl.Deed) { h.Lots = append(h.Lots[:3], shed(38).Lots[1:]...) }

func causesOf(kind int) []cause {
	all := causesOfAllKinds()
	none := cause{impl.DeedNone, func(h *impl.House, d *impl.Deed) { d.Id = 8 }}
	state := cause{impl.DeedState, func(h *impl.House, d *impl.Deed) { h.Lots[1] = inState(7, passages()[kind][0]+1) }}
	full := cause{impl.DeedHas, fillUp}
	switch kind {
	case impl.DeedLand:
		has := cause{impl.DeedHas, func(h *impl.House, d *impl.Deed) { d.Id = 7 }}
		owner := cause{impl.DeedBad, func(h *impl.House, d *impl.Deed) { d.Owner = 2 }}
		many := cause{impl.DeedBad, func(h *impl.House, d *impl.Deed) { d.Many = 1000001 }}
		value := cause{impl.DeedBad, func(h *impl.House, d *impl.Deed) { d.Value = -1 }}
		rate := cause{impl.DeedBad, func(h *impl.House, d *impl.Deed) { d.Rate = 5001 }}
		return append(all, owner, many, value, rate, has, full)
	case impl.DeedSplit:
		has := cause{impl.DeedHas, func(h *impl.House, d *impl.Deed) { d.New = 9 }}
		own := cause{impl.DeedHas, func(h *impl.House, d *impl.Deed) { d.New = 7 }}
		few := cause{impl.DeedBad, func(h *impl.House, d *impl.Deed) { d.Many = 0 }}
		fresh := cause{impl.DeedBad, func(h *impl.House, d *impl.Deed) { d.New = 1000001 }}
		many := cause{impl.DeedState, func(h *impl.House, d *impl.Deed) { d.Many = 6 }}
		return append(all, few, fresh, none, state, many, has, own, full)
	case impl.DeedPay:
		poor := cause{impl.DeedPoor, func(h *impl.House, d *impl.Deed) { h.Traders[0].Money = 11 }}
		taken := cause{impl.DeedPoor, func(h *impl.House, d *impl.Deed) { h.Taken = mostWealth - 11 }}
		return append(all, none, state, poor, taken)
	case impl.DeedTransit:
		return append(all, none, state, cause{impl.DeedPoor, func(h *impl.House, d *impl.Deed) { h.Traders[0].Bond = 11 }})
	}
	return append(all, none, state)
}

// caused is a house, and a deed of each kind that can be done on it.
func caused(kind int) (impl.House, impl.Deed) {
	h := house(traders{trader(100, 100), {}}, inState(3, 1), inState(7, max(1, passages()[kind][0])), inState(9, 5))
	d := impl.Deed{Kind: kind, Id: 7, Many: 2, Value: 3, Rate: 4, New: 5}
	if kind == impl.DeedLand {
		d.Id = 5
	}
	return h, d
}

// rankOf is how early a code counts: that of a full house comes behind those of
// the lot itself where one is split.
func rankOf(kind, code int) int {
	if kind == impl.DeedSplit && code == impl.DeedHas {
		return 9
	}
	return code
}

// checkCauses makes the reason that is to be told last, so that none of the
// others undoes it. What is bound is reckoned anew, but where that is wrong.
func checkCauses(t *testing.T, kind int, causes ...cause) {
	t.Helper()
	slices.SortStableFunc(causes, func(a, b cause) int { return rankOf(kind, b.code) - rankOf(kind, a.code) })
	h, d := caused(kind)
	for _, c := range causes {
		c.make(&h, &d)
		if c.code != impl.DeedBad {
			h.Traders[0].Bound = bondsOf(h, 0)
			h.Traders[0].Bond = max(h.Traders[0].Bond, h.Traders[0].Bound)
		}
	}
	checkNoDeed(t, h, d, causes[len(causes)-1].code)
}

func TestReasonsOfDeedsInTheirOrder(t *testing.T) {
	for kind := impl.DeedLand; kind <= impl.DeedSplit; kind++ {
		h, d := caused(kind)
		checkDeed(t, h, d, behindDeed(h, d), impl.DeedDone)
		for _, first := range causesOf(kind) {
			checkCauses(t, kind, first)
			for _, second := range causesOf(kind) {
				checkCauses(t, kind, first, second)
				for _, third := range causesOf(kind) {
					checkCauses(t, kind, first, second, third)
				}
			}
		}
	}
}

func TestDoDeedOfDrawnOnes(t *testing.T) {
	d := &draws{state: 192}
	seen := map[[2]int]int{}
	for range 40000 {
		h := drawnHouse(d)
		deed := drawnDeed(d, h)
		want, code := doDeedOf(h, deed)
		checkDeed(t, h, deed, want, code)
		seen[[2]int{deed.Kind, code}]++
	}
	codes := map[int][]int{1: {0, 1, 2}, 4: {0, 1, 3, 4, 5}, 5: {0, 1, 3, 4, 5}, 8: {0, 1, 2, 3, 4}}
	for kind := impl.DeedLand; kind <= impl.DeedSplit; kind++ {
		want := codes[kind]
		if want == nil {
			want = []int{0, 1, 3, 4}
		}
		for _, code := range want {
			if seen[[2]int{kind, code}] < 20 {
				t.Error("few drawn of kind and code", kind, code, seen)
			}
		}
	}
}

// Only the lots that are named change, wherever they stand.
func TestOtherLotsStay(t *testing.T) {
	d := &draws{state: 193}
	done := [9]int{}
	for range 20000 {
		h := drawnHouse(d)
		deed := drawnDeed(d, h)
		got, code := impl.DoDeed(h, deed)
		if code != impl.DeedDone {
			continue
		}
		done[deed.Kind]++
		isNamed := func(own impl.Lot) bool { return own.Id == deed.Id || deed.Kind == impl.DeedSplit && own.Id == deed.New }
		if !slices.Equal(slices.DeleteFunc(cloneHouse(h).Lots, isNamed), slices.DeleteFunc(cloneHouse(got).Lots, isNamed)) {
			t.Fatal(h, deed, got)
		}
		owner := got.Lots[lotIn(got, deed.Id)].Owner
		for i := range h.Traders {
			if i != owner && got.Traders[i] != h.Traders[i] {
				t.Fatal(h, deed, got)
			}
		}
	}
	if slices.Min(done[1:]) < 100 {
		t.Error("few were done of a kind", done)
	}
}

func TestDeedsOfAllKindsOnAnEmptyHouse(t *testing.T) {
	for kind := -1; kind <= 10; kind++ {
		for _, count := range []int{0, 1, 10} {
			h := impl.House{Traders: make(traders, count), Taken: 4}
			d := impl.Deed{Kind: kind, Id: 5, Many: 1, New: 6}
			switch {
			case kind == impl.DeedLand && count > 0:
				checkDeed(t, h, d, withTaken(house(h.Traders, lot(5, 0, 1, 0, 0, 1)), 4), impl.DeedDone)
			case kind >= impl.DeedHold && kind <= impl.DeedSplit:
				checkNoDeed(t, h, d, impl.DeedNone)
			default:
				checkNoDeed(t, h, d, impl.DeedBad)
			}
		}
	}
}
