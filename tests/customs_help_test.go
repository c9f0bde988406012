package tests

import (
	"fmt"
	"math"
	"math/big"
	"slices"

	"loop.example/g00059/impl"
)

type (
	lots    = []impl.Lot
	traders = []impl.Trader
	deeds   = []impl.Deed
	parts   = []impl.Part
)

const mostWealth = 1000000000000000

// dutyWant multiplies without any bound, so that no product wraps round.
func dutyWant(many, value, rate int) (int, bool) {
	if many < 1 || many > 1000000 || value < 0 || value > 1000000 || rate < 0 || rate > 5000 {
		return 0, false
	}
	duty := big.NewRat(int64(many), 1000)
	duty.Mul(duty, big.NewRat(int64(value), 1)).Mul(duty, big.NewRat(int64(rate), 1))
	return int(floorOf(duty).Int64()), true
}

func dutyIn(own impl.Lot) int {
	duty, _ := dutyWant(own.Many, own.Value, own.Rate)
	return duty
}

// lot binds what it must in its State.
func lot(id, owner, many, value, rate, state int) impl.Lot {
	own := impl.Lot{Id: id, Owner: owner, Many: many, Value: value, Rate: rate, State: state}
	if state == 3 {
		own.Bond = dutyIn(own)
	}
	return own
}

// inState is a lot with a duty of 12, of the first trader.
func inState(id, state int) impl.Lot { return lot(id, 0, 6, 20, 100, state) }

func trader(money, bond int) impl.Trader { return impl.Trader{Money: money, Bond: bond} }

// house has bound of each trader what their lots bind.
func house(list traders, all ...impl.Lot) impl.House {
	h := impl.House{Lots: all, Traders: slices.Clone(list)}
	for _, own := range all {
		h.Traders[own.Owner].Bound += own.Bond
	}
	return h
}

func withTaken(h impl.House, taken int) impl.House {
	h.Taken = taken
	return h
}

// shed has so many lots of one trader, with the Ids 10, 20 and on.
func shed(count int) impl.House {
	h := house(traders{trader(1000, 1000)})
	for i := range count {
		h.Lots = append(h.Lots, inState(10*(i+1), 1))
	}
	return h
}

func landing(id, owner, many, value, rate int) impl.Deed {
	return impl.Deed{Kind: 1, Id: id, Owner: owner, Many: many, Value: value, Rate: rate}
}

func doing(kind, id int) impl.Deed { return impl.Deed{Kind: kind, Id: id} }

func splitting(id, many, fresh int) impl.Deed {
	return impl.Deed{Kind: 8, Id: id, Many: many, New: fresh}
}

func sameHouse(a, b impl.House) bool {
	return slices.Equal(a.Lots, b.Lots) && slices.Equal(a.Traders, b.Traders) && a.Taken == b.Taken
}

func cloneHouse(h impl.House) impl.House {
	h.Lots, h.Traders = slices.Clone(h.Lots), slices.Clone(h.Traders)
	return h
}

// withLot is the house with another lot in the place of one.
func withLot(h impl.House, at int, other impl.Lot) impl.House {
	h = cloneHouse(h)
	h.Lots[at] = other
	return h
}

func withTrader(h impl.House, at int, other impl.Trader) impl.House {
	h = cloneHouse(h)
	h.Traders[at] = other
	return h
}

func lotIn(h impl.House, id int) int {
	return slices.IndexFunc(h.Lots, func(own impl.Lot) bool { return own.Id == id })
}

func bondsOf(h impl.House, owner int) int {
	sum := 0
	for _, own := range h.Lots {
		if own.Owner == owner {
			sum += own.Bond
		}
	}
	return sum
}

func isIdOf(id int) bool { return id > 0 && id <= 1000000 }

func isWealthOf(n int) bool { return n >= 0 && n <= mostWealth }

func lotOkOf(own impl.Lot, count int) bool {
	duty, ok := dutyWant(own.Many, own.Value, own.Rate)
	bond := map[int]int{1: 0, 2: 0, 3: duty, 4: 0, 5: 0}
	want, isState := bond[own.State]
	return ok && isIdOf(own.Id) && slices.Contains(upTo(count), own.Owner) && isState && own.Bond == want
}

func houseOkOf(h impl.House) bool {
	if len(h.Lots) > 40 || len(h.Traders) > 10 || !isWealthOf(h.Taken) {
		return false
	}
	var ids []int
	for _, own := range h.Lots {
		if !lotOkOf(own, len(h.Traders)) {
			return false
		}
		ids = append(ids, own.Id)
	}
	for i, has := range h.Traders {
		if !isWealthOf(has.Money) || !isWealthOf(has.Bond) || has.Bound > has.Bond || has.Bound != bondsOf(h, i) {
			return false
		}
	}
	return ascends(ids)
}

// deedOkOf tells whether a deed is as told, whatever the lots.
func deedOkOf(h impl.House, d impl.Deed) bool {
	if d.Kind < 1 || d.Kind > 8 || !isIdOf(d.Id) {
		return false
	}
	_, isWare := dutyWant(d.Many, d.Value, d.Rate)
	isLand := isWare && slices.Contains(upTo(len(h.Traders)), d.Owner)
	isSplit := d.Many > 0 && isIdOf(d.New)
	return (d.Kind != 1 || isLand) && (d.Kind != 8 || isSplit)
}

// passages are the states that a kind of deed leads from and to.
func passages() map[int][2]int {
	return map[int][2]int{2: {1, 2}, 3: {2, 1}, 4: {1, 4}, 5: {1, 3}, 6: {3, 5}, 7: {4, 5}, 8: {1, 1}}
}

func isRoomOf(h impl.House, id int) bool { return lotIn(h, id) < 0 && len(h.Lots) < 40 }

func isPoorOf(h impl.House, own impl.Lot, kind int) bool {
	has := h.Traders[own.Owner]
	return kind == 4 && (has.Money < dutyIn(own) || h.Taken+dutyIn(own) > mostWealth) || kind == 5 && has.Bond-has.Bound < dutyIn(own)
}

func deedCodeOf(h impl.House, d impl.Deed) int {
	if !houseOkOf(h) || !deedOkOf(h, d) {
		return 1
	}
	if d.Kind == 1 {
		return map[bool]int{true: 0, false: 2}[isRoomOf(h, d.Id)]
	}
	at := lotIn(h, d.Id)
	if at < 0 {
		return 3
	}
	own := h.Lots[at]
	switch {
	case own.State != passages()[d.Kind][0] || d.Kind == 8 && d.Many >= own.Many:
		return 4
	case d.Kind == 8 && !isRoomOf(h, d.New):
		return 2
	case isPoorOf(h, own, d.Kind):
		return 5
	}
	return 0
}

// behindDeed is the house behind a deed that can be done: new lots are put at
// the end, and sorted, and what is bound is reckoned anew.
func behindDeed(h impl.House, d impl.Deed) impl.House {
	now := cloneHouse(h)
	if d.Kind == 1 {
		now.Lots = append(now.Lots, lot(d.Id, d.Owner, d.Many, d.Value, d.Rate, 1))
	} else {
		own := &now.Lots[lotIn(h, d.Id)]
		if d.Kind == 4 {
			now.Traders[own.Owner].Money -= dutyIn(*own)
			now.Taken += dutyIn(*own)
		}
		many := own.Many
		if d.Kind == 8 {
			many -= d.Many
		}
		*own = lot(own.Id, own.Owner, many, own.Value, own.Rate, passages()[d.Kind][1])
		if d.Kind == 8 {
			now.Lots = append(now.Lots, lot(d.New, own.Owner, d.Many, own.Value, own.Rate, 1))
		}
	}
	slices.SortFunc(now.Lots, func(a, b impl.Lot) int { return a.Id - b.Id })
	for i := range now.Traders {
		now.Traders[i].Bound = bondsOf(now, i)
	}
	return now
}

func doDeedOf(h impl.House, d impl.Deed) (impl.House, int) {
	if code := deedCodeOf(h, d); code != 0 {
		return cloneHouse(h), code
	}
	return behindDeed(h, d), 0
}

func runDeedsOf(h impl.House, list deeds) (impl.House, []int) {
	now := cloneHouse(h)
	if len(list) > 200 {
		return now, nil
	}
	var codes []int
	for _, d := range list {
		var code int
		now, code = doDeedOf(now, d)
		codes = append(codes, code)
	}
	return now, codes
}

// originOf reckons by exact fractions. Of nothing at all each part is enough.
func originOf(list parts, own, least int) (bool, bool) {
	isWrong := func(p impl.Part) bool { return p.From < 0 || p.From > 300 || p.Value < 0 || p.Value > 1000000 }
	if len(list) < 1 || len(list) > 50 || slices.ContainsFunc(list, isWrong) || least < 0 || least > 100 {
		return false, false
	}
	worth := map[bool]int64{}
	for _, p := range list {
		worth[p.From == own] += int64(p.Value)
	}
	all := worth[true] + worth[false]
	return all == 0 || big.NewRat(worth[true], all).Cmp(big.NewRat(int64(least), 100)) >= 0, true
}

func wealthIn(h impl.House) int {
	sum := h.Taken
	for _, has := range h.Traders {
		sum += has.Money
	}
	return sum
}

// drawnWealth is often about as much as one lot's duty.
func drawnWealth(d *draws) int {
	return []int{0, d.below(10), d.below(200), d.below(1000000), mostWealth - d.below(100), mostWealth}[d.below(6)]
}

// drawnWares are cheap mostly, dear or free of duty now and then.
func drawnWares(d *draws) (many, value, rate int) {
	switch d.below(8) {
	case 0:
		return 1000000 - d.below(2), 1000000 - d.below(2), 5000 - d.below(2)
	case 1:
		return d.between(1, 1000000), d.below(1000001), d.below(5001)
	case 2:
		return d.between(1, 3), d.below(2), d.below(2)
	}
	return d.between(1, 12), d.below(30), d.below(300)
}

func drawnTraders(d *draws) traders {
	list := make(traders, []int{0, 1, 1, 2, 3, d.below(11), 10}[d.below(7)])
	for i := range list {
		list[i] = trader(drawnWealth(d), drawnWealth(d))
	}
	return list
}

// drawnHouse has Ids of 1 to 60, or great ones, and bonds that just suffice now
// and then.
func drawnHouse(d *draws) impl.House {
	h := impl.House{Traders: drawnTraders(d), Taken: drawnWealth(d)}
	if len(h.Traders) == 0 {
		return h
	}
	count := []int{0, 1, d.below(6), d.below(41), 39, 40}[d.below(6)]
	for _, place := range shuffled(d, upTo(60))[:count] {
		id := place + 1
		if d.below(10) == 0 {
			id = 1000000 - place
		}
		many, value, rate := drawnWares(d)
		own := lot(id, d.below(len(h.Traders)), many, value, rate, []int{1, 1, 1, 2, 3, 4, 5}[d.below(7)])
		h.Lots = append(h.Lots, own)
		has := &h.Traders[own.Owner]
		has.Bound += own.Bond
		has.Bond = max(has.Bond, has.Bound+d.below(3)*d.below(50))
	}
	slices.SortFunc(h.Lots, func(a, b impl.Lot) int { return a.Id - b.Id })
	return h
}

// drawnDeed is mostly one of a lot that is there and in the right state.
func drawnDeed(d *draws, h impl.House) impl.Deed {
	many, value, rate := drawnWares(d)
	deed := impl.Deed{Kind: []int{1, 2, 3, 4, 4, 5, 5, 6, 7, 8, 8}[d.below(11)], Id: d.between(1, 62), Owner: d.below(max(1, len(h.Traders))), Many: many, Value: value, Rate: rate, New: d.between(1, 62)}
	if len(h.Lots) > 0 && d.below(8) != 0 && deed.Kind != 1 {
		own := h.Lots[d.below(len(h.Lots))]
		deed.Id = own.Id
		fitting := map[int][]int{1: {2, 4, 5, 8}, 2: {3, 3, 3, 3}, 3: {6, 6, 6, 6}, 4: {7, 7, 7, 7}, 5: {2, 4, 6, 7}}
		if d.below(4) != 0 {
			deed.Kind = fitting[own.State][d.below(4)]
		}
		if deed.Kind == 8 {
			deed.Many = []int{1, d.between(1, own.Many), own.Many - 1, own.Many}[d.below(4)]
		}
	}
	spoilDeed(d, &deed)
	return deed
}

func spoilDeed(d *draws, deed *impl.Deed) {
	switch d.below(60) {
	case 0:
		deed.Kind = []int{0, -1, 9}[d.below(3)]
	case 1:
		deed.Id = []int{0, -1, 1000000, 1000001}[d.below(4)]
	case 2:
		deed.Owner = []int{-1, 10, 11}[d.below(3)]
	case 3:
		deed.Many = []int{0, -1, 1000001}[d.below(3)]
	case 4:
		deed.Value = []int{-1, 1000001}[d.below(2)]
	case 5:
		deed.Rate = []int{-1, 5001}[d.below(2)]
	case 6:
		deed.New = []int{0, -1, 1000000, 1000001}[d.below(4)]
	}
}

// drawnDeeds are deeds of which each is drawn for the house that it meets.
func drawnDeeds(d *draws, h impl.House) deeds {
	list := make(deeds, []int{d.below(6), d.below(201), 200}[d.below(3)])
	for i := range list {
		list[i] = drawnDeed(d, h)
		h, _ = doDeedOf(h, list[i])
	}
	return list
}

func drawnParts(d *draws) parts {
	list := make(parts, []int{1, d.between(1, 6), d.between(1, 50), 50}[d.below(4)])
	great := []int{0, 1, 4, 100, 1000000}[d.below(5)]
	for i := range list {
		list[i] = impl.Part{From: []int{0, d.below(4), 300, d.below(301)}[d.below(4)], Value: []int{0, d.below(great + 1), great}[d.below(3)]}
	}
	return list
}

// wrongLots pass one limit each, most of them by one. Their Id is 7, or it is
// what is wrong; there are two traders.
func wrongLots() map[string]impl.Lot {
	all := map[string]impl.Lot{"empty": {}}
	change := func(name string, values []int, set func(own *impl.Lot, n int)) {
		for _, n := range values {
			own := inState(7, 1)
			set(&own, n)
			all[fmt.Sprint(name, " ", n)] = own
		}
	}
	far := []int{math.MinInt, math.MaxInt}
	change("Id", append(far, 0, -1, 1000001), func(own *impl.Lot, n int) { own.Id = n })
	change("Owner", append(far, -1, 2, 3, 10, 11), func(own *impl.Lot, n int) { own.Owner = n })
	change("Many", append(far, 0, -1, 1000001), func(own *impl.Lot, n int) { own.Many = n })
	change("Value", append(far, -1, 1000001), func(own *impl.Lot, n int) { own.Value = n })
	change("Rate", append(far, -1, 5001), func(own *impl.Lot, n int) { own.Rate = n })
	change("State", append(far, 0, -1, 6), func(own *impl.Lot, n int) { own.State = n })
	for _, state := range []int{1, 2, 4, 5} {
		change(fmt.Sprint("State ", state, " and Bond"), append(far, -1, 1, 12), func(own *impl.Lot, n int) { own.State, own.Bond = state, n })
	}
	change("in transit with Bond", append(far, 0, -1, -12, 11, 13), func(own *impl.Lot, n int) { own.State, own.Bond = 3, n })
	change("in transit with Many", append(far, 0, 1000001), func(own *impl.Lot, n int) { *own = lot(7, 0, n, 20, 100, 3) })
	change("in transit with Value", append(far, -1, 1000001), func(own *impl.Lot, n int) { *own = lot(7, 0, 6, n, 100, 3) })
	change("in transit with Rate", append(far, -1, 5001), func(own *impl.Lot, n int) { *own = lot(7, 0, 6, 20, n, 3) })
	return all
}

// wrongTraders pass one limit each. They have no lots.
func wrongTraders() map[string]impl.Trader {
	all := map[string]impl.Trader{
		"something bound without a lot": {Money: 5, Bond: 5, Bound: 1}, "all bound without a lot": {Money: 5, Bond: 5, Bound: 5}, "more bound than there is": {Money: 5, Bond: 5, Bound: 6},
		"less than nothing bound": {Money: 5, Bond: 5, Bound: -1}, "all wrong": {Money: -1, Bond: -1, Bound: -1}, "bound to the last": {Money: 5, Bond: mostWealth, Bound: mostWealth},
		"more bound than can be": {Money: 5, Bond: mostWealth, Bound: mostWealth + 1}, "least bound": {Bound: math.MinInt}, "greatest bound": {Bond: mostWealth, Bound: math.MaxInt},
	}
	for _, n := range []int{-1, mostWealth + 1, math.MinInt, math.MaxInt} {
		all[fmt.Sprint("Money ", n)] = trader(n, 5)
		all[fmt.Sprint("Bond ", n)] = trader(5, n)
	}
	return all
}

func wrongHouses() map[string]impl.House {
	two := traders{trader(100, 100), trader(100, 100)}
	right := house(two, inState(3, 1), inState(7, 3), inState(9, 4))
	all := map[string]impl.House{
		"41 lots": shed(41), "400 lots": shed(400), "41 empty ones": {Lots: make(lots, 41), Traders: two}, "11 traders": {Traders: make(traders, 11)}, "1000 traders": {Traders: make(traders, 1000)},
		"one Id twice": house(two, inState(3, 1), inState(3, 1)), "unlike lots of one Id": house(two, inState(1, 1), inState(3, 1), lot(3, 1, 5, 5, 5, 3)),
		"the wrong way round": house(two, inState(9, 1), inState(3, 1)), "the last two turned": house(two, inState(1, 1), inState(9, 1), inState(3, 1)),
		"the first two turned": house(two, inState(9, 1), inState(3, 1), inState(20, 1)), "a lot without traders": {Lots: lots{inState(3, 1)}},
		"a lot bound to nobody": withTrader(right, 0, trader(100, 100)), "a bond that is too small": withTrader(right, 0, impl.Trader{Money: 100, Bond: 11, Bound: 12}),
		"one less bound": withTrader(right, 0, impl.Trader{Money: 100, Bond: 100, Bound: 11}), "one more bound": withTrader(right, 0, impl.Trader{Money: 100, Bond: 100, Bound: 13}),
		"bound to another":     withTrader(withTrader(right, 0, two[0]), 1, impl.Trader{Money: 100, Bond: 100, Bound: 12}),
		"only one of two":      withTrader(house(two, inState(3, 3), inState(7, 3)), 0, impl.Trader{Money: 100, Bond: 100, Bound: 12}),
		"bonds below 0 for it": {Traders: traders{{Bond: 12, Bound: 0}}, Lots: lots{{Id: 3, Many: 6, Value: 20, Rate: 100, State: 3, Bond: 12}, {Id: 4, Many: 6, Value: 20, Rate: 100, State: 1, Bond: -12}}},
	}
	for _, n := range []int{-1, mostWealth + 1, math.MinInt, math.MaxInt} {
		all[fmt.Sprint("Taken ", n)] = withTaken(right, n)
	}
	for name, wrong := range wrongTraders() {
		all[name+", by itself"] = impl.House{Traders: traders{wrong}}
		all[name+", the first"] = impl.House{Traders: traders{wrong, trader(5, 5)}}
		all[name+", the last"] = impl.House{Traders: append(make(traders, 9), wrong)}
		all[name+", beside lots"] = withTrader(right, 1, wrong)
	}
	for name, wrong := range wrongLots() {
		addWrongLot(all, name, wrong)
	}
	return all
}

// addWrongLot has bound what the lot binds, wherever that can be, so that
// nothing else is wrong.
func addWrongLot(all map[string]impl.House, name string, wrong impl.Lot) {
	two := traders{trader(100, 100), trader(100, 100)}
	two[0].Bound = max(0, min(100, wrong.Bond))
	all[name+", by itself"] = impl.House{Traders: two, Lots: lots{wrong}}
	all[name+", the first"] = impl.House{Traders: two, Lots: lots{wrong, inState(9, 1)}}
	all[name+", the last"] = impl.House{Traders: two, Lots: lots{inState(3, 1), wrong}}
	if wrong.Id == 7 {
		wrong.Id = 1000
	}
	all[name+", the 40th"] = impl.House{Traders: two, Lots: append(shed(39).Lots, wrong)}
}

// wrongParts are so for every own and least.
func wrongParts() map[string]parts {
	one := impl.Part{From: 1, Value: 5}
	all := map[string]parts{
		"none": nil, "an empty list": {}, "one more": slices.Repeat(parts{one}, 51), "many more": slices.Repeat(parts{one}, 3000),
		"0 in sum": {{From: 1, Value: -5}, {From: 2, Value: 5}}, "a sum that wraps round": {{From: 1, Value: math.MaxInt}, {From: 1, Value: math.MaxInt}, {From: 1, Value: 12}},
	}
	add := func(name string, n int, wrong impl.Part) {
		all[fmt.Sprint(name, " ", n, " by itself")] = parts{wrong}
		all[fmt.Sprint(name, " ", n, " ahead")] = parts{wrong, one, one}
		all[fmt.Sprint(name, " ", n, " behind")] = parts{one, one, wrong}
		all[fmt.Sprint(name, " ", n, " at the end of 50")] = append(slices.Repeat(parts{one}, 49), wrong)
	}
	for _, n := range []int{-1, 301, math.MinInt, math.MaxInt} {
		add("From", n, impl.Part{From: n, Value: 5})
	}
	for _, n := range []int{-1, 1000001, math.MinInt, math.MaxInt} {
		add("Value", n, impl.Part{From: 1, Value: n})
	}
	return all
}
