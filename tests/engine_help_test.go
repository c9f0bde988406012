package tests

import (
	"fmt"
	"math"
	"math/big"
	"slices"

	"loop.example/g00059/impl"
)

type fuels = []impl.Fuel

type pumps = []impl.Pump

type spells = []impl.Spell

func fuel(has, most int) impl.Fuel { return impl.Fuel{Has: has, Most: most} }

func pumping(from, to, many int) impl.Pump { return impl.Pump{From: from, To: to, Many: many} }

func alarm(high, low, hold int) impl.AlarmRule {
	return impl.AlarmRule{High: high, Low: low, Hold: hold}
}

// spellsOf are spells by their ends: from, to, from, to ..
func spellsOf(ends ...int) spells {
	var list spells
	for i := 0; i < len(ends); i += 2 {
		list = append(list, impl.Spell{From: ends[i], To: ends[i+1]})
	}
	return list
}

func fuelsOk(tanks fuels) bool {
	isWrong := func(f impl.Fuel) bool { return f.Has < 0 || f.Has > f.Most || f.Most > 1000000 }
	return len(tanks) <= 8 && !slices.ContainsFunc(tanks, isWrong)
}

// pumpedOf takes the boat and the engine for tanks ahead of the others, of
// which the one is never empty and the other never full.
func pumpedOf(tanks fuels, p impl.Pump) (fuels, int) {
	here := append(fuels{fuel(1<<40, 1<<50)}, tanks...)
	from, to := p.From+1, p.To+1
	isPlace := p.From >= -1 && p.To >= -1 && p.From < len(tanks) && p.To < len(tanks) && from != to
	switch {
	case !fuelsOk(tanks) || !isPlace || p.Many <= 0 || p.Many > 1000000:
		return slices.Clone(tanks), 1
	case p.Many > here[from].Has:
		return slices.Clone(tanks), 2
	case p.Many > here[to].Most-here[to].Has:
		return slices.Clone(tanks), 3
	}
	here[from].Has -= p.Many
	here[to].Has += p.Many
	return here[1:], 0
}

func pumpAllOf(tanks fuels, list pumps) (now fuels, codes []int, boat, engine int) {
	now = slices.Clone(tanks)
	if len(list) > 60 {
		return now, nil, 0, 0
	}
	for _, p := range list {
		var code int
		now, code = pumpedOf(now, p)
		codes = append(codes, code)
		if code == 0 && p.From == -1 {
			boat += p.Many
		}
		if code == 0 && p.To == -1 {
			engine += p.Many
		}
	}
	return now, codes, boat, engine
}

func fuelIn(tanks fuels) int {
	sum := 0
	for _, f := range tanks {
		sum += f.Has
	}
	return sum
}

// burnOf goes by exact fractions, in the order of the chapter's words.
func burnOf(curve []int, speed, minutes int) (int, bool) {
	isWrong := func(n int) bool { return n < 0 || n > 100000 }
	if len(curve) < 2 || len(curve) > 30 || slices.ContainsFunc(curve, isWrong) {
		return 0, false
	}
	if minutes < 0 || minutes > 100000 || speed < 0 || speed > 10*(len(curve)-1) {
		return 0, false
	}
	whole := func(n int) *big.Rat { return big.NewRat(int64(n), 1) }
	burnt := whole(curve[speed/10])
	if d := speed % 10; d > 0 {
		rise := new(big.Rat).Mul(whole(curve[speed/10+1]-curve[speed/10]), big.NewRat(int64(d), 10))
		burnt.Add(burnt, rise)
	}
	burnt.Mul(burnt, whole(minutes))
	return int(floorOf(burnt.Mul(burnt, big.NewRat(1, 60))).Int64()), true
}

// lastOnes tells whether the last hold measurements up to at are all so.
func lastOnes(list []int, at, hold int, isSo func(int) bool) bool {
	if at+1 < hold {
		return false
	}
	isNot := func(n int) bool { return !isSo(n) }
	return !slices.ContainsFunc(list[at+1-hold:at+1], isNot)
}

func alarmsOf(r impl.AlarmRule, list []int) ([]bool, bool) {
	if r.Low > r.High || max(r.Low, r.High) > 1000000 || min(r.Low, r.High) < -1000000 || r.Hold < 1 || r.Hold > 100 || len(list) > 500 {
		return nil, false
	}
	var all []bool
	isOn := false
	for at := range list {
		if isOn {
			isOn = !lastOnes(list, at, r.Hold, func(n int) bool { return n <= r.Low })
		} else {
			isOn = lastOnes(list, at, r.Hold, func(n int) bool { return n >= r.High })
		}
		all = append(all, isOn)
	}
	return all, true
}

// spellsOk holds each spell against all that come behind it.
func spellsOk(list spells) bool {
	for i, s := range list {
		if s.From < 0 || s.To <= s.From || s.To > 100000000 {
			return false
		}
		for _, later := range list[i+1:] {
			if later.From < s.To {
				return false
			}
		}
	}
	return len(list) <= 100
}

// workBefore is all the work ahead of a minute.
func workBefore(list spells, minute int) int {
	work := 0
	for _, s := range list {
		switch {
		case minute >= s.To:
			work += s.To - s.From
		case minute > s.From:
			work += minute - s.From
		}
	}
	return work
}

func workOf(list spells, from, to int) int {
	if !spellsOk(list) || from < 0 || to < from || to > 100000000 {
		return 0
	}
	return workBefore(list, to) - workBefore(list, from)
}

// pausesOf are the stretches without work, from minute 0 on and to far behind.
func pausesOf(list spells) spells {
	pauses, free := spells{}, 0
	for _, s := range list {
		pauses = append(pauses, impl.Spell{From: free, To: s.From})
		free = s.To
	}
	return append(pauses, impl.Spell{From: free, To: 1 << 40})
}

func isSplit(pauses spells, from, to int) bool {
	for _, p := range pauses {
		if min(p.To, to)-max(p.From, from) >= 360 {
			return false
		}
	}
	return true
}

// restOf asks each minute by itself.
func restOf(list spells, until int) (int, int) {
	isLate := func(s impl.Spell) bool { return s.To > 30000 }
	if !spellsOk(list) || until < 0 || until > 30000 || slices.ContainsFunc(list, isLate) {
		return 1, -1
	}
	pauses := pausesOf(list)
	for t := 1440; t <= until; t++ {
		if workBefore(list, t)-workBefore(list, t-1440) > 840 {
			return 2, t
		}
		if t >= 10080 && workBefore(list, t)-workBefore(list, t-10080) > 5460 {
			return 3, t
		}
		if isSplit(pauses, t-1440, t) {
			return 4, t
		}
	}
	return 0, -1
}

// rota are so many spells from a minute on, long and short in turn, with just
// 360 minutes between: of 420 and 420 it is as much as days and weeks bear.
func rota(at, long, short, count int) spells {
	var list spells
	for i := range count {
		to := at + []int{long, short}[i%2]
		list = append(list, impl.Spell{From: at, To: to})
		at = to + 360
	}
	return list
}

// drawnFuels are small ones, so that pumps are often refused, or great ones.
func drawnFuels(d *draws) fuels {
	tanks := make(fuels, d.below(9))
	great := []int{3, 20, 1000000}[d.below(3)]
	for i := range tanks {
		most := []int{d.below(great + 1), great}[d.below(2)]
		tanks[i] = fuel([]int{0, d.below(most + 1), most}[d.below(3)], most)
	}
	return tanks
}

// drawnPump has a place or a number that is not so now and then.
func drawnPump(d *draws, tanks fuels) impl.Pump {
	great := 1
	for _, f := range tanks {
		great = max(great, f.Most)
	}
	p := pumping(d.between(-1, len(tanks)-1), d.between(-1, len(tanks)-1), d.between(1, great))
	switch d.below(12) {
	case 0:
		p.From = []int{-2, len(tanks)}[d.below(2)]
	case 1:
		p.To = []int{-2, len(tanks)}[d.below(2)]
	case 2:
		p.Many = []int{0, -1, 1000001}[d.below(3)]
	case 3:
		p.Many = 1
	}
	return p
}

func drawnPumps(d *draws, tanks fuels) pumps {
	list := make(pumps, []int{d.below(6), d.below(61), 60}[d.below(3)])
	for i := range list {
		list[i] = drawnPump(d, tanks)
	}
	return list
}

func drawnCurve(d *draws) []int {
	curve := make([]int, []int{2, d.between(2, 30), 30}[d.below(3)])
	great := []int{1, 7, 100000}[d.below(3)]
	for i := range curve {
		curve[i] = d.below(great + 1)
	}
	return curve
}

func drawnAlarm(d *draws) impl.AlarmRule {
	low := d.between(-5, 5)
	return alarm(low+d.below(4), low, []int{1, 2, 3, d.between(1, 100)}[d.below(4)])
}

// drawnMeasured stays about the bounds, with rows of numbers that are alike.
func drawnMeasured(d *draws, r impl.AlarmRule) []int {
	list := make([]int, []int{d.below(20), d.below(501), 500}[d.below(3)])
	row := 0
	for i := range list {
		if row == 0 {
			row = d.between(1, []int{1, 4, 2 * r.Hold}[d.below(3)])
			list[i] = []int{r.High, r.Low, r.High + 1, r.Low - 1, d.between(r.Low-2, r.High+2), math.MaxInt, math.MinInt}[d.below(7)]
		} else {
			list[i] = list[i-1]
		}
		row--
	}
	return list
}

// drawnWatch are spells of one kind of rota, none behind minute 30000: one
// within all limits, ones that are too much for a week or for a day, and ones
// without long pauses.
func drawnWatch(d *draws) spells {
	kinds := [][6]int{
		{300, 420, 300, 420, 360, 500}, {420, 421, 419, 420, 360, 360}, {480, 500, 339, 340, 360, 361}, {440, 444, 394, 396, 360, 360},
		{500, 860, 300, 400, 360, 460}, {20, 200, 20, 200, 80, 420}, {1, 3, 1, 3, 340, 365}, {1, 900, 1, 900, 0, 900},
	}
	kind := kinds[d.below(len(kinds))]
	var list spells
	at := d.below(900)
	for len(list) < 100 {
		turn := len(list) % 2 * 2
		to := at + d.between(kind[turn], kind[turn+1])
		if to > 30000 {
			break
		}
		list = append(list, impl.Spell{From: at, To: to})
		at = to + d.between(kind[4], kind[5])
	}
	return list[:len(list)-d.below(len(list)/4+1)]
}

// drawnSpells lie anywhere, some just behind each other.
func drawnSpells(d *draws) spells {
	var list spells
	at, great := 0, []int{3, 100, 900000}[d.below(3)]
	for range d.below(101) {
		from := at + d.below(3)*d.below(great)/2
		at = from + d.between(1, max(1, great/2))
		if at > 100000000 {
			break
		}
		list = append(list, impl.Spell{From: from, To: at})
	}
	return list
}

// wrongFuels pass one limit each, most of them by one.
func wrongFuels() map[string]fuels {
	all := map[string]fuels{
		"one more": slices.Repeat(fuels{fuel(1, 2)}, 9), "one more, empty ones": make(fuels, 9), "many more": make(fuels, 3000),
	}
	for name, f := range map[string]impl.Fuel{
		"Has -1": fuel(-1, 5), "one above Most": fuel(6, 5), "Most 10^6 and one": fuel(5, 1000001), "all of them": fuel(1000001, 1000001),
		"both -1": fuel(-1, -1), "Most -1": fuel(0, -1), "least Has": fuel(math.MinInt, 5), "greatest Has": fuel(math.MaxInt, 5),
		"least Most": fuel(0, math.MinInt), "greatest Most": fuel(0, math.MaxInt), "both least": fuel(math.MinInt, math.MinInt), "both greatest": fuel(math.MaxInt, math.MaxInt),
	} {
		for at := range 3 {
			tanks := fuels{fuel(3, 9), fuel(3, 9), fuel(3, 9)}
			tanks[at] = f
			all[fmt.Sprint(name, " at ", at)] = tanks
		}
	}
	all["the eighth"] = append(slices.Repeat(fuels{fuel(1, 2)}, 7), fuel(3, 2))
	return all
}

// wrongPumps are so for three tanks: each passes one limit, most by one.
func wrongPumps() map[string]impl.Pump {
	all := map[string]impl.Pump{"both -1": pumping(-1, -1, 1), "both 0": pumping(0, 0, 1), "both the last": pumping(2, 2, 1), "both none": pumping(3, 3, 1), "empty": {}}
	for _, place := range []int{-2, -3, 3, 4, math.MinInt, math.MaxInt} {
		for _, other := range []int{-1, 0, 2} {
			all[fmt.Sprint("From ", place, " To ", other)] = pumping(place, other, 1)
			all[fmt.Sprint("To ", place, " From ", other)] = pumping(other, place, 1)
		}
	}
	for _, many := range []int{0, -1, 1000001, math.MinInt, math.MaxInt} {
		all[fmt.Sprint("Many ", many)] = pumping(0, 1, many)
		all[fmt.Sprint("Many ", many, " from the boat")] = pumping(-1, 1, many)
		all[fmt.Sprint("Many ", many, " to the engine")] = pumping(1, -1, many)
	}
	return all
}

func wrongCurves() map[string][]int {
	all := map[string][]int{"none": nil, "an empty list": {}, "one number": {5}, "one more": make([]int, 31), "many more": make([]int, 3000)}
	for _, n := range []int{-1, 100001, math.MinInt, math.MaxInt} {
		for at := range 3 {
			curve := []int{1, 2, 3}
			curve[at] = n
			all[fmt.Sprint(n, " at ", at)] = curve
		}
		all[fmt.Sprint(n, " at the end of 30")] = append(make([]int, 29), n)
	}
	return all
}

func wrongAlarms() map[string]impl.AlarmRule {
	return map[string]impl.AlarmRule{
		"empty": {}, "Hold 0": alarm(5, 2, 0), "Hold -1": alarm(5, 2, -1), "Hold 101": alarm(5, 2, 101),
		"Hold least": alarm(5, 2, math.MinInt), "Hold greatest": alarm(5, 2, math.MaxInt),
		"Low one above High": alarm(5, 6, 1), "Low far above High": alarm(-1000000, 1000000, 1),
		"High beyond": alarm(1000001, 5, 1), "Low beyond": alarm(5, -1000001, 1),
		"both above": alarm(1000001, 1000001, 1), "both below": alarm(-1000001, -1000001, 1),
		"High below": alarm(-1000001, -1000000, 1), "Low above": alarm(1000000, 1000001, 1),
		"High greatest": alarm(math.MaxInt, 0, 1), "Low least": alarm(0, math.MinInt, 1), "both at the ends": alarm(math.MaxInt, math.MinInt, 1),
		"High least": alarm(math.MinInt, 0, 1), "Low greatest": alarm(0, math.MaxInt, 1),
	}
}

func wrongSpells() map[string]spells {
	manyMore := make(spells, 101)
	for i := range manyMore {
		manyMore[i] = impl.Spell{From: 2 * i, To: 2*i + 1}
	}
	return map[string]spells{
		"one more": manyMore, "many more": make(spells, 3000), "an empty one": make(spells, 1),
		"From just To": spellsOf(10, 20, 30, 30), "From above To": spellsOf(10, 20, 31, 30), "turned about": spellsOf(20, 10),
		"From -1": spellsOf(-1, 20), "both below 0": spellsOf(-20, -10), "To 0": spellsOf(-1, 0), "least From": spellsOf(math.MinInt, 20),
		"To beyond": spellsOf(10, 100000001), "both beyond": spellsOf(100000001, 100000002), "greatest To": spellsOf(10, math.MaxInt),
		"From MaxMinute": spellsOf(100000000, 100000001), "just MaxMinute": spellsOf(100000000, 100000000), "both ends": spellsOf(math.MinInt, math.MaxInt), "both ends turned": spellsOf(math.MaxInt, math.MinInt),
		"one below the To ahead": spellsOf(10, 20, 19, 30), "alike": spellsOf(10, 20, 10, 20), "within": spellsOf(10, 40, 20, 30),
		"out of order": spellsOf(30, 40, 10, 20), "the last one out of order": spellsOf(10, 20, 30, 40, 25, 28), "the first one wrong": spellsOf(5, 5, 10, 20),
	}
}
