package tests

import (
	"fmt"
	"math"
	"math/big"
	"slices"
	"sort"

	"loop.example/g00059/impl"
)

const (
	lastMinute = 100000000
	mostMoney  = 1000000000
)

func charter(notice, allowed, demurrage, despatch int) impl.Charter {
	return impl.Charter{Notice: notice, Allowed: allowed, Demurrage: demurrage, Despatch: despatch}
}

// allowing is a charter of which only what may be used matters.
func allowing(minutes int) impl.Charter { return charter(0, minutes, 0, 0) }

func noticed(minutes int) impl.Charter { return charter(minutes, 0, 0, 0) }

func counts(used, over, late int) impl.Count {
	return impl.Count{Used: used, Over: over, Late: late}
}

func charterOkOf(c impl.Charter) bool {
	isWrong := c.Notice < 0 || c.Notice > 100000 || c.Allowed < 0 || c.Allowed > 100000 ||
		c.Demurrage < 0 || c.Demurrage > mostMoney || c.Despatch < 0 || c.Despatch > mostMoney
	return !isWrong
}

func isMinuteOf(n int) bool { return n >= 0 && n <= lastMinute }

func isOffOf(minute int, off spells) bool {
	return slices.ContainsFunc(off, func(s impl.Spell) bool { return minute >= s.From && minute < s.To })
}

// startsOf asks the minutes at which laytime may begin at all: at once, or when
// a spell is over.
func startsOf(c impl.Charter, arrived int, off spells) (int, bool) {
	if !charterOkOf(c) || !isMinuteOf(arrived) || !spellsOk(off) {
		return -1, false
	}
	soonest := arrived + c.Notice
	least := math.MaxInt
	for _, s := range append(spellsOf(0, soonest), off...) {
		if s.To >= soonest && !isOffOf(s.To, off) {
			least = min(least, s.To)
		}
	}
	if !isMinuteOf(least) {
		return -1, false
	}
	return least, true
}

func isStayOf(c impl.Charter, begin, done int, off spells) bool {
	return charterOkOf(c) && isMinuteOf(begin) && isMinuteOf(done) && begin <= done && spellsOk(off)
}

// countedByMinute goes by the chapter's words, a minute at a time.
func countedByMinute(c impl.Charter, begin, done int, off spells) (impl.Count, bool) {
	if !isStayOf(c, begin, done, off) {
		return impl.Count{}, false
	}
	counted, late := 0, -1
	for minute := begin; minute < done; minute++ {
		if isOffOf(minute, off) && counted < c.Allowed {
			continue
		}
		if counted == c.Allowed {
			late = minute
		}
		counted++
	}
	used := min(counted, c.Allowed)
	return counts(used, counted-used, late), true
}

// countedOf looks for the minute at which Allowed are used up, for calls that
// are too long to go through.
func countedOf(c impl.Charter, begin, done int, off spells) (impl.Count, bool) {
	if !isStayOf(c, begin, done, off) {
		return impl.Count{}, false
	}
	free := func(minutes int) int {
		return minutes - (workBefore(off, begin+minutes) - workBefore(off, begin))
	}
	ahead := sort.Search(done-begin, func(minutes int) bool { return free(minutes) >= c.Allowed })
	if ahead == done-begin {
		return counts(free(ahead), 0, -1), true
	}
	return counts(c.Allowed, done-begin-ahead, begin+ahead), true
}

func owedOf(c impl.Charter, n impl.Count) (int, bool) {
	if !charterOkOf(c) || n.Used < 0 || n.Used > c.Allowed || n.Over < 0 || n.Over > lastMinute {
		return 0, false
	}
	if n.Over > 0 && n.Used != c.Allowed {
		return 0, false
	}
	days := func(minutes, money int) int {
		return int(floorOf(new(big.Rat).Mul(big.NewRat(int64(minutes), 1440), big.NewRat(int64(money), 1))).Int64())
	}
	if n.Over > 0 {
		return days(n.Over, c.Demurrage), true
	}
	return -days(c.Allowed-n.Used, c.Despatch), true
}

// laidOf counts each part by itself, under a charter with less and less.
func laidOf(c impl.Charter, parts, off spells) (impl.Count, bool) {
	if !charterOkOf(c) || len(parts) == 0 || !spellsOk(parts) || !spellsOk(off) {
		return impl.Count{}, false
	}
	sum := counts(0, 0, -1)
	for _, p := range parts {
		n, _ := countedOf(c, p.From, p.To, off)
		c.Allowed -= n.Used
		sum.Used, sum.Over = sum.Used+n.Used, sum.Over+n.Over
		if sum.Late == -1 {
			sum.Late = n.Late
		}
	}
	return sum, true
}

func sumOf(list []int) int {
	sum := 0
	for _, n := range list {
		sum += n
	}
	return sum
}

func valuesOkOf(values []int, loss int) bool {
	isWrong := func(n int) bool { return n < 0 || n > mostMoney }
	if len(values) < 1 || len(values) > 40 || slices.ContainsFunc(values, isWrong) || isWrong(loss) {
		return false
	}
	return sumOf(values) > 0 && loss <= sumOf(values)
}

// averageOf gives out what is left a unit at a time, by exact fractions.
func averageOf(values []int, loss int) ([]int, bool) {
	if !valuesOkOf(values, loss) {
		return nil, false
	}
	shares := make([]int, len(values))
	rests := make([]*big.Rat, len(values))
	for i, value := range values {
		part := new(big.Rat).Mul(big.NewRat(int64(loss), int64(sumOf(values))), big.NewRat(int64(value), 1))
		shares[i] = int(floorOf(part).Int64())
		rests[i] = part.Sub(part, big.NewRat(int64(shares[i]), 1))
	}
	for sumOf(shares) < loss {
		at := 0
		for i := range rests {
			if rests[i].Cmp(rests[at]) > 0 {
				at = i
			}
		}
		shares[at]++
		rests[at] = big.NewRat(-1, 1)
	}
	return shares, true
}

// drawnCharter has few minutes or many.
func drawnCharter(d *draws) impl.Charter {
	great := []int{3, 60, 100000}[d.below(3)]
	money := func() int { return []int{0, d.below(3000), d.below(mostMoney + 1), mostMoney}[d.below(4)] }
	return charter(d.below(great+1), []int{0, d.below(great + 1), great}[d.below(3)], money(), money())
}

// drawnShort are spells in the first minutes, many of which touch.
func drawnShort(d *draws, great int) spells {
	var list spells
	at := d.below(4)
	for at < great && d.below(8) > 0 {
		to := at + d.between(1, great/4+1)
		list = append(list, impl.Spell{From: at, To: to})
		at = to + d.below(3)*d.below(great/4+1)
	}
	return list
}

// drawnStay is from one minute to another one, often where a spell begins or
// ends.
func drawnStay(d *draws, off spells, great int) (int, int) {
	edge := func() int {
		if len(off) == 0 || d.below(2) == 0 {
			return d.below(great + 1)
		}
		s := off[d.below(len(off))]
		return min(lastMinute, max(0, []int{s.From, s.To, s.From - 1, s.To - 1, s.From + 1, s.To + 1}[d.below(6)]))
	}
	a, b := edge(), edge()
	return min(a, b), max(a, b)
}

func drawnValues(d *draws) []int {
	values := make([]int, []int{1, d.between(1, 6), d.between(1, 40), 40}[d.below(4)])
	great := []int{1, 3, 50, mostMoney}[d.below(4)]
	for i := range values {
		values[i] = []int{0, d.below(great + 1), d.below(great + 1), great}[d.below(4)]
	}
	values[d.below(len(values))] = d.between(1, great)
	return values
}

func drawnLoss(d *draws, values []int) int {
	most := min(sumOf(values), mostMoney)
	return []int{0, 1, d.below(most + 1), d.below(most + 1), most - 1, most}[d.below(6)]
}

// wrongCharters pass one limit each, most of them by one.
func wrongCharters() map[string]impl.Charter {
	all := map[string]impl.Charter{"all -1": charter(-1, -1, -1, -1), "all greatest": charter(math.MaxInt, math.MaxInt, math.MaxInt, math.MaxInt)}
	for name, wrong := range map[string]int{"-1": -1, "100001": 100001, "least": math.MinInt, "greatest": math.MaxInt} {
		all["Notice "+name] = charter(wrong, 100, 10, 10)
		all["Allowed "+name] = charter(10, wrong, 10, 10)
	}
	for name, wrong := range map[string]int{"-1": -1, "10^9 and one": mostMoney + 1, "least": math.MinInt, "greatest": math.MaxInt} {
		all["Demurrage "+name] = charter(10, 100, wrong, 10)
		all["Despatch "+name] = charter(10, 100, 10, wrong)
	}
	return all
}

// wrongValues are so for every loss.
func wrongValues() map[string][]int {
	all := map[string][]int{
		"none": nil, "an empty list": {}, "one more": slices.Repeat([]int{5}, 41), "many more": slices.Repeat([]int{5}, 3000), "one more, one of them not 0": append(make([]int, 40), 5),
		"one of 0": {0}, "all 0": make([]int, 5), "40 of 0": make([]int, 40), "0 in sum": {-5, 5}, "least and greatest": {math.MinInt, math.MaxInt, 1},
		"a sum that wraps round": {math.MaxInt, math.MaxInt, 12}, "a sum that wraps round to 0": {math.MinInt, math.MinInt},
	}
	for _, n := range []int{-1, mostMoney + 1, math.MinInt, math.MaxInt} {
		for at := range 3 {
			values := []int{7, 8, 9}
			values[at] = n
			all[fmt.Sprint(n, " at ", at)] = values
		}
		all[fmt.Sprint(n, " by itself")] = []int{n}
		all[fmt.Sprint(n, " at the end of 40")] = append(slices.Repeat([]int{5}, 39), n)
	}
	return all
}
