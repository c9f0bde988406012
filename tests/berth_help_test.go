package tests

import (
	"cmp"
	"fmt"
	"math"
	"slices"

	"loop.example/g00059/impl"
)

type (
	calls  = []impl.Call
	cranes = []impl.Crane
	moves  = []impl.Move
)

func calling(id, long, from, to, at int) impl.Call {
	return impl.Call{Id: id, Long: long, From: from, To: to, At: at}
}

// waiting has no berth.
func waiting(id, long, from, to int) impl.Call { return calling(id, long, from, to, -1) }

// roadstead has so many calls without berth, one behind the other in time.
func roadstead(count int) calls {
	var list calls
	for i := range count {
		list = append(list, waiting(i+1, 3, 10*i, 10*i+10))
	}
	return list
}

func withCall(list calls, at int, other impl.Call) calls {
	list = slices.Clone(list)
	list[at] = other
	return list
}

func crane(at, low, high int) impl.Crane { return impl.Crane{At: at, Low: low, High: high} }

// along are cranes that may go anywhere.
func along(places ...int) cranes {
	var list cranes
	for _, at := range places {
		list = append(list, crane(at, 0, 1000))
	}
	return list
}

func withCrane(list cranes, at int, other impl.Crane) cranes {
	list = slices.Clone(list)
	list[at] = other
	return list
}

func move(at, to int) impl.Move { return impl.Move{Crane: at, To: to} }

func placesIn(list cranes) []int {
	var places []int
	for _, c := range list {
		places = append(places, c.At)
	}
	return places
}

func callOkOf(c impl.Call, long int) bool {
	isTime := c.From >= 0 && c.From < c.To && c.To <= 100000000
	isThere := c.At == -1 || c.At >= 0 && c.At <= 1000 && c.At+c.Long <= long
	return c.Id >= 1 && c.Id <= 1000000 && c.Long >= 1 && c.Long <= 1000 && isTime && isThere
}

func callsOkOf(long int, list calls) bool {
	if long < 1 || long > 1000 || len(list) > 24 {
		return false
	}
	var ids []int
	for _, c := range list {
		if !callOkOf(c, long) {
			return false
		}
		ids = append(ids, c.Id)
	}
	return ascends(ids)
}

// sharesOf tells of two that have berths. Of two stretches that share anything,
// one begins within the other.
func sharesOf(a, b impl.Call) bool {
	within := func(n, from, to int) bool { return n >= from && n < to }
	inTime := within(a.From, b.From, b.To) || within(b.From, a.From, a.To)
	inPlace := within(a.At, b.At, b.At+b.Long) || within(b.At, a.At, a.At+a.Long)
	return inTime && inPlace
}

func clearOf(long int, list calls) bool {
	if !callsOkOf(long, list) {
		return false
	}
	for i, a := range list {
		for _, b := range list[:i] {
			if a.At >= 0 && b.At >= 0 && sharesOf(a, b) {
				return false
			}
		}
	}
	return true
}

// berthOf tries each place, with the call there, on the whole quay.
func berthOf(long int, list calls, id int) (int, bool) {
	which := slices.IndexFunc(list, func(c impl.Call) bool { return c.Id == id })
	if which < 0 || !clearOf(long, list) {
		return -1, false
	}
	for at := range long {
		own := list[which]
		own.At = at
		if clearOf(long, withCall(list, which, own)) {
			return at, true
		}
	}
	return -1, false
}

// berthAllOf has the calls in the order in which they come, and asks for each by
// its Id.
func berthAllOf(long int, list calls) (calls, bool) {
	if !clearOf(long, list) {
		return nil, false
	}
	now := slices.Clone(list)
	come := slices.Clone(list)
	slices.SortFunc(come, func(a, b impl.Call) int { return cmp.Or(a.From-b.From, a.Id-b.Id) })
	for _, c := range come {
		if c.At == -1 {
			which := slices.IndexFunc(now, func(own impl.Call) bool { return own.Id == c.Id })
			now[which].At, _ = berthOf(long, now, c.Id)
		}
	}
	return now, true
}

// boundOf looks at the minutes beside which something comes or goes.
func boundOf(long int, list calls) (int, bool) {
	if !callsOkOf(long, list) {
		return 0, false
	}
	most := 0
	for _, c := range list {
		for _, minute := range []int{c.From - 1, c.From, c.From + 1, c.To - 1, c.To, c.To + 1} {
			sum := 0
			for _, other := range list {
				if minute >= other.From && minute <= other.To-1 {
					sum += other.Long
				}
			}
			most = max(most, sum)
		}
	}
	return most, true
}

func craneOkOf(c impl.Crane) bool {
	return slices.IsSorted([]int{0, c.Low, c.At, c.High, 1000})
}

func cranesOkOf(list cranes, gap int) bool {
	if len(list) < 1 || len(list) > 8 || gap < 1 || gap > 20 || slices.ContainsFunc(list, func(c impl.Crane) bool { return !craneOkOf(c) }) {
		return false
	}
	for i := range len(list) - 1 {
		if list[i+1].At-list[i].At < gap {
			return false
		}
	}
	return true
}

func moveCodeOf(list cranes, gap int, m impl.Move) int {
	switch {
	case !cranesOkOf(list, gap) || !slices.Contains(upTo(len(list)), m.Crane):
		return 1
	case m.To < list[m.Crane].Low || m.To > list[m.Crane].High:
		return 2
	}
	for i, other := range list {
		if i < m.Crane && m.To-other.At < gap || i > m.Crane && other.At-m.To < gap {
			return 3
		}
	}
	return 0
}

func doMoveOf(list cranes, gap int, m impl.Move) (cranes, int) {
	now := slices.Clone(list)
	code := moveCodeOf(list, gap, m)
	if code == 0 {
		now[m.Crane].At = m.To
	}
	return now, code
}

// pushOf knows where each crane must at least be: so many gaps away from the one
// that goes.
func pushOf(list cranes, gap int, m impl.Move) (cranes, bool) {
	now := slices.Clone(list)
	if code := moveCodeOf(list, gap, m); code == 1 || code == 2 {
		return now, false
	}
	for i := range now {
		away := m.To + (i-m.Crane)*gap
		switch {
		case i == m.Crane:
			now[i].At = m.To
		case i > m.Crane && m.To > list[m.Crane].At:
			now[i].At = max(now[i].At, away)
		case i < m.Crane && m.To < list[m.Crane].At:
			now[i].At = min(now[i].At, away)
		}
	}
	if slices.ContainsFunc(now, func(c impl.Crane) bool { return !craneOkOf(c) }) {
		return slices.Clone(list), false
	}
	return now, true
}

func runMovesOf(list cranes, gap int, all moves) (cranes, []int) {
	now := slices.Clone(list)
	if len(all) > 60 {
		return now, nil
	}
	var codes []int
	for _, m := range all {
		var code int
		now, code = doMoveOf(now, gap, m)
		codes = append(codes, code)
	}
	return now, codes
}

// drawnQuay is short mostly, so that calls meet.
func drawnQuay(d *draws) int {
	return []int{1, d.between(1, 4), d.between(1, 30), d.between(1, 30), d.between(1, 30), d.between(1, 100), 1000}[d.below(7)]
}

// drawnCall has no berth. It comes at a minute of a few, so that calls touch,
// or at either end of all minutes.
func drawnCall(d *draws, id, long int) impl.Call {
	c := waiting(id, d.between(1, 1+long/2), d.below(12), 0)
	if d.below(12) == 0 {
		c.Long = []int{long, min(long+1, 1000), 1000, 1}[d.below(4)]
	}
	c.To = c.From + d.between(1, 6)
	switch d.below(30) {
	case 0:
		c.From, c.To = 0, 100000000
	case 1:
		c.From, c.To = 99999999, 100000000
	}
	return c
}

// drawnCalls are Clear17: some get berths that are free, one by one.
func drawnCalls(d *draws, long int) calls {
	var list calls
	for _, place := range slices.Sorted(slices.Values(shuffled(d, upTo(40))[:[]int{d.below(6), d.below(12), d.below(25), 24}[d.below(4)]])) {
		c := drawnCall(d, place+1, long)
		if d.below(20) == 0 {
			c.Id += 1000000 - 40
		}
		list = append(list, c)
	}
	slices.SortFunc(list, func(a, b impl.Call) int { return a.Id - b.Id })
	for i, c := range list {
		if c.Long <= long && d.below(3) != 0 {
			c.At = d.below(long - c.Long + 1)
			if tried := withCall(list, i, c); clearOf(long, tried) {
				list = tried
			}
		}
	}
	return list
}

// spoilCalls changes something that may well stay right.
func spoilCalls(d *draws, list calls) {
	if len(list) == 0 {
		return
	}
	c := &list[d.below(len(list))]
	*[]*int{&c.Id, &c.Long, &c.From, &c.To, &c.At, &c.At, &c.At}[d.below(7)] += d.between(-2, 2)
}

// drawnCranes stand near each other mostly, and may go as far as the next one, a
// bit further or anywhere.
func drawnCranes(d *draws) (cranes, int) {
	gap := []int{1, d.between(1, 5), d.between(1, 20), 20}[d.below(4)]
	list := make(cranes, []int{1, 2, 3, d.between(1, 8), 8}[d.below(5)])
	for {
		at := []int{0, d.below(10), d.below(900)}[d.below(3)]
		for i := range list {
			list[i] = crane(at, 0, 1000)
			if d.below(3) != 0 {
				list[i] = crane(at, max(0, at-d.below(2*gap+9)), min(1000, at+d.below(2*gap+9)))
			}
			at += gap + []int{0, 0, d.below(4), d.below(40)}[d.below(4)]
		}
		if cranesOkOf(list, gap) {
			return list, gap
		}
	}
}

// drawnMove is for a crane that is there, to a place near a neighbour or a bound
// of its own mostly.
func drawnMove(d *draws, list cranes, gap int) impl.Move {
	if d.below(20) == 0 {
		return move([]int{-1, len(list), d.below(9)}[d.below(3)], d.between(-1, 1001))
	}
	m := move(d.below(len(list)), 0)
	own, other := list[m.Crane], list[d.below(len(list))]
	m.To = []int{own.At, own.At + d.between(-3, 3), own.Low + d.between(-1, 2), own.High + d.between(-2, 1), other.At + gap + d.between(-2, 2), other.At - gap + d.between(-2, 2), other.At, d.below(1001)}[d.below(8)]
	return m
}

func drawnMoves(d *draws, list cranes, gap int) moves {
	all := make(moves, []int{d.below(6), d.below(61), 60}[d.below(3)])
	for i := range all {
		all[i] = drawnMove(d, list, gap)
		list, _ = doMoveOf(list, gap, all[i])
	}
	return all
}

// wrongCallsByOne pass one limit each, most of them by one. Their Id is 7, or it is
// what is wrong; the quay is 20 long.
func wrongCallsByOne() map[string]impl.Call {
	all := map[string]impl.Call{"empty": {}, "From just To": calling(7, 5, 3, 3, 2), "From one above To": calling(7, 5, 4, 3, 2), "both at the last minute": waiting(7, 5, 100000000, 100000000), "both at 0": waiting(7, 5, 0, 0),
		"both turned": waiting(7, 5, math.MaxInt, math.MinInt), "both beyond the last minute": waiting(7, 5, 100000001, 100000002), "both below 0": waiting(7, 5, -2, -1), "a Long that wraps round": calling(7, math.MaxInt, 1, 2, 5), "an At that wraps round": calling(7, 5, 1, 2, math.MaxInt-3)}
	change := func(name string, values []int, set func(c *impl.Call, n int)) {
		for _, n := range values {
			for _, at := range []int{-1, 2} {
				c := calling(7, 5, 3, 9, at)
				set(&c, n)
				all[fmt.Sprint(name, " ", n, " at ", at)] = c
			}
		}
	}
	far := []int{math.MinInt, math.MinInt + 1, math.MaxInt - 1, math.MaxInt}
	change("Id", append(far, 0, -1, 1000001), func(c *impl.Call, n int) { c.Id = n })
	change("Long", append(far, 0, -1, 1001), func(c *impl.Call, n int) { c.Long = n })
	change("From", append(far, -1, 9, 10, 100000000, 100000001), func(c *impl.Call, n int) { c.From = n })
	change("To", append(far, 0, -1, 3, 2, 100000001), func(c *impl.Call, n int) { c.To = n })
	change("At", append(far, -2, 16, 17, 20, 1000), func(c *impl.Call, n int) { c.At = n })
	return all
}

// wrongCallLists are not CallsOk, on a quay that is 20 long.
func wrongCallLists() map[string]calls {
	a, b, c := calling(3, 5, 0, 4, 0), waiting(7, 5, 0, 4), calling(9, 5, 0, 4, 5)
	all := map[string]calls{
		"25 calls": roadstead(25), "1000 calls": roadstead(1000), "25 empty ones": make(calls, 25), "one Id twice": {a, a}, "unlike calls of one Id": {a, calling(3, 1, 6, 9, 2), c}, "the last two of one Id": {a, c, waiting(9, 1, 1, 2)},
		"the wrong way round": {c, a}, "the last two turned": {a, c, b}, "the first two turned": {b, a, c}, "a ship longer than the quay in its berth": {calling(3, 21, 0, 4, 0)},
	}
	for name, wrong := range wrongCallsByOne() {
		all[name+", by itself"] = calls{wrong}
		all[name+", the first"] = calls{wrong, c}
		all[name+", the last"] = calls{a, wrong}
		if wrong.Id == 7 {
			wrong.Id = 1000
		}
		all[name+", the 24th"] = append(roadstead(23), wrong)
	}
	return all
}

// unclearLists are CallsOk, and not Clear17, on a quay that is 20 long.
func unclearLists() map[string]calls {
	return map[string]calls{
		"one place at one minute":         {calling(3, 5, 0, 5, 0), calling(7, 5, 4, 9, 4)},
		"the other way round":             {calling(3, 5, 4, 9, 4), calling(7, 5, 0, 5, 0)},
		"all of both":                     {calling(3, 20, 0, 5, 0), calling(7, 20, 0, 5, 0)},
		"one within the other":            {calling(3, 20, 0, 100, 0), calling(7, 1, 50, 51, 10)},
		"the last place and minute":       {calling(3, 1, 99999999, 100000000, 19), calling(7, 20, 0, 100000000, 0)},
		"the first place and minute":      {calling(3, 1, 0, 1, 0), calling(7, 20, 0, 100000000, 0)},
		"the second and the third":        {calling(3, 5, 0, 5, 0), calling(7, 5, 0, 5, 10), calling(9, 5, 4, 9, 14)},
		"the first and the third":         {calling(3, 5, 0, 5, 0), waiting(7, 5, 0, 5), calling(9, 5, 4, 9, 4)},
		"with one who has long been gone": {calling(3, 5, 0, 2, 0), calling(7, 5, 2, 9, 0), calling(9, 5, 8, 20, 4)},
	}
}

// wrongCranesByOne pass one limit each.
func wrongCranesByOne() map[string]impl.Crane {
	all := map[string]impl.Crane{"Low above High": crane(50, 60, 40), "all beyond": crane(1001, 1001, 1001), "all below": crane(-1, -1, -1), "turned": crane(0, math.MaxInt, math.MinInt)}
	for _, n := range []int{math.MinInt, math.MaxInt, -1, 1001} {
		all[fmt.Sprint("At ", n)] = crane(n, 0, 1000)
		all[fmt.Sprint("Low ", n)] = crane(50, n, 1000)
		all[fmt.Sprint("High ", n)] = crane(50, 0, n)
	}
	all["At below Low"], all["At above High"], all["At far from both"] = crane(49, 50, 60), crane(61, 50, 60), crane(500, 50, 60)
	return all
}

// wrongRails are not CranesOk with any gap.
func wrongRails() map[string]cranes {
	all := map[string]cranes{"none": nil, "an empty list": {}, "9 of them": along(0, 100, 200, 300, 400, 500, 600, 700, 800), "at one place": along(50, 50), "the wrong way round": along(500, 50), "the last two turned": along(50, 500, 450), "1000 of them": make(cranes, 1000), "two empty ones": make(cranes, 2)}
	for name, wrong := range wrongCranesByOne() {
		all[name+", by itself"] = cranes{wrong}
		all[name+", the first"] = append(cranes{wrong}, along(900)...)
		all[name+", the last"] = append(along(0), wrong)
		all[name+", in the middle"] = append(append(along(0), wrong), along(980)...)
	}
	return all
}
