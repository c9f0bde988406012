package tests

import (
	"math"
	"slices"
	"testing"

	"loop.example/g00059/impl"
)

// The liner network for the tests: helpers that make and draw legs, and what each
// function should tell, worked out in another way.

type legs = []impl.Leg

func legOf(service, from, to, leaves, comes, room int) impl.Leg {
	return impl.Leg{Service: service, From: from, To: to, Leaves: leaves, Comes: comes, Room: room}
}

// sail is a leg with Room 10.
func sail(service, from, to, leaves, comes int) impl.Leg {
	return legOf(service, from, to, leaves, comes, 10)
}

// rowOfLegs are legs of one Service from port to port, from 0 on and round, each
// ten minutes behind the one ahead and five minutes under way.
func rowOfLegs(many int) legs {
	var list legs
	for i := range many {
		list = append(list, sail(1, i%20, (i+1)%20, 10*i, 10*i+5))
	}
	return list
}

// unlikeRow are the same legs, each of a Service of its own.
func unlikeRow(many int) legs {
	list := rowOfLegs(many)
	for i := range list {
		list[i].Service = i + 1
	}
	return list
}

func withRoom(list legs, rooms ...int) legs {
	list = slices.Clone(list)
	for i, room := range rooms {
		list[i].Room = room
	}
	return list
}

// withTimes has the minutes, Leaves and Comes of each leg in turn.
func withTimes(list legs, minutes ...int) legs {
	list = slices.Clone(list)
	for i := range list {
		list[i].Leaves, list[i].Comes = minutes[2*i], minutes[2*i+1]
	}
	return list
}

// there has a minute for each port that stands ahead of it, and -1 for all others.
func there(pairs ...int) []int {
	list := slices.Repeat([]int{-1}, 20)
	for i := 0; i < len(pairs); i += 2 {
		list[pairs[i]] = pairs[i+1]
	}
	return list
}

func legOkOf(l impl.Leg) bool {
	ports := []int{l.From, l.To}
	minutes := []int{l.Leaves, l.Comes}
	return slices.Min(ports) >= 0 && slices.Max(ports) < 20 && l.From != l.To &&
		slices.Min(minutes) >= 0 && slices.Max(minutes) <= 100000000 && l.Comes > l.Leaves &&
		isBetween(l.Service, 1, 100) && isBetween(l.Room, 0, 1000000)
}

// lineOkOf keeps for each Service where and when its last leg came.
func lineOkOf(list legs) bool {
	if len(list) > 60 {
		return false
	}
	last := map[int]impl.Leg{}
	for _, l := range list {
		if !legOkOf(l) {
			return false
		}
		if ahead, ok := last[l.Service]; ok && (ahead.To != l.From || ahead.Comes > l.Leaves) {
			return false
		}
		last[l.Service] = l
	}
	return true
}

// cameBy is a port and the Service by which one came there (0: none).
type cameBy struct{ port, service int }

// isAboard says whether one that came so at a minute may take a leg.
func (c cameBy) isAboard(l impl.Leg, minute, change int) bool {
	if c.service != 0 && c.service != l.Service {
		minute += change
	}
	return c.port == l.From && minute <= l.Leaves
}

// earliestOf goes over all legs until nothing comes sooner any more.
func earliestOf(list legs, from, at, change int) ([]int, bool) {
	if !lineOkOf(list) || !isBetween(from, 0, 19) || !isBetween(at, 0, 100000000) || !isBetween(change, 0, 10000) {
		return nil, false
	}
	best := map[cameBy]int{{from, 0}: at}
	for isNew := true; isNew; {
		isNew = false
		for _, l := range list {
			for came, minute := range best {
				if !came.isAboard(l, minute, change) {
					continue
				}
				now := cameBy{l.To, l.Service}
				if old, ok := best[now]; !ok || l.Comes < old {
					best[now], isNew = l.Comes, true
					break
				}
			}
		}
	}
	minutes := there()
	for came, minute := range best {
		if old := minutes[came.port]; old < 0 || minute < old {
			minutes[came.port] = minute
		}
	}
	return minutes, true
}

// travelOf goes leg by leg: of all ways with so many legs that end by one leg, it
// keeps the first.
func travelOf(list legs, from, to, at, change int) ([]int, bool) {
	minutes, ok := earliestOf(list, from, at, change)
	if !ok || !isBetween(to, 0, 19) {
		return nil, false
	}
	if from == to {
		return nil, true
	}
	ways := make([][]int, len(list))
	for i, l := range list {
		if (cameBy{from, 0}).isAboard(l, at, change) {
			ways[i] = []int{i}
		}
	}
	for range 6 {
		for i, l := range list {
			if ways[i] != nil && l.To == to && l.Comes == minutes[to] {
				return firstWayTo(list, ways, to, minutes[to]), true
			}
		}
		ways = longerWays(list, ways, change)
	}
	return nil, false
}

func firstWayTo(list legs, ways [][]int, to, minute int) []int {
	var best []int
	for i, l := range list {
		if way := ways[i]; way != nil && l.To == to && l.Comes == minute && (best == nil || slices.Compare(way, best) < 0) {
			best = way
		}
	}
	return best
}

func longerWays(list legs, ways [][]int, change int) [][]int {
	next := make([][]int, len(list))
	for i, l := range list {
		for k, way := range ways {
			if way == nil || !(cameBy{list[k].To, list[k].Service}).isAboard(l, list[k].Comes, change) {
				continue
			}
			if now := append(slices.Clone(way), i); next[i] == nil || slices.Compare(now, next[i]) < 0 {
				next[i] = now
			}
		}
	}
	return next
}

func wayOkOf(list legs, way []int) bool {
	if len(way) == 0 || len(way) > 6 {
		return false
	}
	seen := map[int]bool{}
	for i, place := range way {
		if seen[place] || !isBetween(place, 0, len(list)-1) {
			return false
		}
		seen[place] = true
		if i > 0 && (list[way[i-1]].To != list[place].From || list[way[i-1]].Comes > list[place].Leaves) {
			return false
		}
	}
	return true
}

func load22Of(list legs, way []int, many int) (legs, int) {
	if !lineOkOf(list) || !isBetween(many, 1, 1000000) {
		return list, 1
	}
	if !wayOkOf(list, way) {
		return list, 2
	}
	now := slices.Clone(list)
	for i := range now {
		if slices.Contains(way, i) {
			now[i].Room -= many
		}
		if now[i].Room < 0 {
			return list, 3
		}
	}
	return now, 0
}

func delayOf(list legs, at, by, turn int) (legs, bool) {
	if !lineOkOf(list) || !isBetween(at, 0, len(list)-1) || !isBetween(by, 0, 10000) || !isBetween(turn, 0, 1000) {
		return nil, false
	}
	now := slices.Clone(list)
	free := list[at].Leaves + by
	for i, l := range list {
		if i < at || l.Service != list[at].Service {
			continue
		}
		now[i].Leaves = max(l.Leaves, free)
		now[i].Comes = now[i].Leaves + (l.Comes - l.Leaves)
		free = now[i].Comes + turn
	}
	if !lineOkOf(now) {
		return nil, false
	}
	return now, true
}

func missedOf(before, behind legs, change int) ([]int, bool) {
	if !lineOkOf(before) || !lineOkOf(behind) || len(before) != len(behind) || !isBetween(change, 0, 10000) {
		return nil, false
	}
	n := len(before)
	var list []int
	for place := range n * n {
		i, j := place/n, place%n
		one, other := before[i], behind[i]
		if one.Service != other.Service || one.From != other.From || one.To != other.To || one.Room != other.Room {
			return nil, false
		}
		isPair := one.Service != before[j].Service && one.To == before[j].From
		if isPair && before[j].Leaves-one.Comes >= change && behind[j].Leaves-other.Comes < change {
			list = append(list, place)
		}
	}
	return list, true
}

// drawnLegs are of few Services and ports, near each other in time, so that many
// may be changed between.
func drawnLegs(d *draws) legs {
	ports, services, turn := d.between(2, 10), d.between(1, 8), d.below(3)
	at, free := map[int]int{}, map[int]int{}
	var list legs
	for range []int{0, 1, 2, 6, 12, 20, 40, 60, 60}[d.below(9)] {
		service := 1 + 11*d.below(services)
		if _, ok := free[service]; !ok {
			at[service], free[service] = d.below(ports), d.below(15)
		}
		to := (at[service] + 1) % ports
		if turn == d.below(3) {
			to = (at[service] + d.between(1, ports-1)) % ports
		}
		leaves := free[service] + d.below(4)*d.below(3)
		comes := leaves + d.between(1, 5)
		list = append(list, legOf(service, at[service], to, leaves, comes, d.below(12)))
		at[service], free[service] = to, comes
	}
	return list
}

// spoiltLegs are wrong by one thing, most often.
func spoiltLegs(d *draws, list legs) legs {
	list = append(slices.Clone(list), sail(97, 0, 1, 3, 9))
	l := &list[d.below(len(list))]
	field := []*int{&l.Service, &l.From, &l.To, &l.Leaves, &l.Comes, &l.Room}[d.below(6)]
	*field = []int{-1, 0, 20, 101, l.Leaves, l.From, l.To, 100000001, 1000001}[d.below(9)]
	return list
}

// wayFrom goes at random from leg to leg.
func wayFrom(d *draws, list legs) []int {
	var way []int
	for range d.between(0, 7) {
		var next []int
		for i, l := range list {
			if len(way) == 0 || list[way[len(way)-1]].To == l.From && list[way[len(way)-1]].Comes <= l.Leaves {
				next = append(next, i)
			}
		}
		if d.below(12) == 0 {
			next = upTo(len(list))
		}
		if len(next) > 0 {
			way = append(way, next[d.below(len(next))])
		}
	}
	return way
}

// wrongLegs are each wrong by one thing.
func wrongLegs() map[string]legs {
	all := map[string]legs{
		"one too many":              unlikeRow(61),
		"very many":                 make(legs, 1000),
		"not where the other came":  {sail(1, 0, 1, 5, 9), sail(1, 2, 0, 9, 10)},
		"back to where it was":      {sail(1, 0, 1, 5, 9), sail(1, 0, 1, 9, 10)},
		"ahead of the other":        {sail(1, 0, 1, 5, 9), sail(1, 1, 2, 8, 10)},
		"the other way about":       {sail(1, 1, 2, 9, 10), sail(1, 0, 1, 5, 9)},
		"ahead, with one between":   {sail(1, 0, 1, 5, 9), sail(2, 1, 2, 3, 4), sail(1, 1, 2, 8, 10)},
		"the first far of the last": {sail(1, 0, 1, 5, 9), sail(2, 1, 2, 3, 4), sail(3, 2, 3, 3, 4), sail(1, 2, 1, 20, 21)},
		"the same twice":            {sail(1, 0, 1, 5, 9), sail(1, 0, 1, 5, 9)},
	}
	for name, wrong := range wrongLegsByOne() {
		all[name] = legs{wrong}
		all[name+", last"] = legs{sail(2, 0, 1, 1, 2), sail(3, 0, 1, 1, 2), wrong}
		all[name+", first"] = legs{wrong, sail(2, 0, 1, 1, 2)}
	}
	return all
}

func wrongLegsByOne() map[string]impl.Leg {
	return map[string]impl.Leg{
		"no leg":               {},
		"Service 0":            sail(0, 0, 1, 5, 9),
		"Service below 0":      sail(-1, 0, 1, 5, 9),
		"Service 101":          sail(101, 0, 1, 5, 9),
		"From below 0":         sail(1, -1, 1, 5, 9),
		"From 20":              sail(1, 20, 1, 5, 9),
		"To below 0":           sail(1, 0, -1, 5, 9),
		"To 20":                sail(1, 0, 20, 5, 9),
		"To where it was":      sail(1, 3, 3, 5, 9),
		"Leaves below 0":       sail(1, 0, 1, -1, 9),
		"Comes as it leaves":   sail(1, 0, 1, 5, 5),
		"Comes ahead":          sail(1, 0, 1, 5, 4),
		"Comes behind all":     sail(1, 0, 1, 5, 100000001),
		"Leaves at the end":    sail(1, 0, 1, 100000000, 100000000),
		"Leaves behind all":    sail(1, 0, 1, 100000001, 100000002),
		"Room below 0":         legOf(1, 0, 1, 5, 9, -1),
		"Room above all":       legOf(1, 0, 1, 5, 9, 1000001),
		"all that is greatest": legOf(math.MaxInt, math.MaxInt, math.MaxInt, math.MaxInt, math.MaxInt, math.MaxInt),
		"all that is least":    legOf(math.MinInt, math.MinInt, math.MinInt, math.MinInt, math.MinInt, math.MinInt),
	}
}

func checkLegs(t *testing.T, list legs, want bool) {
	t.Helper()
	if got := impl.LegsOk(list); got != want {
		t.Errorf("LegsOk %v: %v, want %v", list, got, want)
	}
}

func checkEarliest(t *testing.T, list legs, from, at, change int, want []int) {
	t.Helper()
	if got, ok := impl.Earliest(list, from, at, change); !slices.Equal(got, want) || !ok {
		t.Errorf("Earliest %v %d %d %d: %v %v, want %v", list, from, at, change, got, ok, want)
	}
}

func checkNoEarliest(t *testing.T, list legs, from, at, change int) {
	t.Helper()
	if got, ok := impl.Earliest(list, from, at, change); len(got) != 0 || ok {
		t.Errorf("Earliest %v %d %d %d: %v %v of what is not so", list, from, at, change, got, ok)
	}
}

func checkTravel(t *testing.T, list legs, from, to, at, change int, want ...int) {
	t.Helper()
	if got, ok := impl.Travel(list, from, to, at, change); !slices.Equal(got, want) || !ok {
		t.Errorf("Travel %v from %d to %d, %d %d: %v %v, want %v", list, from, to, at, change, got, ok, want)
	}
}

func checkNoTravel(t *testing.T, list legs, from, to, at, change int) {
	t.Helper()
	if got, ok := impl.Travel(list, from, to, at, change); len(got) != 0 || ok {
		t.Errorf("Travel %v from %d to %d, %d %d: %v %v where there is no way", list, from, to, at, change, got, ok)
	}
}

func checkLoad22(t *testing.T, list legs, way []int, many int, want legs, code int) {
	t.Helper()
	if got, gotCode := impl.Load22(list, way, many); !slices.Equal(got, want) || gotCode != code {
		t.Errorf("Load22 %v %v %d: %v %d, want %v %d", list, way, many, got, gotCode, want, code)
	}
}

// checkNoLoad22 refuses, with the legs as they were.
func checkNoLoad22(t *testing.T, list legs, way []int, many int, code int) {
	t.Helper()
	checkLoad22(t, list, way, many, list, code)
}

func checkDelay(t *testing.T, list legs, at, by, turn int, want legs) {
	t.Helper()
	if got, ok := impl.Delay(list, at, by, turn); !slices.Equal(got, want) || !ok {
		t.Errorf("Delay %v %d %d %d: %v %v, want %v", list, at, by, turn, got, ok, want)
	}
}

func checkNoDelay(t *testing.T, list legs, at, by, turn int) {
	t.Helper()
	if got, ok := impl.Delay(list, at, by, turn); len(got) != 0 || ok {
		t.Errorf("Delay %v %d %d %d: %v %v of what is not so", list, at, by, turn, got, ok)
	}
}

func checkMissed(t *testing.T, before, behind legs, change int, want ...int) {
	t.Helper()
	if got, ok := impl.Missed(before, behind, change); !slices.Equal(got, want) || !ok {
		t.Errorf("Missed %v %v %d: %v %v, want %v", before, behind, change, got, ok, want)
	}
}

func checkNotMissed(t *testing.T, before, behind legs, change int) {
	t.Helper()
	if got, ok := impl.Missed(before, behind, change); len(got) != 0 || ok {
		t.Errorf("Missed %v %v %d: %v %v of what is not so", before, behind, change, got, ok)
	}
}

func checkTravelAsTold(t *testing.T, list legs, from, to, at, change int) {
	t.Helper()
	if minutes, ok := earliestOf(list, from, at, change); ok {
		checkEarliest(t, list, from, at, change, minutes)
	} else {
		checkNoEarliest(t, list, from, at, change)
	}
	if way, ok := travelOf(list, from, to, at, change); ok {
		checkTravel(t, list, from, to, at, change, way...)
	} else {
		checkNoTravel(t, list, from, to, at, change)
	}
}

func checkLoad22AsTold(t *testing.T, list legs, way []int, many int) {
	t.Helper()
	want, code := load22Of(list, way, many)
	checkLoad22(t, list, way, many, want, code)
}

func checkDelayAsTold(t *testing.T, list legs, at, by, turn int) {
	t.Helper()
	if want, ok := delayOf(list, at, by, turn); ok {
		checkDelay(t, list, at, by, turn, want)
	} else {
		checkNoDelay(t, list, at, by, turn)
	}
}

func checkMissedAsTold(t *testing.T, before, behind legs, change int) {
	t.Helper()
	if want, ok := missedOf(before, behind, change); ok {
		checkMissed(t, before, behind, change, want...)
	} else {
		checkNotMissed(t, before, behind, change)
	}
}
