package tests

import (
	"fmt"
	"math"
	"slices"
	"strings"

	"loop.example/g00059/impl"
)

type carts = []impl.Cart

func going19(at, goal int) impl.Cart { return impl.Cart{At: at, Goal: goal} }

// parked has no Goal.
func parked(at int) impl.Cart { return going19(at, -1) }

// lanes has a text for each row of a floor. A byte tells the ways of a place: an
// arrow for one, - and | for two, + for all four, . for none, else a hexadecimal
// digit.
func lanes(drawn ...string) impl.Floor {
	f := impl.Floor{Wide: len(drawn[0]), High: len(drawn)}
	for _, b := range []byte(strings.Join(drawn, "")) {
		ways := strings.IndexByte("0123456789abcdef", b)
		if at := strings.IndexByte(".>v<^-|+", b); at >= 0 {
			ways = []int{0, 1, 2, 4, 8, 5, 10, 15}[at]
		}
		f.Ways = append(f.Ways, ways)
	}
	return f
}

// evenFloor has the same ways at each place.
func evenFloor(wide, high, ways int) impl.Floor {
	return impl.Floor{Wide: wide, High: high, Ways: slices.Repeat([]int{ways}, max(0, wide*high))}
}

func cloneFloor(f impl.Floor) impl.Floor {
	f.Ways = slices.Clone(f.Ways)
	return f
}

func withWays(f impl.Floor, place, ways int) impl.Floor {
	f = cloneFloor(f)
	f.Ways[place] = ways
	return f
}

func withCart(list carts, at int, other impl.Cart) carts {
	list = slices.Clone(list)
	list[at] = other
	return list
}

// standAt are the carts with other places and their own Goals.
func standAt(list carts, places ...int) carts {
	list = slices.Clone(list)
	for i, at := range places {
		list[i].At = at
	}
	return list
}

func placesOf(list carts) []int {
	var places []int
	for _, c := range list {
		places = append(places, c.At)
	}
	return places
}

// parkedUpTo are so many carts, at the first places.
func parkedUpTo(count int) carts {
	var list carts
	for at := range count {
		list = append(list, parked(at))
	}
	return list
}

func sameFloor(a, b impl.Floor) bool {
	return a.Wide == b.Wide && a.High == b.High && slices.Equal(a.Ways, b.Ways)
}

func floorOkOf(f impl.Floor) bool {
	if f.Wide < 1 || f.Wide > 10 || f.High < 1 || f.High > 10 || len(f.Ways) != f.Wide*f.High {
		return false
	}
	return slices.Min(f.Ways) >= 0 && slices.Max(f.Ways) <= 15
}

func cartsOkOf(f impl.Floor, list carts) bool {
	if !floorOkOf(f) || len(list) > 12 {
		return false
	}
	stands := map[int]int{}
	for _, c := range list {
		stands[c.At]++
		if c.At < 0 || c.At >= f.Wide*f.High || c.Goal < -1 || c.Goal >= f.Wide*f.High || stands[c.At] > 1 {
			return false
		}
	}
	return true
}

// leadsTo are the places that the ways of one lead to, by bit.
func leadsTo(f impl.Floor, place int) []int {
	var all []int
	x, y := place%f.Wide, place/f.Wide
	for bit, to := range [][2]int{{x + 1, y}, {x, y + 1}, {x - 1, y}, {x, y - 1}} {
		if f.Ways[place]&(1<<bit) != 0 && to[0] >= 0 && to[0] < f.Wide && to[1] >= 0 && to[1] < f.High {
			all = append(all, to[1]*f.Wide+to[0])
		}
	}
	return all
}

// hopsOf lets each place have one more than the least of those that it leads to,
// until nothing changes.
func hopsOf(f impl.Floor, goal int) []int {
	const far = 1000
	hops := slices.Repeat([]int{far}, len(f.Ways))
	hops[goal] = 0
	for isOver := false; !isOver; {
		isOver = true
		for place := range hops {
			for _, to := range leadsTo(f, place) {
				if hops[to]+1 < hops[place] {
					hops[place], isOver = hops[to]+1, false
				}
			}
		}
	}
	for place, many := range hops {
		if many == far {
			hops[place] = -1
		}
	}
	return hops
}

// wantOf is -1 for no want.
func wantOf(f impl.Floor, c impl.Cart) int {
	if c.Goal == -1 || c.At == c.Goal {
		return -1
	}
	hops := hopsOf(f, c.Goal)
	for _, to := range leadsTo(f, c.At) {
		if hops[to] != -1 && hops[to] < hops[c.At] {
			return to
		}
	}
	return -1
}

func wantsOf(f impl.Floor, list carts) []int {
	var wants []int
	for _, c := range list {
		wants = append(wants, wantOf(f, c))
	}
	return wants
}

// Why a want is struck.
const (
	strikeAhead = iota
	strikeStands
	strikeStruck
	strikeSwaps
)

// strikeOf is why the cart's want may not be; false where it may.
func strikeOf(list carts, wants []int, struck []bool, at int) (int, bool) {
	for ahead := range at {
		if !struck[ahead] && wants[ahead] == wants[at] {
			return strikeAhead, true
		}
	}
	there := slices.IndexFunc(list, func(c impl.Cart) bool { return c.At == wants[at] })
	switch {
	case there < 0:
		return 0, false
	case wants[there] == -1:
		return strikeStands, true
	case struck[there]:
		return strikeStruck, true
	case wants[there] == list[at].At:
		return strikeSwaps, true
	}
	return 0, false
}

// struckOf tells which wants are struck, and why, in the order in which they are.
func struckOf(list carts, wants []int) ([]bool, []int) {
	struck := make([]bool, len(list))
	var reasons []int
search:
	for at := range list {
		if wants[at] == -1 || struck[at] {
			continue
		}
		if why, isStruck := strikeOf(list, wants, struck, at); isStruck {
			struck[at] = true
			reasons = append(reasons, why)
			goto search
		}
	}
	return struck, reasons
}

func roundOf(f impl.Floor, list carts) (carts, []int) {
	wants := wantsOf(f, list)
	struck, _ := struckOf(list, wants)
	now := slices.Clone(list)
	var moved []int
	for i, to := range wants {
		if to != -1 && !struck[i] {
			now[i].At = to
			moved = append(moved, i)
		}
	}
	return now, moved
}

func settle19Of(f impl.Floor, list carts, rounds int) (carts, int, bool) {
	if !cartsOkOf(f, list) || rounds < 0 || rounds > 200 {
		return nil, 0, false
	}
	now, count := slices.Clone(list), 0
	for range rounds {
		next, moved := roundOf(f, now)
		if len(moved) == 0 {
			break
		}
		now, count = next, count+1
	}
	isAway := func(c impl.Cart) bool { return c.Goal != -1 && c.At != c.Goal }
	return now, count, !slices.ContainsFunc(now, isAway)
}

func stuckOf(f impl.Floor, list carts) []int {
	_, moved := roundOf(f, list)
	var stuck []int
	for i, c := range list {
		if c.Goal != -1 && hopsOf(f, c.Goal)[c.At] > 0 && !slices.Contains(moved, i) {
			stuck = append(stuck, i)
		}
	}
	return stuck
}

// movesByChain follows who stands where the one ahead wants to be. A place is only
// ever got by the first of those that want it; so such a chain ends at a free place
// or comes back to where it began (and all move), or somebody in it can't.
func movesByChain(list carts, wants []int, at int) bool {
	for now := at; ; {
		if wants[now] == -1 || slices.Index(wants, wants[now]) != now {
			return false
		}
		next := slices.IndexFunc(list, func(c impl.Cart) bool { return c.At == wants[now] })
		if next < 0 || next == at {
			return true
		}
		if wants[next] == list[now].At {
			return false
		}
		now = next
	}
}

// drawnFloor is small mostly, so that carts meet.
func drawnFloor(d *draws) impl.Floor {
	size := func() int { return []int{1, 2, d.between(1, 4), d.between(2, 5), d.between(1, 10)}[d.below(5)] }
	wide, high := size(), size()
	f := evenFloor(wide, high, 15)
	switch d.below(6) {
	case 0:
		f, _ = impl.OneWay(max(wide, 2), max(high, 2))
	case 1:
		f = evenFloor(wide, high, d.below(16))
	case 2, 3:
		for place := range f.Ways {
			f.Ways[place] = d.below(16)
		}
	case 4:
		for place := range f.Ways {
			f.Ways[place] = []int{15, 15, 5, 10, 7, 14, d.below(16)}[d.below(7)]
		}
	}
	return f
}

// drawnCarts have Goals that are near, those of others or where others stand.
func drawnCarts(d *draws, f impl.Floor) carts {
	count := min(len(f.Ways), []int{0, 1, 2, 3, d.between(2, 12), d.between(2, 12), 12}[d.below(7)])
	var list carts
	for _, at := range shuffled(d, upTo(len(f.Ways)))[:count] {
		list = append(list, parked(at))
	}
	for i := range list {
		other := list[d.below(count)]
		list[i].Goal = []int{d.below(len(f.Ways)), d.below(len(f.Ways)), other.At, other.Goal, list[i].At, -1}[min(d.below(9), 5)]
		if beside := leadsTo(f, list[i].At); len(beside) > 0 && d.below(3) == 0 {
			list[i].Goal = beside[d.below(len(beside))]
		}
	}
	return list
}

// crammed has carts at all places of a small floor, or at all but one or two.
func crammed(d *draws) (impl.Floor, carts) {
	f := drawnFloor(d)
	for len(f.Ways) < 3 || len(f.Ways) > 12 {
		f = drawnFloor(d)
	}
	list := make(carts, max(2, len(f.Ways)-d.below(3)))
	for i, at := range shuffled(d, upTo(len(f.Ways)))[:len(list)] {
		list[i] = going19(at, d.between(-1, len(f.Ways)-1))
		if beside := leadsTo(f, at); len(beside) > 0 && d.below(2) == 0 {
			list[i].Goal = beside[d.below(len(beside))]
		}
	}
	return f, list
}

// drawnTraffic is one of both.
func drawnTraffic(d *draws) (impl.Floor, carts) {
	if d.below(3) == 0 {
		return crammed(d)
	}
	f := drawnFloor(d)
	return f, drawnCarts(d, f)
}

// spoilTraffic changes something that may well stay right.
func spoilTraffic(d *draws, f *impl.Floor, list *carts) {
	switch d.below(6) {
	case 0:
		*[]*int{&f.Wide, &f.High}[d.below(2)] += d.between(-1, 1)
	case 1:
		f.Ways = append(f.Ways, 15)[d.below(2):]
	case 2:
		f.Ways[d.below(len(f.Ways))] = d.between(-1, 16)
	case 3:
		*list = append(*list, parked(d.below(len(f.Ways))))
	default:
		if len(*list) > 0 {
			c := &(*list)[d.below(len(*list))]
			*[]*int{&c.At, &c.Goal}[d.below(2)] = d.between(-2, len(f.Ways))
		}
	}
}

// wrongFloors pass one limit each, most of them by one.
func wrongFloors() map[string]impl.Floor {
	all := map[string]impl.Floor{
		"empty": {}, "no place, but both sizes": {Wide: 3, High: 2}, "places, but no size": {Ways: make([]int, 6)}, "one place less": {Wide: 3, High: 2, Ways: make([]int, 5)}, "one place more": {Wide: 3, High: 2, Ways: make([]int, 7)},
		"both sizes below 0": {Wide: -2, High: -3, Ways: make([]int, 6)}, "11 wide": evenFloor(11, 1, 1), "11 high": evenFloor(1, 11, 2), "both 11": evenFloor(11, 11, 15), "100 places in a row": evenFloor(100, 1, 1), "100 in a column": evenFloor(1, 100, 2),
		"99 of 100 places": {Wide: 10, High: 10, Ways: make([]int, 99)}, "101 of 100 places": {Wide: 10, High: 10, Ways: make([]int, 101)}, "one place of none": {Wide: 0, High: 1, Ways: []int{0}}, "1000 places": {Wide: 10, High: 10, Ways: make([]int, 1000)},
		"sizes that wrap round to 0": {Wide: 1 << 32, High: 1 << 32}, "sizes that wrap round to 1": {Wide: math.MaxInt, High: math.MaxInt, Ways: []int{0}},
	}
	for _, n := range []int{math.MinInt, math.MinInt + 1, -1, 0, 11, 12, math.MaxInt - 1, math.MaxInt} {
		all[fmt.Sprint("Wide ", n)] = impl.Floor{Wide: n, High: 2, Ways: make([]int, 6)}
		all[fmt.Sprint("High ", n)] = impl.Floor{Wide: 3, High: n, Ways: make([]int, 6)}
		all[fmt.Sprint("Wide ", n, ", no place")] = impl.Floor{Wide: n, High: 2}
		all[fmt.Sprint("High ", n, ", no place")] = impl.Floor{Wide: 3, High: n}
	}
	for _, n := range []int{math.MinInt, math.MinInt + 1, -16, -1, 16, 17, 31, math.MaxInt - 1, math.MaxInt} {
		for _, place := range []int{0, 2, 5} {
			all[fmt.Sprint("ways of ", n, " at ", place)] = withWays(evenFloor(3, 2, 15), place, n)
		}
	}
	return all
}

// wrongCarts are not CartsOk on a floor of 3 by 2.
func wrongCarts() map[string]carts {
	a, b, c := going19(0, 5), parked(3), going19(5, 0)
	all := map[string]carts{
		"13 carts": make(carts, 13), "1000 carts": make(carts, 1000), "two empty ones": make(carts, 2), "one twice": {a, a}, "the first and the last at one place": {a, b, parked(0)}, "two side by side at one place": {a, c, going19(5, 3)}, "all at one place": {parked(3), going19(3, 1), going19(3, 3)},
	}
	for _, n := range []int{math.MinInt, math.MinInt + 1, -2, -1, 6, 7, 100, math.MaxInt - 1, math.MaxInt} {
		wrong := map[string]impl.Cart{fmt.Sprint("At ", n, " with a Goal"): going19(n, 1), fmt.Sprint("At ", n, " without"): parked(n), fmt.Sprint("At and Goal ", n): going19(n, n)}
		if n != -1 {
			wrong[fmt.Sprint("Goal ", n)] = going19(1, n)
		}
		for name, own := range wrong {
			all[name+", by itself"] = carts{own}
			all[name+", the first"] = carts{own, b, c}
			all[name+", between"] = carts{a, own, c}
			all[name+", the last"] = carts{a, b, own}
		}
	}
	return all
}
