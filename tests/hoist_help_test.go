package tests

import (
	"fmt"
	"math"
	"slices"

	"loop.example/g00059/impl"
)

// Hoists for the tests: helpers that make and draw sways, pushes, hoists and
// signals, and what each function should tell, worked out in another way.

type signals = []impl.Signal

func sway(at, off, slip int) impl.Sway { return impl.Sway{At: at, Off: off, Slip: slip} }

// hanging is a sway whose load hangs still.
func hanging(at int) impl.Sway { return sway(at, 0, 0) }

func given(kind int) impl.Signal { return impl.Signal{Kind: kind} }

func loading(many int) impl.Signal { return impl.Signal{Kind: 6, Many: many} }

// givenAll has the Kinds as signals, and nothing of Many.
func givenAll(kinds ...int) signals {
	var list signals
	for _, kind := range kinds {
		list = append(list, given(kind))
	}
	return list
}

// hoistAt goes from 10 to 20, takes 500 and has a load of 300.
func hoistAt(state, height int) impl.Hoist {
	return impl.Hoist{State: state, Load: 300, Height: height, Lowest: 10, Highest: 20, Limit: 500}
}

func withLoad(h impl.Hoist, load int) impl.Hoist {
	h.Load = load
	return h
}

func withReset(h impl.Hoist, reset int) impl.Hoist {
	h.Reset = reset
	return h
}

func withState(h impl.Hoist, state int) impl.Hoist {
	h.State = state
	return h
}

func withHeight(h impl.Hoist, height int) impl.Hoist {
	h.Height = height
	return h
}

func isBetween(n, low, high int) bool { return n >= low && n <= high }

func swayOkOf(s impl.Sway) bool {
	list := []int{s.At, s.Off, s.Slip}
	return slices.Min(list) >= -1000000 && slices.Max(list) <= 1000000
}

// swingOf turns the swing about a quarter, as a complex number: a right one has
// parts that a float has exactly.
func swingOf(s impl.Sway, push int) (impl.Sway, bool) {
	if !swayOkOf(s) || !isBetween(push, -1000, 1000) {
		return impl.Sway{}, false
	}
	turned := complex(float64(s.Off-push), float64(s.Slip)) * complex(0, -1)
	next := sway(s.At+push, int(real(turned)), int(imag(turned)))
	if !swayOkOf(next) {
		return impl.Sway{}, false
	}
	return next, true
}

func beatsOf(s impl.Sway, pushes []int) (impl.Sway, bool) {
	ok := len(pushes) <= 40 && swayOkOf(s)
	for i := 0; ok && i < len(pushes); i++ {
		s, ok = swingOf(s, pushes[i])
	}
	if !ok {
		return impl.Sway{}, false
	}
	return s, true
}

// halfOf is half of the push with a number, and 0 for one that is missing.
func halfOf(pushes []int, i int) int {
	if i < 0 || i >= len(pushes) {
		return 0
	}
	return pushes[i] / 2
}

func shapedOf(pushes []int) ([]int, bool) {
	isWrong := func(push int) bool { return push%2 != 0 || !isBetween(push, -1000, 1000) }
	if len(pushes) > 38 || slices.ContainsFunc(pushes, isWrong) {
		return nil, false
	}
	var list []int
	for i := 0; i <= len(pushes)+1; i++ {
		list = append(list, halfOf(pushes, i)+halfOf(pushes, i-2))
	}
	return list, true
}

func planOf(way, most int) ([]int, bool) {
	if !isBetween(way, -10000, 10000) || way%2 != 0 || !isBetween(most, 2, 1000) || most%2 != 0 {
		return nil, false
	}
	sign, far := 1, way
	if way < 0 {
		sign, far = -1, -way
	}
	list := slices.Repeat([]int{sign * most}, far/most)
	if far%most > 0 {
		list = append(list, sign*(far%most))
	}
	if len(list) > 38 {
		return nil, false
	}
	return list, true
}

func hoistOkOf(h impl.Hoist) bool {
	heights := []int{0, h.Lowest, h.Height, h.Highest, 10000}
	return isBetween(h.State, 0, 3) && slices.IsSorted(heights) && isBetween(h.Load, 0, 1000000) && isBetween(h.Limit, 0, 1000000) && isBetween(h.Reset, 0, 1)
}

// doSignalOf goes down the chapter's words.
func doSignalOf(h impl.Hoist, s impl.Signal) (impl.Hoist, bool) {
	if !hoistOkOf(h) || s.Kind < 1 || s.Kind > 7 || s.Kind == 6 && !isBetween(s.Many, 0, 1000000) {
		return h, false
	}
	if s.Kind == 4 {
		return withReset(withState(h, 3), 0), true
	}
	if s.Kind == 6 {
		if s.Many > h.Limit && h.State == 1 {
			h.State = 0
		}
		return withLoad(h, s.Many), true
	}
	if h.State == 3 {
		return behindStop(h, s.Kind)
	}
	switch s.Kind {
	case 3:
		return withState(h, 0), true
	case 1:
		if h.Load <= h.Limit && h.Height != h.Highest && h.State != 2 {
			return withState(h, 1), true
		}
	case 2:
		if h.Height != h.Lowest && h.State != 1 {
			return withState(h, 2), true
		}
	case 7:
		return tickedOf(h), true
	}
	return h, false
}

func behindStop(h impl.Hoist, kind int) (impl.Hoist, bool) {
	switch {
	case kind == 5 && h.Reset == 0:
		return withReset(h, 1), true
	case kind == 3 && h.Reset == 1:
		return withReset(withState(h, 0), 0), true
	}
	return h, false
}

func tickedOf(h impl.Hoist) impl.Hoist {
	ends := map[int]int{1: h.Highest, 2: h.Lowest}
	end, isOnItsWay := ends[h.State]
	if !isOnItsWay {
		return h
	}
	if h.Height < end {
		h.Height++
	} else if h.Height > end {
		h.Height--
	}
	if h.Height == end {
		h.State = 0
	}
	return h
}

func runSignalsOf(h impl.Hoist, list signals) (impl.Hoist, []bool) {
	if len(list) > 200 {
		return h, nil
	}
	var told []bool
	for _, s := range list {
		var isDone bool
		h, isDone = doSignalOf(h, s)
		told = append(told, isDone)
	}
	return h, told
}

func drawnSway(d *draws) impl.Sway {
	number := func() int {
		great := d.between(999000, 1000000)
		return []int{0, d.between(-9, 9), d.between(-2000, 2000), d.between(-1000000, 1000000), great, -great}[d.below(6)]
	}
	return sway(number(), number(), number())
}

func drawnPushes(d *draws, most int) []int {
	list := make([]int, d.between(0, most))
	great := []int{1, 9, 1000}[d.below(3)]
	for i := range list {
		list[i] = d.between(-great, great)
	}
	return list
}

// drawnEven are pushes that can be shaped.
func drawnEven(d *draws) []int {
	list := drawnPushes(d, 38)
	for i, push := range list {
		list[i] = push / 2 * 2
	}
	return list
}

// drawnHoist is often at an end, and its load often at the limit.
func drawnHoist(d *draws) impl.Hoist {
	lowest := []int{0, d.between(0, 9), d.between(0, 10000), 10000}[d.below(4)]
	highest := min(10000, lowest+[]int{0, 1, d.between(0, 4), d.between(0, 10000)}[d.below(4)])
	height := []int{lowest, highest, d.between(lowest, highest), min(lowest+1, highest), max(highest-1, lowest)}[d.below(5)]
	limit := []int{0, d.between(0, 9), d.between(0, 1000000), 1000000}[d.below(4)]
	load := []int{0, limit, min(limit+1, 1000000), max(limit-1, 0), d.between(0, 1000000)}[d.below(5)]
	return impl.Hoist{State: d.below(4), Load: load, Height: height, Lowest: lowest, Highest: highest, Limit: limit, Reset: d.below(2)}
}

func drawnSignal(d *draws, h impl.Hoist) impl.Signal {
	kind := d.between(1, 7)
	if kind == 6 {
		return loading([]int{h.Limit, h.Limit + 1, h.Limit - 1, 0, d.between(0, 1000000), 1000001, -1}[d.below(7)])
	}
	if d.below(20) == 0 {
		kind = []int{0, 8, -1}[d.below(3)]
	}
	return impl.Signal{Kind: kind, Many: []int{0, 0, -1, d.between(0, 1000000), math.MaxInt}[d.below(5)]}
}

// livelySignal is mostly one that makes a hoist move, or gets it out of a stop.
func livelySignal(d *draws, h impl.Hoist) impl.Signal {
	if d.below(3) == 0 {
		return drawnSignal(d, h)
	}
	if h.State == impl.HoistStop {
		return given([]int{5, 3, 3, 7}[d.below(4)])
	}
	return given([]int{1, 2, 7, 7, 7}[d.below(5)])
}

func drawnSignals(d *draws, h impl.Hoist) signals {
	list := make(signals, []int{0, 1, d.between(0, 12), d.between(0, 60), 200}[d.below(5)])
	for i := range list {
		list[i] = drawnSignal(d, h)
	}
	return list
}

// spoilHoist changes a number that may well stay right.
func spoilHoist(d *draws, h *impl.Hoist) {
	field := []*int{&h.State, &h.Load, &h.Height, &h.Lowest, &h.Highest, &h.Limit, &h.Reset}[d.below(7)]
	*field = []int{*field - 1, *field + 1, -1, 10001, 1000001}[d.below(5)]
}

// wrongSways pass one limit each.
func wrongSways() map[string]impl.Sway {
	all := map[string]impl.Sway{}
	for _, n := range []int{math.MinInt, math.MinInt + 1, -1000001, 1000001, math.MaxInt - 1, math.MaxInt} {
		all[fmt.Sprint("At ", n)] = sway(n, 3, 4)
		all[fmt.Sprint("Off ", n)] = sway(2, n, 4)
		all[fmt.Sprint("Slip ", n)] = sway(2, 3, n)
		all[fmt.Sprint("all ", n)] = sway(n, n, n)
	}
	return all
}

// wrongPushes are none, by themselves.
func wrongPushes() []int {
	return []int{math.MinInt, math.MinInt + 1, -2000, -1002, -1001, 1001, 1002, 2000, math.MaxInt - 1, math.MaxInt}
}

// wrongHoists pass one limit each, most of them by one.
func wrongHoists() map[string]impl.Hoist {
	all := map[string]impl.Hoist{
		"Height below Lowest": withHeight(hoistAt(0, 15), 9), "Height above Highest": withHeight(hoistAt(0, 15), 21), "Lowest above Highest": {Lowest: 9, Height: 9, Highest: 8},
		"Lowest above Highest, Height between": {Lowest: 9, Height: 8, Highest: 7}, "all three -1": {Lowest: -1, Height: -1, Highest: -1}, "all three 10001": {Lowest: 10001, Height: 10001, Highest: 10001},
		"Lowest -1": {Lowest: -1, Highest: 5}, "Highest 10001": {Highest: 10001}, "Height above a Highest of 10000": {Highest: 10000, Height: 10001}, "Height below a Lowest of 0": {Highest: 5, Height: -1},
	}
	for _, n := range []int{math.MinInt, math.MinInt + 1, -1, 1000001, math.MaxInt - 1, math.MaxInt} {
		plain := hoistAt(0, 15)
		fields := map[string]*int{"State": &plain.State, "Load": &plain.Load, "Height": &plain.Height, "Lowest": &plain.Lowest, "Highest": &plain.Highest, "Limit": &plain.Limit, "Reset": &plain.Reset}
		for name, field := range fields {
			was := *field
			*field = n
			all[fmt.Sprint(name, " ", n)] = plain
			*field = was
		}
	}
	for _, n := range []int{4, 5, 7, 8} {
		all[fmt.Sprint("State ", n)] = hoistAt(n, 15)
	}
	for state := range 4 {
		all[fmt.Sprint("Reset 2 in State ", state)] = withReset(hoistAt(state, 15), 2)
		all[fmt.Sprint("a Height above in State ", state)] = hoistAt(state, 21)
		all[fmt.Sprint("a Height below in State ", state)] = hoistAt(state, 9)
	}
	return all
}

// wrongSignals are refused by each hoist.
func wrongSignals() signals {
	list := givenAll(math.MinInt, math.MinInt+1, -64, -7, -2, -1, 0, 8, 9, 63, 64, 65, 66, 67, 68, 71, 128, 1<<32+4, math.MaxInt-1, math.MaxInt)
	for _, many := range []int{math.MinInt, math.MinInt + 1, -1000000, -2, -1, 1000001, 1000002, math.MaxInt - 1, math.MaxInt} {
		list = append(list, loading(many))
	}
	return list
}

// smallHoists are all those with heights and loads of at most 2.
func smallHoists() []impl.Hoist {
	var all []impl.Hoist
	for n := range 4 * 2 * 3 * 3 * 3 * 3 * 3 {
		digit := func(base int) int {
			now := n % base
			n /= base
			return now
		}
		h := impl.Hoist{State: digit(4), Reset: digit(2), Load: digit(3), Limit: digit(3), Lowest: digit(3), Height: digit(3), Highest: digit(3)}
		if hoistOkOf(h) {
			all = append(all, h)
		}
	}
	return all
}
