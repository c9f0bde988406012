package tests

import (
	"cmp"
	"fmt"
	"math"
	"math/bits"
	"slices"

	"loop.example/g00059/impl"
)

type (
	hatches = []impl.Hatch
	stows   = []impl.Stow
)

func hatch(rows, tiers, most, plugs int) impl.Hatch {
	return impl.Hatch{Rows: rows, Tiers: tiers, Most: most, Plugs: plugs}
}

// going is a plain box; another number is another Name.
func going(number, weight, from, to int) impl.Box {
	return impl.Box{Name: named(fmt.Sprintf("SALT%06d", number)), Weight: weight, From: from, To: to}
}

func numbered(number, weight int) impl.Box { return going(number, weight, 0, 9) }

func classed(number, class int) impl.Box {
	b := numbered(number, 5)
	b.Class = class
	return b
}

func stowed(b impl.Box, bay, row, tier int) impl.Stow {
	return impl.Stow{Box: b, Spot: spot(bay, row, tier)}
}

func withSpot(list stows, at int, s impl.Spot) stows {
	own := slices.Clone(list)
	own[at].Spot = s
	return own
}

func withBox(list stows, at int, b impl.Box) stows {
	own := slices.Clone(list)
	own[at].Box = b
	return own
}

func withName(b impl.Box, name string) impl.Box {
	b.Name = name
	return b
}

// tower stands in one Row of Bay 0, from the lowest one up.
func tower(weights ...int) stows {
	var list stows
	for tier, weight := range weights {
		list = append(list, stowed(numbered(tier, weight), 0, 0, tier))
	}
	return list
}

// roomyBays take six times six boxes each, of any weight.
func roomyBays(count int) hatches { return slices.Repeat(hatches{hatch(6, 6, 1000000, 36)}, count) }

// stowedAll fills roomy bays Row by Row, from the lowest Tier up.
func stowedAll(count, from, to int) stows {
	var list stows
	for i := range count {
		list = append(list, stowed(going(i, 7, from, to), i/36, i/6%6, i%6))
	}
	return list
}

func hatchOk(h impl.Hatch) bool {
	return h.Rows > 0 && h.Rows < 7 && h.Tiers > 0 && h.Tiers < 7 && h.Most >= 0 && h.Most <= 1000000 && h.Plugs >= 0 && h.Plugs < 37
}

func hatchesOk(bays hatches) bool {
	isWrong := func(h impl.Hatch) bool { return !hatchOk(h) }
	return len(bays) > 0 && len(bays) < 7 && !slices.ContainsFunc(bays, isWrong)
}

// stackIn are the boxes of one Bay and Row, by Tier.
func stackIn(list stows, s impl.Spot) boxes {
	var stack stows
	for _, other := range list {
		if other.Spot.Bay == s.Bay && other.Spot.Row == s.Row {
			stack = append(stack, other)
		}
	}
	slices.SortFunc(stack, func(a, b impl.Stow) int { return a.Spot.Tier - b.Spot.Tier })
	var all boxes
	for _, other := range stack {
		all = append(all, other.Box)
	}
	return all
}

// stowFaults tells for each code whether it is so of a stow; a code is asked
// for only if none ahead of it is so of any.
func stowFaults(bays hatches, list stows) [8]func(int) bool {
	standing, colds := map[impl.Spot]int{}, map[int]int{}
	for _, s := range list {
		standing[s.Spot]++
		if s.Box.Cold {
			colds[s.Spot.Bay]++
		}
	}
	isLike := func(i int) func(impl.Stow) bool {
		return func(s impl.Stow) bool { return s.Box.Name == list[i].Box.Name || s.Spot == list[i].Spot }
	}
	isNear := func(i int) func(impl.Stow) bool {
		return func(s impl.Stow) bool { return !keepsApartOf(s.Box, s.Spot, list[i].Box, list[i].Spot) }
	}
	return [8]func(int) bool{
		impl.StowWell:  func(int) bool { return false },
		impl.StowBad:   func(i int) bool { return !boxOk(list[i].Box) },
		impl.StowTwice: func(i int) bool { return slices.ContainsFunc(list[:i], isLike(i)) },
		impl.StowSpot:  func(i int) bool { return !slices.Contains(allSpots(bays), list[i].Spot) },
		impl.StowFloats: func(i int) bool {
			s := list[i].Spot
			return s.Tier > 0 && standing[spot(s.Bay, s.Row, s.Tier-1)] == 0
		},
		impl.StowStack: func(i int) bool {
			return !stackOf(stackIn(list, list[i].Spot), bays[list[i].Spot.Bay].Most)
		},
		impl.StowCold: func(i int) bool {
			bay := list[i].Spot.Bay
			return list[i].Box.Cold && colds[bay] > bays[bay].Plugs
		},
		impl.StowApart: func(i int) bool { return slices.ContainsFunc(list[:i], isNear(i)) },
	}
}

func stowCodeOf(bays hatches, list stows) (int, int) {
	if !hatchesOk(bays) || len(list) > 40 {
		return impl.StowBad, 0
	}
	for code, isSo := range stowFaults(bays, list) {
		for i := range list {
			if isSo(i) {
				return code, i
			}
		}
	}
	return impl.StowWell, 0
}

func isWellOf(bays hatches, list stows) bool {
	code, _ := stowCodeOf(bays, list)
	return code == impl.StowWell
}

// shiftsOf goes from each one that leaves to what stands above it.
func shiftsOf(list stows, port int) ([]int, bool) {
	places := map[impl.Spot]int{}
	for i, s := range list {
		places[s.Spot] = i
	}
	if len(list) > 40 || len(places) < len(list) || port < 0 || port > 19 {
		return nil, false
	}
	isLifted := map[int]bool{}
	for _, leaving := range list {
		for i, s := range list {
			above := s.Spot.Bay == leaving.Spot.Bay && s.Spot.Row == leaving.Spot.Row && s.Spot.Tier > leaving.Spot.Tier
			if leaving.Box.To == port && above && s.Box.To > port {
				isLifted[i] = true
			}
		}
	}
	var all []int
	for i := range list {
		if isLifted[i] {
			all = append(all, i)
		}
	}
	return all, true
}

func atPortOf(bays hatches, list stows, port int, plan stows) (stows, int, int) {
	if !isWellOf(bays, list) || len(plan) > 40 || port < 0 || port > 19 {
		return list, 0, impl.VoyBad
	}
	for _, s := range list {
		if s.Box.To < port || s.Box.From > port {
			return list, 0, impl.VoyHere
		}
	}
	for _, s := range plan {
		if s.Box.From != port {
			return list, 0, impl.VoyHere
		}
	}
	isLeaving := func(s impl.Stow) bool { return s.Box.To == port }
	aboard := slices.Concat(slices.DeleteFunc(slices.Clone(list), isLeaving), plan)
	if !isWellOf(bays, aboard) {
		return list, 0, impl.VoyPlan
	}
	lifted, _ := shiftsOf(list, port)
	return aboard, len(lifted), impl.VoyDone
}

func allSpots(bays hatches) []impl.Spot {
	var all []impl.Spot
	for bay, h := range bays {
		for row := range h.Rows {
			for tier := range h.Tiers {
				all = append(all, spot(bay, row, tier))
			}
		}
	}
	return all
}

func overstowsOf(list stows) int {
	count := 0
	for i, a := range list {
		for _, b := range list[:i] {
			if a.Spot.Bay != b.Spot.Bay || a.Spot.Row != b.Spot.Row {
				continue
			}
			if (a.Spot.Tier-b.Spot.Tier)*(a.Box.To-b.Box.To) > 0 {
				count++
			}
		}
	}
	return count
}

// allWays tells every way to give each box a spot of its own, in the order of
// their spots.
func allWays(bays hatches, list boxes, yield func(stows)) {
	spots := allSpots(bays)
	count := 1
	for range list {
		count *= len(spots)
	}
	for number := range count {
		way := make(stows, len(list))
		rest, taken := number, uint(0)
		for i := len(list) - 1; i >= 0; i-- {
			way[i] = impl.Stow{Box: list[i], Spot: spots[rest%len(spots)]}
			taken |= 1 << (rest % len(spots))
			rest /= len(spots)
		}
		if bits.OnesCount(taken) == len(list) {
			yield(way)
		}
	}
}

// fewestOf tries all ways.
func fewestOf(bays hatches, list boxes) (stows, bool) {
	names := map[string]int{}
	for _, b := range list {
		names[b.Name]++
	}
	if !hatchesOk(bays) || len(allSpots(bays)) > 8 || len(list) > 5 || !boxesOk(list) || len(names) < len(list) {
		return nil, false
	}
	var best stows
	isFound := false
	allWays(bays, list, func(way stows) {
		if (!isFound || overstowsOf(way) < overstowsOf(best)) && isWellOf(bays, way) {
			best, isFound = way, true
		}
	})
	return best, isFound
}

func drawnHatch(d *draws) impl.Hatch {
	most := []int{0, d.between(5, 60), 1000000, 1000000}[d.below(4)]
	return hatch(d.between(1, 6), d.between(1, 6), most, []int{0, 1, d.below(37), 36}[d.below(4)])
}

func drawnBays(d *draws) hatches {
	bays := make(hatches, []int{1, d.between(1, 6), 6}[d.below(3)])
	for i := range bays {
		bays[i] = drawnHatch(d)
	}
	return bays
}

// drawnLoadFor stands on what stands already, mostly well; its numbers start
// at one that is handed in. The lower of two boxes may come later.
func drawnLoadFor(d *draws, bays hatches, aboard stows, most, number, port int) stows {
	heights, below := map[[2]int]int{}, map[[2]int]int{}
	for _, s := range aboard {
		stack := [2]int{s.Spot.Bay, s.Spot.Row}
		heights[stack] = max(heights[stack], s.Spot.Tier+1)
		below[stack] = min(s.Box.Weight, cmp.Or(below[stack], s.Box.Weight))
	}
	classes := [][]int{{0, 0, 0, 0}, {0, 0, 2, 4}, {0, 0, 0, 5}, {0, 3, 5, 7}}[d.below(4)]
	var list stows
	for range d.below(most + 1) {
		bay := d.below(len(bays))
		stack := [2]int{bay, d.below(bays[bay].Rows)}
		tier := heights[stack]
		if tier >= bays[bay].Tiers {
			continue
		}
		weight := max(1, cmp.Or(below[stack], 12)-d.below(3))
		if weight > bays[bay].Most {
			continue
		}
		heights[stack], below[stack] = tier+1, weight
		b := going(number+len(list), weight, port, d.between(port+1, min(19, port+4)))
		b.Class = classes[d.below(4)]
		b.Cold = tier < 2 && bays[bay].Plugs > 0 && d.below(6) == 0
		list = append(list, stowed(b, bay, stack[1], tier))
	}
	return shuffled(d, list)
}

// fillers stand in the gaps that what leaves has left below what stays; each
// is as heavy as the box above it, so that no stack becomes a bad one.
func fillers(d *draws, staying stows, number, port int) stows {
	order := slices.Clone(staying)
	slices.SortStableFunc(order, func(a, b impl.Stow) int { return a.Spot.Tier - b.Spot.Tier })
	var list stows
	for _, s := range order {
		for tier := range s.Spot.Tier {
			gap := spot(s.Spot.Bay, s.Spot.Row, tier)
			isThere := func(other impl.Stow) bool { return other.Spot == gap }
			if !slices.ContainsFunc(staying, isThere) && !slices.ContainsFunc(list, isThere) {
				b := going(number+len(list), s.Box.Weight, port, d.between(port+1, min(19, port+4)))
				list = append(list, impl.Stow{Box: b, Spot: gap})
			}
		}
	}
	return list
}

// drawnStows are mostly well; some have one fault, or several.
func drawnStows(d *draws, bays hatches) stows {
	list := drawnLoadFor(d, bays, nil, []int{4, 15, 40}[d.below(3)], 0, d.below(4))
	if len(list) == 0 {
		return list
	}
	for range []int{0, 1, 1, 2, 3}[d.below(5)] {
		spoil(d, bays, &list[d.below(len(list))], list[d.below(len(list))])
	}
	return list
}

func spoil(d *draws, bays hatches, s *impl.Stow, other impl.Stow) {
	switch d.below(9) {
	case 0:
		s.Box.Weight = []int{0, 1, 40000, 40001}[d.below(4)]
	case 1:
		s.Box.Name = other.Box.Name
	case 2:
		s.Spot = other.Spot
	case 3:
		*[]*int{&s.Spot.Bay, &s.Spot.Row, &s.Spot.Tier}[d.below(3)] = []int{-1, len(bays), 6}[d.below(3)]
	case 4:
		s.Spot.Tier++
	case 5:
		s.Box.Weight += d.between(1, 3)
	case 6:
		s.Box.Cold = true
	case 7:
		s.Box.Class = d.between(1, 9)
	case 8:
		s.Box.To = d.between(-1, 20)
	}
}

// drawnFew are a few boxes for a small ship; for some there is no way, and
// where the heavy ones go first, few ways are without overstows.
func drawnFew(d *draws, most int) (hatches, boxes) {
	shapes := [][][2]int{{{1, 1}}, {{1, 3}}, {{2, 2}}, {{1, 6}}, {{3, 1}, {1, 2}}, {{2, 3}}, {{1, 2}, {1, 2}, {1, 2}}, {{2, 2}, {1, 3}}, {{2, 4}}, {{4, 2}}, {{2, 2}, {2, 2}}, {{2, 1}, {2, 1}, {2, 1}, {2, 1}}}
	var bays hatches
	for _, shape := range shapes[d.below(len(shapes))] {
		bays = append(bays, hatch(shape[0], shape[1], []int{20, 40, 1000000}[d.below(3)], d.below(3)))
	}
	var list boxes
	isHeavyFirst := d.below(2) == 0
	for i := range d.below(most + 1) {
		from := d.below(3)
		b := going(i, d.between(5, 9), from, d.between(from+1, from+4))
		if isHeavyFirst {
			b.Weight = 10 - b.To
		}
		if d.below(2) == 0 {
			b.Class = []int{1, 2, 3, 5, 5, 7, 8, 9}[d.below(8)]
		}
		b.Cold = d.below(5) == 0
		list = append(list, b)
	}
	return bays, list
}

// wrongHatches pass one limit each, most of them by one.
func wrongHatches() map[string]impl.Hatch {
	all := map[string]impl.Hatch{"empty": {}}
	for _, n := range []int{0, -1, 7, math.MinInt, math.MaxInt} {
		all[fmt.Sprint("Rows ", n)] = hatch(n, 3, 100, 5)
		all[fmt.Sprint("Tiers ", n)] = hatch(3, n, 100, 5)
	}
	for _, n := range []int{-1, 1000001, math.MinInt, math.MaxInt} {
		all[fmt.Sprint("Most ", n)] = hatch(3, 3, n, 5)
	}
	for _, n := range []int{-1, 37, math.MinInt, math.MaxInt} {
		all[fmt.Sprint("Plugs ", n)] = hatch(3, 3, 100, n)
	}
	return all
}

func wrongBays() map[string]hatches {
	right := hatch(3, 3, 100, 5)
	all := map[string]hatches{"none": nil, "an empty list": {}, "7": slices.Repeat(hatches{right}, 7), "300": slices.Repeat(hatches{right}, 300)}
	for name, wrong := range wrongHatches() {
		all[name+", alone"] = hatches{wrong}
		all[name+", the first"] = hatches{wrong, right, right}
		all[name+", the last of 6"] = append(slices.Repeat(hatches{right}, 5), wrong)
	}
	return all
}
