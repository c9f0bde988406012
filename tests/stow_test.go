package tests

import (
	"fmt"
	"slices"
	"testing"

	"loop.example/g00059/impl"
)

// Promise 12 for lists of stows: which are well, else the first reason and the
// first stow of which it is so.

func checkHatches(t *testing.T, bays hatches, want bool) {
	t.Helper()
	if got := impl.HatchesOk(bays); got != want {
		t.Errorf("%+v: %t", bays, got)
	}
}

func checkStow(t *testing.T, name string, bays hatches, list stows, code, place int) {
	t.Helper()
	if got, at := impl.StowCode(bays, list); got != code || at != place {
		t.Errorf("%s: %d at %d, not %d at %d", name, got, at, code, place)
	}
}

func TestHatchLimits(t *testing.T) {
	right := hatch(3, 4, 500, 7)
	checkHatches(t, nil, false)
	checkHatches(t, hatches{}, false)
	checkHatches(t, hatches{right}, true)
	checkHatches(t, slices.Repeat(hatches{right}, 6), true)
	checkHatches(t, slices.Repeat(hatches{right}, 7), false)
	checkHatches(t, hatches{hatch(1, 1, 0, 0), hatch(6, 6, 1000000, 36)}, true)
	for n, want := range map[int]bool{-1: false, 0: false, 1: true, 6: true, 7: false} {
		checkHatches(t, hatches{hatch(n, 4, 500, 7)}, want)
		checkHatches(t, hatches{right, hatch(3, n, 500, 7), right}, want)
	}
	for n, want := range map[int]bool{-1: false, 0: true, 1: true, 1000000: true, 1000001: false} {
		checkHatches(t, hatches{right, hatch(3, 4, n, 7)}, want)
	}
	for n, want := range map[int]bool{-1: false, 0: true, 36: true, 37: false} {
		checkHatches(t, hatches{hatch(3, 4, 500, n), right}, want)
	}
}

func TestStowWellByHand(t *testing.T) {
	bays := hatches{hatch(2, 3, 30, 1), hatch(1, 1, 9, 0)}
	checkStow(t, "none", bays, nil, impl.StowWell, 0)
	checkStow(t, "an empty list", bays, stows{}, impl.StowWell, 0)
	checkStow(t, "one", bays, tower(9), impl.StowWell, 0)
	checkStow(t, "three", bays, tower(9, 9, 8), impl.StowWell, 0)
	all := append(tower(12, 10, 8), stowed(numbered(7, 9), 1, 0, 0), stowed(cold(numbered(8, 30)), 0, 1, 0))
	checkStow(t, "in both bays", bays, all, impl.StowWell, 0)
	slices.Reverse(all)
	checkStow(t, "the lower one later in the list", bays, all, impl.StowWell, 0)
}

func TestStowsAreAtMostForty(t *testing.T) {
	bays := roomyBays(2)
	checkStow(t, "40", bays, stowedAll(40, 0, 1), impl.StowWell, 0)
	checkStow(t, "41", bays, stowedAll(41, 0, 1), impl.StowBad, 0)
	wrong := withBox(stowedAll(41, 0, 1), 7, impl.Box{})
	checkStow(t, "41, of which one is wrong", bays, wrong, impl.StowBad, 0)
	checkStow(t, "40, of which one is wrong", bays, wrong[:40], impl.StowBad, 7)
	checkStow(t, "the last one of 40", bays, withBox(stowedAll(40, 0, 1), 39, impl.Box{}), impl.StowBad, 39)
	checkStow(t, "300", bays, make(stows, 300), impl.StowBad, 0)
}

func TestStowBad(t *testing.T) {
	list := tower(9, 8, 7)
	for name, b := range wrongBoxes() {
		for place := range list {
			checkStow(t, name, roomyBays(1), withBox(list, place, b), impl.StowBad, place)
		}
	}
	two := withBox(withBox(list, 2, impl.Box{}), 1, numbered(5, 0))
	checkStow(t, "the first of two", roomyBays(1), two, impl.StowBad, 1)
	// No bay that is right: no stow is at fault, whatever stows there are.
	for name, bays := range wrongBays() {
		for _, list := range []stows{nil, tower(9), tower(9, 8, 7), two, make(stows, 41)} {
			checkStow(t, name, bays, list, impl.StowBad, 0)
		}
	}
}

func TestStowTwice(t *testing.T) {
	bays := roomyBays(2)
	list := append(tower(9, 8, 7), stowed(numbered(3, 9), 1, 2, 0), stowed(numbered(4, 9), 1, 3, 0))
	for i := range list {
		for k := range i {
			name := fmt.Sprint(k, " and ", i)
			checkStow(t, "Name of "+name, bays, withBox(list, i, withName(numbered(i, 9), list[k].Box.Name)), impl.StowTwice, i)
			checkStow(t, "Name, the other box, "+name, bays, withBox(list, k, withName(numbered(k, 9), list[i].Box.Name)), impl.StowTwice, i)
			checkStow(t, "Spot of "+name, bays, withSpot(list, i, list[k].Spot), impl.StowTwice, i)
		}
	}
	like := withSpot(withBox(list, 4, list[0].Box), 2, list[1].Spot)
	checkStow(t, "a Spot ahead of a Name", bays, like, impl.StowTwice, 2)
	like = withSpot(withBox(list, 2, list[0].Box), 4, list[1].Spot)
	checkStow(t, "a Name ahead of a Spot", bays, like, impl.StowTwice, 2)
	checkStow(t, "three times", bays, withSpot(withSpot(list, 1, list[0].Spot), 2, list[0].Spot), impl.StowTwice, 1)
	// Also where there is no such spot in any bay.
	checkStow(t, "beyond", bays, stows{stowed(numbered(1, 9), 5, 5, 5), stowed(numbered(2, 9), 5, 5, 5)}, impl.StowTwice, 1)
	checkStow(t, "below 0", bays, stows{stowed(numbered(1, 9), -1, 0, 0), stowed(numbered(2, 9), -1, 0, 0)}, impl.StowTwice, 1)
}

// Boxes that are alike in all but the Name are not the same.
func TestStowTwiceIsByName(t *testing.T) {
	a, b := numbered(1, 9), numbered(2, 9)
	checkStow(t, "other Names", roomyBays(1), stows{stowed(a, 0, 0, 0), stowed(b, 0, 1, 0)}, impl.StowWell, 0)
	other := impl.Box{Name: a.Name, Weight: 3, Class: 2, Cold: true, From: 5, To: 6}
	checkStow(t, "one Name", roomyBays(1), stows{stowed(a, 0, 0, 0), stowed(other, 0, 1, 0)}, impl.StowTwice, 1)
}

func TestStowSpot(t *testing.T) {
	bays := hatches{hatch(2, 3, 100, 5), hatch(4, 1, 100, 5), hatch(1, 2, 100, 5)}
	for bay := -2; bay < 8; bay++ {
		for row := -2; row < 8; row++ {
			for tier := -2; tier < 8; tier++ {
				isIn := bay >= 0 && bay < 3 && row >= 0 && tier >= 0 && row < bays[bay].Rows && tier < bays[bay].Tiers
				code := impl.StowSpot
				if isIn {
					code = impl.StowFloats
				}
				if isIn && tier == 0 {
					code = impl.StowWell
				}
				checkStow(t, fmt.Sprint(bay, row, tier), bays, stows{stowed(numbered(1, 9), bay, row, tier)}, code, 0)
			}
		}
	}
	for _, wrong := range wrongSpots() {
		for place := range 3 {
			checkStow(t, fmt.Sprint(wrong), bays, withSpot(tower(9, 8, 7), place, wrong), impl.StowSpot, place)
		}
	}
	// A spot that is only in another bay.
	checkStow(t, "a Row of another bay", bays, append(tower(9), stowed(numbered(5, 9), 0, 3, 0)), impl.StowSpot, 1)
	checkStow(t, "a Tier of another bay", bays, append(tower(9), stowed(numbered(5, 9), 1, 0, 1)), impl.StowSpot, 1)
}

func TestStowFloats(t *testing.T) {
	bays := hatches{hatch(2, 4, 100, 5), hatch(2, 4, 100, 5)}
	list := tower(9, 8, 7, 6)
	checkStow(t, "without its lowest", bays, list[1:], impl.StowFloats, 0)
	checkStow(t, "without its second", bays, slices.Delete(slices.Clone(list), 1, 2), impl.StowFloats, 1)
	checkStow(t, "without its third", bays, slices.Delete(slices.Clone(list), 2, 3), impl.StowFloats, 2)
	checkStow(t, "without its topmost", bays, list[:3], impl.StowWell, 0)
	floating := stowed(numbered(5, 1), 1, 1, 1)
	checkStow(t, "nothing below", bays, append(slices.Clone(list), floating), impl.StowFloats, 4)
	for name, other := range map[string]impl.Spot{"another Row": spot(1, 0, 0), "another Bay": spot(0, 1, 0)} {
		beside := append(slices.Clone(list), floating, impl.Stow{Box: numbered(6, 9), Spot: other})
		checkStow(t, name, bays, beside, impl.StowFloats, 4)
	}
	later := append(slices.Clone(list), floating, stowed(numbered(6, 9), 1, 1, 0))
	checkStow(t, "the lower one comes later", bays, later, impl.StowWell, 0)
	two := append(stows{floating}, list[2:]...)
	checkStow(t, "the first of several", bays, two, impl.StowFloats, 0)
	checkStow(t, "two apart", bays, stows{list[0], list[2]}, impl.StowFloats, 1)
	checkStow(t, "one above it is no help", bays, stows{list[2], list[1]}, impl.StowFloats, 1)
}

func TestStowStack(t *testing.T) {
	bays := hatches{hatch(2, 4, 24, 5), hatch(2, 4, 25, 5)}
	checkStow(t, "just at Most", bays, tower(9, 8, 7), impl.StowWell, 0)
	checkStow(t, "one more", bays, tower(9, 9, 7), impl.StowStack, 0)
	checkStow(t, "as heavy", bays, tower(8, 8, 8), impl.StowWell, 0)
	checkStow(t, "heavier by one", bays, tower(5, 6), impl.StowStack, 0)
	checkStow(t, "heavier above two", bays, tower(5, 4, 5), impl.StowStack, 0)
	checkStow(t, "a bay of its own Most", bays, withSpot(tower(25), 0, spot(1, 0, 0)), impl.StowWell, 0)
	checkStow(t, "and one more", bays, withSpot(tower(26), 0, spot(1, 0, 0)), impl.StowStack, 0)
	checkStow(t, "one more in the other", bays, tower(25), impl.StowStack, 0)
	rows := stows{stowed(numbered(1, 20), 0, 0, 0), stowed(numbered(2, 20), 0, 1, 0)}
	checkStow(t, "each Row by itself", bays, rows, impl.StowWell, 0)
	checkStow(t, "Most 0", hatches{hatch(2, 2, 0, 0)}, tower(1), impl.StowStack, 0)
	checkStow(t, "the heaviest", roomyBays(1), tower(40000, 40000, 40000, 40000, 40000, 40000), impl.StowWell, 0)
	checkStow(t, "and one less", hatches{hatch(1, 6, 239999, 0)}, tower(40000, 40000, 40000, 40000, 40000, 40000), impl.StowStack, 0)
}

// The place is that of the first stow of the stack, not of the box that is too
// heavy, and no matter where in the stack it stands.
func TestStowStackPlace(t *testing.T) {
	bays := hatches{hatch(3, 4, 24, 5)}
	beside := stowed(numbered(8, 3), 0, 1, 0)
	list := tower(5, 4, 3, 4)
	checkStow(t, "from the lowest up", bays, append(stows{beside}, list...), impl.StowStack, 1)
	slices.Reverse(list)
	checkStow(t, "from the topmost down", bays, append(stows{beside}, list...), impl.StowStack, 1)
	split := stows{list[2], beside, list[0], list[3], list[1]}
	checkStow(t, "split", bays, split, impl.StowStack, 0)
	well := stows{stowed(numbered(6, 3), 0, 2, 1), beside, stowed(numbered(7, 3), 0, 2, 0), stowed(numbered(9, 4), 0, 1, 1)}
	checkStow(t, "the second stack", bays, well, impl.StowStack, 1)
}

// A stack is read by Tier, not in the order of the list.
func TestStowStackIsByTier(t *testing.T) {
	d := &draws{state: 151}
	bays := hatches{hatch(1, 4, 100, 5)}
	for range 50 {
		checkStow(t, "well", bays, shuffled(d, tower(9, 8, 7, 6)), impl.StowWell, 0)
		checkStow(t, "heavier above", bays, shuffled(d, tower(9, 7, 8, 6)), impl.StowStack, 0)
	}
}

// A Cold box above the lowest two makes a bad stack, whatever plugs there are.
func TestStowStackOfCold(t *testing.T) {
	for tier, code := range []int{impl.StowWell, impl.StowWell, impl.StowStack, impl.StowStack} {
		list := tower(5, 5, 5, 5)
		list[tier].Box.Cold = true
		checkStow(t, fmt.Sprint("Tier ", tier), hatches{hatch(1, 4, 100, 36)}, list, code, 0)
	}
}

func TestStowCold(t *testing.T) {
	plugs := func(counts ...int) hatches {
		var bays hatches
		for _, n := range counts {
			bays = append(bays, hatch(4, 2, 100, n))
		}
		return bays
	}
	plain := stowed(numbered(9, 5), 0, 3, 0)
	list := stows{plain, stowed(cold(numbered(0, 5)), 0, 0, 0), stowed(cold(numbered(1, 5)), 0, 0, 1), stowed(cold(numbered(2, 5)), 0, 2, 0)}
	for n := range 6 {
		code, place := impl.StowWell, 0
		if n < 3 {
			code, place = impl.StowCold, 1
		}
		checkStow(t, fmt.Sprint(n, " plugs"), plugs(n, 0), list, code, place)
	}
	checkStow(t, "no plug and none Cold", plugs(0), list[:1], impl.StowWell, 0)
	checkStow(t, "no plug and one Cold", plugs(0), list[:2], impl.StowCold, 1)
	split := withSpot(list, 2, spot(1, 3, 0))
	checkStow(t, "in two bays", plugs(2, 1), split, impl.StowWell, 0)
	checkStow(t, "too many in the first", plugs(1, 1), split, impl.StowCold, 1)
	checkStow(t, "too many in the second", plugs(2, 0), split, impl.StowCold, 2)
	checkStow(t, "in both", plugs(0, 0), split, impl.StowCold, 1)
	checkStow(t, "the other's plugs are no help", plugs(1, 36), split, impl.StowCold, 1)
	all := withSpot(list, 0, spot(1, 0, 0))
	checkStow(t, "a plain one in a bay by itself", plugs(3, 0), all, impl.StowWell, 0)
}

func TestStowApart(t *testing.T) {
	bays := slices.Repeat(hatches{hatch(4, 2, 100, 5)}, 4)
	plain := stowed(numbered(9, 5), 0, 3, 0)
	for _, c := range []struct {
		name    string
		a, b    int
		other   impl.Spot
		isApart bool
	}{
		{"nothing asked for, beside", 2, 4, spot(1, 1, 0), true},
		{"one class, beside", 3, 3, spot(1, 1, 0), true},
		{"nothing dangerous, beside", 1, 0, spot(1, 1, 0), true},
		{"one apart, beside", 2, 5, spot(1, 1, 0), false},
		{"one apart, beside along the Bay", 2, 5, spot(2, 0, 0), false},
		{"one apart, above", 2, 5, spot(1, 0, 1), false},
		{"one apart, two Rows apart", 2, 5, spot(1, 2, 0), true},
		{"one apart, two Bays apart", 2, 5, spot(3, 0, 0), true},
		{"one apart, across", 2, 5, spot(2, 1, 0), true},
		{"a bay apart, in one", 2, 3, spot(1, 3, 0), false},
		{"a bay apart, in the next", 2, 3, spot(2, 3, 0), false},
		{"a bay apart, two on", 2, 3, spot(3, 3, 0), true},
		{"never, far away", 1, 2, spot(3, 3, 0), false},
	} {
		code, place := impl.StowApart, 2
		if c.isApart {
			code, place = impl.StowWell, 0
		}
		a, b := impl.Stow{Box: classed(1, c.a), Spot: spot(1, 0, 0)}, impl.Stow{Box: classed(2, c.b), Spot: c.other}
		checkStow(t, c.name, bays, stows{plain, a, b}, code, place)
		checkStow(t, c.name+", the other way", bays, stows{plain, b, a}, code, place)
		checkStow(t, c.name+", ahead of a plain one", bays, stows{a, b, plain}, code, max(0, place-1))
		far := stows{a, plain, stowed(numbered(8, 5), 0, 2, 0), b}
		checkStow(t, c.name+", not next in the list", bays, far, code, max(0, place*2-1))
	}
	three := stows{stowed(classed(1, 2), 0, 0, 0), stowed(classed(2, 4), 0, 1, 0), stowed(classed(3, 5), 0, 2, 0), stowed(classed(4, 1), 3, 0, 0)}
	checkStow(t, "the first that is near one ahead", bays, three, impl.StowApart, 2)
}

// faulty are a few stows with just one fault, and the place of the stow of
// which it is.
type faulty struct {
	list  stows
	place int
}

// faultyBays have room for all of faulties.
func faultyBays() hatches { return slices.Repeat(hatches{hatch(6, 3, 50, 1)}, 6) }

// faulties has one for each code; none stands in the way of another, so they
// may be laid behind each other in any order.
func faulties() [8]faulty {
	return [8]faulty{
		impl.StowWell:   {stows{stowed(numbered(80, 9), 5, 5, 0), stowed(numbered(81, 8), 5, 5, 1)}, 0},
		impl.StowBad:    {stows{stowed(numbered(10, 9), 0, 0, 0), stowed(numbered(11, 40001), 0, 1, 0)}, 1},
		impl.StowTwice:  {stows{stowed(numbered(20, 9), 0, 2, 0), stowed(numbered(21, 9), 0, 3, 0), stowed(numbered(20, 9), 0, 4, 0)}, 2},
		impl.StowSpot:   {stows{stowed(numbered(30, 9), 1, 0, 0), stowed(numbered(31, 9), 1, 6, 0)}, 1},
		impl.StowFloats: {stows{stowed(numbered(40, 9), 1, 1, 0), stowed(numbered(41, 9), 1, 1, 2)}, 1},
		impl.StowStack:  {stows{stowed(numbered(50, 9), 2, 1, 0), stowed(numbered(51, 5), 2, 2, 0), stowed(numbered(52, 6), 2, 2, 1)}, 1},
		impl.StowCold:   {stows{stowed(numbered(60, 5), 3, 1, 0), stowed(cold(numbered(61, 5)), 3, 2, 0), stowed(cold(numbered(62, 5)), 3, 3, 0)}, 1},
		impl.StowApart:  {stows{stowed(classed(70, 2), 4, 1, 0), stowed(classed(71, 5), 4, 2, 0)}, 1},
	}
}

func TestEachFaultByItself(t *testing.T) {
	for code, f := range faulties() {
		checkStow(t, fmt.Sprint(code, " alone"), faultyBays(), f.list, code, f.place)
	}
}

// checkFaults lays these codes' stows behind each other: the least code counts,
// wherever it stands.
func checkFaults(t *testing.T, codes []int) {
	t.Helper()
	least := slices.Min(codes)
	var list stows
	place := 0
	for _, code := range codes {
		f := faulties()[code]
		if code == least {
			place = len(list) + f.place
		}
		list = append(list, f.list...)
	}
	checkStow(t, fmt.Sprint("in the order ", codes), faultyBays(), list, least, place)
}

func TestEachReasonIsLookedForInAllOfTheList(t *testing.T) {
	d := &draws{state: 149}
	for first := impl.StowBad; first <= impl.StowApart; first++ {
		for second := impl.StowBad; second <= impl.StowApart; second++ {
			if first != second {
				checkFaults(t, []int{first, second})
				checkFaults(t, []int{second, first})
			}
		}
	}
	for set := 1; set < 128; set++ {
		var codes []int
		for code := impl.StowApart; code >= impl.StowBad; code-- {
			if set>>(code-1)&1 == 1 {
				codes = append(codes, code)
			}
		}
		checkFaults(t, codes)
		for range 5 {
			checkFaults(t, shuffled(d, codes))
		}
	}
}

// One stow of which several are so.
func TestSeveralReasonsOfOneStow(t *testing.T) {
	bays := hatches{hatch(2, 2, 20, 0), hatch(2, 2, 20, 0)}
	list := stows{stowed(classed(1, 2), 0, 0, 0), stowed(classed(1, 5), 0, 1, 9)}
	list[1].Box.Cold, list[1].Box.Weight = true, 0
	checkStow(t, "all", bays, list, impl.StowBad, 1)
	list[1].Box.Weight = 21
	checkStow(t, "all but the box", bays, list, impl.StowTwice, 1)
	list[1].Box.Name = numbered(2, 9).Name
	checkStow(t, "and the Name", bays, list, impl.StowSpot, 1)
	list[1].Spot.Tier = 1
	checkStow(t, "and the Spot", bays, list, impl.StowFloats, 1)
	list[1].Spot.Tier = 0
	checkStow(t, "and what it stands on", bays, list, impl.StowStack, 1)
	list[1].Box.Weight = 20
	checkStow(t, "and the weight", bays, list, impl.StowCold, 1)
	list[1].Box.Cold = false
	checkStow(t, "and the plug", bays, list, impl.StowApart, 1)
	list[1].Box.Class = 4
	checkStow(t, "and the class", bays, list, impl.StowWell, 0)
}

func TestStowCodeOfMany(t *testing.T) {
	d := &draws{state: 150}
	var seen [8]int
	for range 20000 {
		bays := drawnBays(d)
		list := drawnStows(d, bays)
		code, place := stowCodeOf(bays, list)
		seen[code]++
		if got, at := impl.StowCode(bays, list); got != code || at != place {
			t.Fatalf("%+v in %+v: %d at %d, not %d at %d", list, bays, got, at, code, place)
		}
	}
	if slices.Min(seen[:]) < 200 {
		t.Error("few drawn of one code", seen)
	}
}
