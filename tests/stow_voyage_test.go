package tests

import (
	"fmt"
	"math"
	"slices"
	"testing"

	"loop.example/g00059/impl"
)

// Promise 12 for a voyage: what is lifted to stay, and what stands on the ship
// behind each port.

func checkShifts(t *testing.T, name string, list stows, port int, want ...int) {
	t.Helper()
	if got, ok := impl.Shifts(list, port); !slices.Equal(got, want) || !ok {
		t.Errorf("%s: %v %t, not %v", name, got, ok, want)
	}
}

func checkNoShifts(t *testing.T, name string, list stows, port int) {
	t.Helper()
	if got, ok := impl.Shifts(list, port); len(got) != 0 || ok {
		t.Errorf("%s: %v %t", name, got, ok)
	}
}

// bound is a stack whose boxes go to these ports, from the lowest one up.
func bound(tos ...int) stows {
	var list stows
	for tier, to := range tos {
		list = append(list, stowed(going(tier, 20-tier, 0, to), 0, 0, tier))
	}
	return list
}

func TestShiftsByHand(t *testing.T) {
	checkShifts(t, "no stow", nil, 3)
	checkShifts(t, "one that goes", bound(3), 3)
	checkShifts(t, "one that stays", bound(4), 3)
	checkShifts(t, "one above", bound(3, 4), 3, 1)
	checkShifts(t, "one below", bound(4, 3), 3)
	checkShifts(t, "both go", bound(3, 3), 3)
	checkShifts(t, "both stay", bound(4, 4), 3)
	checkShifts(t, "above and below", bound(4, 3, 4), 3, 2)
	checkShifts(t, "all that stand above", bound(4, 3, 5, 4, 19), 3, 2, 3, 4)
	checkShifts(t, "above two of them, told once", bound(3, 3, 4), 3, 2)
	checkShifts(t, "between them", bound(3, 5, 3, 4), 3, 1, 3)
	checkShifts(t, "what was to go earlier does not stay", bound(3, 2), 3)
	checkShifts(t, "and is not gone for", bound(2, 4), 3)
	checkShifts(t, "To one above the port", bound(3, 4), 4)
	checkShifts(t, "To one below it", bound(3, 4), 2)
}

func TestShiftsInOtherStacks(t *testing.T) {
	leaving := stowed(going(1, 9, 0, 3), 2, 2, 1)
	for s, isLifted := range map[impl.Spot]bool{
		spot(2, 2, 2): true, spot(2, 2, 5): true, spot(2, 2, 0): false, spot(2, 1, 2): false, spot(2, 3, 2): false,
		spot(1, 2, 2): false, spot(3, 2, 2): false, spot(1, 2, 0): false, spot(3, 3, 2): false, spot(2, 1, 1): false,
	} {
		stays := impl.Stow{Box: going(2, 9, 0, 4), Spot: s}
		if isLifted {
			checkShifts(t, fmt.Sprint(s), stows{leaving, stays}, 3, 1)
			checkShifts(t, fmt.Sprint(s, " ahead"), stows{stays, leaving}, 3, 0)
		} else {
			checkShifts(t, fmt.Sprint(s), stows{leaving, stays}, 3)
			checkShifts(t, fmt.Sprint(s, " ahead"), stows{stays, leaving}, 3)
		}
	}
}

// They are told by their places in the list, whatever their Tiers.
func TestShiftsAreAscending(t *testing.T) {
	list := bound(3, 9, 8, 7, 6)
	slices.Reverse(list)
	checkShifts(t, "from the topmost down", list, 3, 0, 1, 2, 3)
	other := stowed(going(7, 9, 0, 9), 1, 0, 4)
	checkShifts(t, "with one of another bay", slices.Insert(list, 2, other), 3, 0, 1, 3, 4)
}

func TestShiftsLimits(t *testing.T) {
	for port, isSo := range map[int]bool{-1: false, 0: true, 3: true, 19: true, 20: false, math.MinInt: false, math.MaxInt: false} {
		for _, list := range []stows{nil, bound(port, 19), bound(3, 4)} {
			want, ok := shiftsOf(list, port)
			if got, told := impl.Shifts(list, port); !slices.Equal(got, want) || told != ok || ok != isSo {
				t.Error(port, list, got, told)
			}
		}
	}
	checkShifts(t, "port 0", bound(0, 1), 0, 1)
	checkShifts(t, "port 18", bound(18, 19), 18, 1)
	checkShifts(t, "port 19", bound(19, 20), 19, 1)
	checkShifts(t, "nothing stays at 19", bound(19, 19), 19)
	forty := stowedAll(40, 0, 4)
	forty[0].Box.To = 3
	checkShifts(t, "40", forty, 3, 1, 2, 3, 4, 5)
	checkNoShifts(t, "41", append(slices.Clone(forty), stowed(numbered(90, 1), 1, 5, 5)), 3)
	checkNoShifts(t, "300", make(stows, 300), 3)
}

func TestShiftsOfOneSpot(t *testing.T) {
	list := append(bound(3, 4, 5), stowed(going(8, 9, 0, 3), 1, 0, 0), stowed(going(9, 9, 0, 3), 1, 1, 0))
	checkShifts(t, "five", list, 3, 1, 2)
	for i := range list {
		for k := range list {
			if i != k {
				checkNoShifts(t, fmt.Sprint(i, " and ", k), withSpot(list, i, list[k].Spot), 3)
			}
		}
	}
	// Two of one Name are not asked for.
	checkShifts(t, "one Name", withBox(list, 1, withName(list[1].Box, list[0].Box.Name)), 3, 1, 2)
}

// Boxes need not be right, nor spots be on any ship.
func TestShiftsOfAnything(t *testing.T) {
	far := stows{stowed(impl.Box{To: 3}, -9, math.MaxInt, math.MinInt), stowed(impl.Box{To: math.MaxInt}, -9, math.MaxInt, math.MaxInt), stowed(impl.Box{To: math.MinInt}, -9, math.MaxInt, 0)}
	checkShifts(t, "far away", far, 3, 1)
	checkShifts(t, "below 0", stows{stowed(impl.Box{To: 3}, 0, 0, -2), stowed(impl.Box{To: 4}, 0, 0, -1)}, 3, 1)
	for name, b := range wrongBoxes() {
		b.To = 9
		checkShifts(t, name, stows{stowed(b, 0, 0, 1), stowed(going(1, 9, 0, 3), 0, 0, 0)}, 3, 0)
	}
}

func TestShiftsOfMany(t *testing.T) {
	d := &draws{state: 152}
	some, none := 0, 0
	for range 5000 {
		list := drawnStows(d, drawnBays(d))
		for port := range 10 {
			want, ok := shiftsOf(list, port)
			if got, told := impl.Shifts(list, port); !slices.Equal(got, want) || told != ok {
				t.Fatal(list, port, got, told)
			}
			if len(want) > 1 {
				some++
			}
			if !ok {
				none++
			}
		}
	}
	if some < 1000 || none < 1000 {
		t.Error("few drawn of one kind", some, none)
	}
}

func checkAtPort(t *testing.T, name string, bays hatches, list stows, port int, plan, want stows, shifts int) {
	t.Helper()
	got, many, code := impl.AtPort(bays, list, port, plan)
	if !slices.Equal(got, want) || many != shifts || code != impl.VoyDone {
		t.Errorf("%s: %+v %d %d", name, got, many, code)
	}
}

func checkNotAtPort(t *testing.T, name string, bays hatches, list stows, port int, plan stows, code int) {
	t.Helper()
	got, many, told := impl.AtPort(bays, list, port, plan)
	if !slices.Equal(got, list) || many != 0 || told != code {
		t.Errorf("%s: %+v %d %d, not %d", name, got, many, told, code)
	}
}

func TestAtPortByHand(t *testing.T) {
	bays := hatches{hatch(2, 3, 100, 1)}
	list := append(bound(3, 5, 3), stowed(going(7, 9, 2, 4), 0, 1, 0))
	checkAtPort(t, "no ship's load, no plan", bays, nil, 3, nil, nil, 0)
	checkAtPort(t, "nothing goes", bays, list, 2, nil, list, 0)
	under := stowed(going(10, 19, 3, 4), 0, 0, 0)
	checkAtPort(t, "one is lifted, and another laid below it", bays, list, 3, stows{under}, stows{list[1], list[3], under}, 1)
	above := stowed(going(11, 2, 3, 9), 0, 1, 1)
	checkAtPort(t, "what stays ahead, then the plan", bays, list, 3, stows{above, under}, stows{list[1], list[3], above, under}, 1)
	checkAtPort(t, "in the plan's order", bays, list, 3, stows{under, above}, stows{list[1], list[3], under, above}, 1)
	turned := slices.Clone(list)
	slices.Reverse(turned)
	checkAtPort(t, "in the list's order", bays, turned, 3, stows{under}, stows{list[3], list[1], under}, 1)
	checkAtPort(t, "all of them go", bays, bound(3, 3, 3), 3, nil, nil, 0)
	checkAtPort(t, "the topmost goes", bays, bound(4, 3), 3, nil, bound(4), 0)
	checkAtPort(t, "a spot that becomes free is taken", bays, bound(3), 3, stows{under}, stows{under}, 0)
	checkAtPort(t, "a Name that is gone comes again", bays, bound(3), 3, stows{stowed(going(0, 1, 3, 4), 0, 1, 0)}, stows{stowed(going(0, 1, 3, 4), 0, 1, 0)}, 0)
}

// A limit of what is on the ship is asked for behind the port, not ahead of it.
func TestAtPortRoomIsWhatIsFree(t *testing.T) {
	bays := hatches{hatch(2, 1, 20, 1), hatch(2, 1, 20, 1)}
	chilled := cold(going(0, 20, 0, 3))
	laid := cold(going(1, 20, 3, 4))
	checkAtPort(t, "a plug", bays, stows{stowed(chilled, 0, 0, 0)}, 3, stows{stowed(laid, 0, 1, 0)}, stows{stowed(laid, 0, 1, 0)}, 0)
	chilled.To = 4
	checkNotAtPort(t, "no plug", bays, stows{stowed(chilled, 0, 0, 0)}, 3, stows{stowed(laid, 0, 1, 0)}, impl.VoyPlan)
	near, other := classed(2, 1), classed(3, 2)
	near.To, other.From = 3, 3
	checkAtPort(t, "a class", bays, stows{stowed(near, 0, 0, 0)}, 3, stows{stowed(other, 0, 1, 0)}, stows{stowed(other, 0, 1, 0)}, 0)
	near.To = 4
	checkNotAtPort(t, "no class", bays, stows{stowed(near, 0, 0, 0)}, 3, stows{stowed(other, 1, 1, 0)}, impl.VoyPlan)
}

func TestAtPortOfMostStows(t *testing.T) {
	bays := roomyBays(2)
	forty := stowedAll(40, 3, 9)
	checkAtPort(t, "a plan of 40", bays, nil, 3, forty, forty, 0)
	checkNotAtPort(t, "a plan of 41", bays, nil, 3, stowedAll(41, 3, 9), impl.VoyBad)
	checkAtPort(t, "a plan of none", bays, forty, 3, nil, forty, 0)
	checkNotAtPort(t, "a list of 41", bays, stowedAll(41, 3, 9), 3, nil, impl.VoyBad)
	checkNotAtPort(t, "a list of 300", bays, make(stows, 300), 3, nil, impl.VoyBad)
	checkNotAtPort(t, "40 that stay, and one", bays, forty, 3, stows{stowed(going(50, 1, 3, 9), 1, 3, 0)}, impl.VoyPlan)
	going39 := stowedAll(40, 0, 3)
	going39[0].Box.To = 9
	plan := stowedAll(40, 3, 9)[1:]
	for i := range plan {
		plan[i].Box.Name = numbered(100+i, 1).Name
	}
	checkAtPort(t, "39 go, 39 come", bays, going39, 3, plan, append(slices.Clone(going39[:1]), plan...), 0)
	one := append(slices.Clone(plan), stowed(going(50, 1, 3, 9), 1, 3, 0))
	checkNotAtPort(t, "39 go, 40 come", bays, going39, 3, one, impl.VoyPlan)
	checkAtPort(t, "40 go, 40 come", bays, stowedAll(40, 0, 3), 3, forty, forty, 0)
}

func TestAtPortBad(t *testing.T) {
	bays := hatches{hatch(2, 3, 100, 1), hatch(2, 3, 100, 1)}
	list := append(bound(3, 5), stowed(going(7, 9, 2, 4), 1, 1, 0))
	for _, port := range []int{-1, -3, 20, 21, math.MinInt, math.MaxInt} {
		checkNotAtPort(t, fmt.Sprint("port ", port), bays, list, port, nil, impl.VoyBad)
		checkNotAtPort(t, fmt.Sprint("port ", port), bays, nil, port, nil, impl.VoyBad)
		checkNotAtPort(t, fmt.Sprint("port ", port), bays, nil, port, stows{stowed(going(1, 1, port, port), 0, 0, 0)}, impl.VoyBad)
	}
	for code, f := range faulties() {
		if code != impl.StowWell {
			for _, port := range []int{0, 5, 9} {
				checkNotAtPort(t, fmt.Sprint("code ", code), faultyBays(), f.list, port, nil, impl.VoyBad)
			}
		}
	}
	for name, wrong := range wrongBays() {
		for _, load := range []stows{nil, list} {
			checkNotAtPort(t, name, wrong, load, 3, nil, impl.VoyBad)
		}
	}
	// What goes at the port may be the one that is wrong.
	twice := withSpot(bound(3, 3), 1, spot(0, 0, 0))
	checkNotAtPort(t, "both go", bays, twice, 3, nil, impl.VoyBad)
}

func TestAtPortHere(t *testing.T) {
	bays := hatches{hatch(3, 3, 100, 1)}
	load := func(from, to int) stows {
		return stows{stowed(going(1, 9, 0, 19), 0, 0, 0), stowed(going(2, 9, from, to), 0, 1, 0), stowed(going(3, 9, 0, 19), 0, 2, 0)}
	}
	for port := range 20 {
		for from := range 19 {
			for to := from + 1; to < 20; to++ {
				list := load(from, to)
				if port == 19 {
					list = list[1:2]
				}
				name := fmt.Sprint(from, " to ", to, " at ", port)
				switch {
				case to < port || from > port:
					checkNotAtPort(t, name, bays, list, port, nil, impl.VoyHere)
				case to == port:
					checkAtPort(t, name, bays, list, port, nil, slices.Delete(slices.Clone(list), len(list)/2, len(list)/2+1), 0)
				default:
					checkAtPort(t, name, bays, list, port, nil, list, 0)
				}
			}
		}
	}
	for from := range 19 {
		plan := stows{stowed(going(5, 9, 7, 19), 0, 0, 0), stowed(going(6, 9, from, 19), 0, 1, 0)}
		if from == 7 {
			checkAtPort(t, "the plan's From is the port", bays, nil, 7, plan, plan, 0)
			continue
		}
		checkNotAtPort(t, fmt.Sprint("the plan's From ", from), bays, nil, 7, plan, impl.VoyHere)
		checkNotAtPort(t, fmt.Sprint("and the first's ", from), bays, nil, from, plan, impl.VoyHere)
	}
}

func TestAtPortPlan(t *testing.T) {
	bays := hatches{hatch(2, 3, 50, 1), hatch(2, 3, 100, 1)}
	list := bound(3, 5)
	checkNotAtPort(t, "what stays would float", bays, list, 3, nil, impl.VoyPlan)
	under := stowed(going(10, 19, 3, 4), 0, 0, 0)
	checkAtPort(t, "one below it", bays, list, 3, stows{under}, stows{list[1], under}, 1)
	for name, plan := range map[string]stows{
		"too light below it":       {stowed(going(10, 18, 3, 4), 0, 0, 0)},
		"a spot of one that stays": {under, stowed(going(11, 1, 3, 4), 0, 0, 1)},
		"a Name of one that stays": {under, stowed(going(1, 1, 3, 4), 0, 1, 0)},
		"a spot twice":             {under, stowed(going(11, 1, 3, 4), 0, 0, 0)},
		"in no bay":                {under, stowed(going(11, 1, 3, 4), 2, 0, 0)},
		"one that floats":          {under, stowed(going(11, 1, 3, 4), 1, 0, 1)},
		"too heavy":                {under, stowed(going(11, 13, 3, 4), 0, 0, 2)},
		"no box":                   {under, stowed(going(11, 0, 3, 4), 0, 1, 0)},
		"no port to go to":         {under, stowed(going(11, 1, 3, 3), 0, 1, 0)},
		"too many Cold":            {under, stowed(cold(going(11, 1, 3, 4)), 1, 0, 0), stowed(cold(going(12, 1, 3, 4)), 1, 1, 0)},
	} {
		checkNotAtPort(t, name, bays, list, 3, plan, impl.VoyPlan)
	}
	checkNotAtPort(t, "from the last port on", bays, nil, 19, stows{stowed(going(1, 1, 19, 20), 0, 0, 0)}, impl.VoyPlan)
}

// Where several are so, the first code counts.
func TestAtPortOrderOfCodes(t *testing.T) {
	bays := hatches{hatch(2, 3, 50, 1)}
	list := bound(3, 5)
	wrongPlan := stows{stowed(going(11, 1, 4, 9), 0, 0, 2)}
	checkNotAtPort(t, "a plan that is not from here, and floats", bays, list, 3, wrongPlan, impl.VoyHere)
	checkNotAtPort(t, "a list that is not here, and a plan that floats", bays, list, 4, wrongPlan, impl.VoyHere)
	checkNotAtPort(t, "a list that is wrong and not here", bays, list[1:], 6, nil, impl.VoyBad)
	checkNotAtPort(t, "and a plan that is not from here", bays, list[1:], 3, wrongPlan, impl.VoyBad)
	checkNotAtPort(t, "a plan of 41 that is not from here", bays, list, 3, make(stows, 41), impl.VoyBad)
	checkNotAtPort(t, "a plan of 40 that is not from here", bays, list, 3, make(stows, 40), impl.VoyHere)
	checkNotAtPort(t, "no port, and not here", bays, list, 20, wrongPlan, impl.VoyBad)
	checkNotAtPort(t, "no port, and not yet", bays, list, -1, wrongPlan, impl.VoyBad)
}

func TestAtPortOfMany(t *testing.T) {
	d := &draws{state: 153}
	var seen [4]int
	for range 6000 {
		bays := drawnBays(d)
		from := d.below(4)
		list := drawnLoadFor(d, bays, nil, 20, 0, from)
		port := from + d.below(3)
		stay := slices.DeleteFunc(slices.Clone(list), func(s impl.Stow) bool { return s.Box.To == port })
		plan := fillers(d, stay, 50, port)
		plan = append(plan, drawnLoadFor(d, bays, slices.Concat(stay, plan), 5, 80, port)...)
		if len(list) > 0 && d.below(8) == 0 {
			spoil(d, bays, &list[d.below(len(list))], list[0])
		}
		if len(plan) > 0 && d.below(4) == 0 {
			spoil(d, bays, &plan[d.below(len(plan))], plan[0])
		}
		if d.below(10) == 0 {
			port += d.between(-1, 1)
		}
		want, many, code := atPortOf(bays, list, port, plan)
		seen[code]++
		if got, shifts, told := impl.AtPort(bays, list, port, plan); !slices.Equal(got, want) || shifts != many || told != code {
			t.Fatalf("%+v\n%+v\n%d %+v\n%+v %d %d, not %+v %d %d", bays, list, port, plan, got, shifts, told, want, many, code)
		}
	}
	if slices.Min(seen[:]) < 300 {
		t.Error("few drawn of one code", seen)
	}
}

// checkCall is what must hold behind each port, said without the code that is
// tested: all is stowed well, what was to go is gone, and all else is there.
func checkCall(t *testing.T, bays hatches, list stows, port int, plan, aboard stows, shifts int) {
	t.Helper()
	if code, place := impl.StowCode(bays, aboard); code != impl.StowWell || place != 0 || !isWellOf(bays, aboard) {
		t.Fatal("not stowed well behind", port, code, place, aboard)
	}
	at := map[string]impl.Stow{}
	for _, s := range aboard {
		at[s.Box.Name] = s
	}
	count := 0
	for _, s := range slices.Concat(list, plan) {
		if got, isThere := at[s.Box.Name]; isThere && got != s || isThere != (s.Box.To != port) {
			t.Fatal("made, lost or moved at", port, s, got)
		}
		if s.Box.To != port {
			count++
		}
	}
	if count != len(aboard) {
		t.Fatal("made or lost at", port, list, plan, aboard)
	}
	lifted, ok := impl.Shifts(list, port)
	if !ok || len(lifted) != shifts {
		t.Fatal("shifts", port, lifted, ok, shifts)
	}
	for _, place := range lifted {
		isBelow := func(s impl.Stow) bool {
			return s.Box.To == port && s.Spot.Bay == list[place].Spot.Bay && s.Spot.Row == list[place].Spot.Row && s.Spot.Tier < list[place].Spot.Tier
		}
		if list[place].Box.To <= port || !slices.ContainsFunc(list, isBelow) {
			t.Fatal("a shift for nothing", port, place, list)
		}
	}
}

// callAt tries a plan, then one that only fills the gaps, which is always taken.
func callAt(t *testing.T, d *draws, bays hatches, list stows, port, number int) (stows, int, int) {
	t.Helper()
	if port == 19 {
		aboard, shifts, code := impl.AtPort(bays, list, port, nil)
		if code != impl.VoyDone {
			t.Fatal("not done at the last port", list, code)
		}
		checkCall(t, bays, list, port, nil, aboard, shifts)
		return aboard, number, shifts
	}
	stay := slices.DeleteFunc(slices.Clone(list), func(s impl.Stow) bool { return s.Box.To == port })
	fill := fillers(d, stay, number, port)
	more := drawnLoadFor(d, bays, slices.Concat(stay, fill), 12, number+len(fill), port)
	for _, plan := range []stows{append(slices.Clone(fill), more...), fill} {
		aboard, shifts, code := impl.AtPort(bays, list, port, plan)
		if code == impl.VoyDone {
			checkCall(t, bays, list, port, plan, aboard, shifts)
			return aboard, number + len(plan), shifts
		}
		if code != impl.VoyPlan || shifts != 0 || !slices.Equal(aboard, list) {
			t.Fatal("refused with", code, shifts, aboard, list)
		}
	}
	t.Fatal("a plan that fills the gaps is not taken", port, list, fill)
	return nil, 0, 0
}

func TestVoyagesArriveWhole(t *testing.T) {
	d := &draws{state: 154}
	loaded, lifted := 0, 0
	for range 150 {
		bays := drawnBays(d)
		var aboard stows
		number, gone := 0, 0
		for port := range 20 {
			ahead := aboard
			after, next, shifts := callAt(t, d, bays, aboard, port, number)
			gone += len(ahead) + next - number - len(after)
			aboard, number = after, next
			lifted += shifts
		}
		if len(aboard) != 0 || gone != number {
			t.Fatal("on board behind the last port", aboard, gone, number)
		}
		loaded += number
	}
	if loaded < 3000 || lifted < 300 {
		t.Error("few drawn", loaded, lifted)
	}
}
