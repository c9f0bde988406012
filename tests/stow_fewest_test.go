package tests

import (
	"fmt"
	"slices"
	"testing"

	"loop.example/g00059/impl"
)

// Promise 12 for plans that are found: none that is stowed well has fewer
// overstows.

func checkFewest(t *testing.T, name string, bays hatches, list boxes, want ...impl.Spot) {
	t.Helper()
	got, ok := impl.Fewest(bays, list)
	if !ok || len(got) != len(list) || len(want) != len(list) {
		t.Errorf("%s: %+v %t", name, got, ok)
		return
	}
	for i, s := range got {
		if s.Box != list[i] || s.Spot != want[i] {
			t.Errorf("%s: %+v, not at %v", name, got, want)
			return
		}
	}
}

func checkNoFewest(t *testing.T, name string, bays hatches, list boxes) {
	t.Helper()
	if got, ok := impl.Fewest(bays, list); len(got) != 0 || ok {
		t.Errorf("%s: %+v %t", name, got, ok)
	}
}

// bounds are boxes of one weight that go to these ports.
func bounds(tos ...int) boxes {
	var list boxes
	for i, to := range tos {
		list = append(list, going(i, 5, 0, to))
	}
	return list
}

func TestFewestByHand(t *testing.T) {
	stack := hatches{hatch(1, 3, 100, 3)}
	checkFewest(t, "no box", stack, nil)
	checkFewest(t, "an empty list", stack, boxes{})
	checkFewest(t, "one box", stack, bounds(4), spot(0, 0, 0))
	checkFewest(t, "the later one lower", stack, bounds(1, 2), spot(0, 0, 1), spot(0, 0, 0))
	checkFewest(t, "as it comes", stack, bounds(2, 1), spot(0, 0, 0), spot(0, 0, 1))
	checkFewest(t, "to one port", stack, bounds(2, 2, 2), spot(0, 0, 0), spot(0, 0, 1), spot(0, 0, 2))
	checkFewest(t, "turned about", stack, bounds(1, 2, 3), spot(0, 0, 2), spot(0, 0, 1), spot(0, 0, 0))
	checkFewest(t, "mixed", stack, bounds(2, 3, 1), spot(0, 0, 1), spot(0, 0, 0), spot(0, 0, 2))
	rows := hatches{hatch(2, 2, 100, 3)}
	checkFewest(t, "side by side", rows, bounds(1, 2), spot(0, 0, 0), spot(0, 1, 0))
	checkFewest(t, "in two stacks", rows, bounds(1, 2, 1, 2), spot(0, 0, 0), spot(0, 1, 0), spot(0, 0, 1), spot(0, 1, 1))
	bays := hatches{hatch(1, 1, 100, 3), hatch(1, 2, 100, 3)}
	checkFewest(t, "in two bays", bays, bounds(1, 2, 3), spot(0, 0, 0), spot(1, 0, 1), spot(1, 0, 0))
}

// The rules leave only ways with overstows; the fewest are told.
func TestFewestThatAreSome(t *testing.T) {
	stack := hatches{hatch(1, 3, 100, 3)}
	heavy := boxes{going(0, 9, 0, 1), going(1, 8, 0, 2), going(2, 7, 0, 3)}
	checkFewest(t, "three", stack, heavy, spot(0, 0, 0), spot(0, 0, 1), spot(0, 0, 2))
	if got, _ := impl.Fewest(stack, heavy); overstowsOf(got) != 3 {
		t.Error("overstows", overstowsOf(got))
	}
	two := hatches{hatch(1, 2, 100, 3), hatch(1, 2, 100, 3)}
	checkFewest(t, "one", two, heavy, spot(0, 0, 0), spot(0, 0, 1), spot(1, 0, 0))
	last := boxes{heavy[2], heavy[0], heavy[1]}
	checkFewest(t, "one, in another order", two, last, spot(0, 0, 0), spot(1, 0, 0), spot(1, 0, 1))
	// A better way comes behind one that is not as good.
	heavy[1].To = 1
	checkFewest(t, "the last two have none", two, boxes{heavy[0], heavy[2], heavy[1]}, spot(0, 0, 0), spot(1, 0, 0), spot(0, 0, 1))
}

// A box may come ahead of the one that it stands on.
func TestFewestWithTheLowerOneLater(t *testing.T) {
	stack := hatches{hatch(1, 5, 100, 5)}
	light := boxes{going(0, 1, 0, 5), going(1, 2, 0, 4), going(2, 3, 0, 3), going(3, 4, 0, 2), going(4, 5, 0, 1)}
	checkFewest(t, "by weight", stack, light, spot(0, 0, 4), spot(0, 0, 3), spot(0, 0, 2), spot(0, 0, 1), spot(0, 0, 0))
	chilled := bounds(2, 2, 2)
	chilled[2].Cold = true
	checkFewest(t, "by cold", stack, chilled, spot(0, 0, 0), spot(0, 0, 2), spot(0, 0, 1))
}

func TestFewestKeepsToTheRules(t *testing.T) {
	bays := hatches{hatch(1, 2, 9, 1), hatch(1, 2, 100, 0), hatch(1, 2, 100, 1)}
	five := boxes{numbered(0, 5), numbered(1, 5)}
	checkFewest(t, "what a stack may weigh", bays, five, spot(0, 0, 0), spot(1, 0, 0))
	colds := boxes{cold(numbered(0, 4)), cold(numbered(1, 4))}
	checkFewest(t, "plugs", bays, colds, spot(0, 0, 0), spot(2, 0, 0))
	checkNoFewest(t, "no plug more", bays, append(colds, cold(numbered(2, 4))))
	checkFewest(t, "a bay apart", bays, boxes{classed(0, 2), classed(1, 3)}, spot(0, 0, 0), spot(2, 0, 0))
	checkFewest(t, "one apart", bays, boxes{classed(0, 2), classed(1, 5)}, spot(0, 0, 0), spot(2, 0, 0))
	across := boxes{classed(0, 2), numbered(1, 9), classed(2, 5)}
	checkFewest(t, "one apart, on another", bays, across, spot(0, 0, 0), spot(1, 0, 0), spot(1, 0, 1))
	checkNoFewest(t, "never", bays, boxes{classed(0, 1), classed(1, 2)})
	checkNoFewest(t, "too heavy", bays, boxes{numbered(0, 101)})
	checkNoFewest(t, "both too heavy for one stack", bays[:1], five)
}

// Of several ways that are as good the first is told, by Bay, then Row, then
// Tier, of the first box ahead of the next.
func TestFewestIsTheFirst(t *testing.T) {
	bays := hatches{hatch(2, 2, 100, 5), hatch(2, 2, 100, 5)}
	checkFewest(t, "all to one port", bays, bounds(3, 3, 3, 3, 3), spot(0, 0, 0), spot(0, 0, 1), spot(0, 1, 0), spot(0, 1, 1), spot(1, 0, 0))
	checkFewest(t, "as they come", bays, bounds(5, 4, 3, 2, 1), spot(0, 0, 0), spot(0, 0, 1), spot(0, 1, 0), spot(0, 1, 1), spot(1, 0, 0))
	checkFewest(t, "turned about", bays, bounds(1, 2, 3, 4, 5), spot(0, 0, 0), spot(0, 1, 0), spot(1, 0, 0), spot(1, 1, 1), spot(1, 1, 0))
	checkFewest(t, "some", bays, bounds(3, 4, 3, 4, 3), spot(0, 0, 0), spot(0, 1, 0), spot(0, 0, 1), spot(0, 1, 1), spot(1, 0, 0))
	flat := hatches{hatch(4, 1, 100, 5), hatch(4, 1, 100, 5)}
	checkFewest(t, "flat", flat, bounds(1, 2, 3, 4, 5), spot(0, 0, 0), spot(0, 1, 0), spot(0, 2, 0), spot(0, 3, 0), spot(1, 0, 0))
}

func TestFewestLimits(t *testing.T) {
	eight := hatches{hatch(2, 4, 100, 5)}
	five := bounds(9, 9, 9, 9, 9)
	checkFewest(t, "5 boxes", eight, five, spot(0, 0, 0), spot(0, 0, 1), spot(0, 0, 2), spot(0, 0, 3), spot(0, 1, 0))
	checkNoFewest(t, "6 boxes", eight, bounds(9, 9, 9, 9, 9, 9))
	checkNoFewest(t, "60 boxes", eight, make(boxes, 60))
	for name, bays := range map[string]hatches{
		"8": eight, "8 the other way": {hatch(4, 2, 100, 5)}, "8 in two": {hatch(6, 1, 100, 5), hatch(1, 2, 100, 5)}, "8 in three": {hatch(1, 1, 100, 5), hatch(3, 1, 100, 5), hatch(1, 4, 100, 5)},
		"6 in six": slices.Repeat(hatches{hatch(1, 1, 100, 5)}, 6), "1": {hatch(1, 1, 100, 5)},
	} {
		checkFewest(t, name, bays, five[:1], spot(0, 0, 0))
		checkFewest(t, name, bays, nil)
	}
	for name, bays := range map[string]hatches{
		"9": {hatch(3, 3, 100, 5)}, "9 in two": {hatch(4, 2, 100, 5), hatch(1, 1, 100, 5)}, "the last has one too many": {hatch(1, 1, 100, 5), hatch(1, 1, 100, 5), hatch(1, 1, 100, 5), hatch(6, 1, 100, 5)},
		"36": {hatch(6, 6, 100, 5)}, "216": roomyBays(6), "12": {hatch(6, 2, 100, 5)},
	} {
		checkNoFewest(t, name, bays, five[:1])
		checkNoFewest(t, name, bays, nil)
	}
	checkNoFewest(t, "more boxes than spots", hatches{hatch(2, 2, 100, 5)}, five)
	checkFewest(t, "as many", hatches{hatch(5, 1, 100, 5)}, five, spot(0, 0, 0), spot(0, 1, 0), spot(0, 2, 0), spot(0, 3, 0), spot(0, 4, 0))
}

func TestFewestThatAreNotSo(t *testing.T) {
	bays := hatches{hatch(2, 2, 100000, 5), hatch(1, 4, 100000, 5)}
	for name, b := range wrongBoxes() {
		checkNoFewest(t, name, bays, boxes{b})
		for place := range 3 {
			list := bounds(3, 4, 5)
			list[place] = b
			checkNoFewest(t, fmt.Sprint(name, " at ", place), bays, list)
		}
	}
	for name, wrong := range wrongBays() {
		checkNoFewest(t, name, wrong, bounds(3))
		checkNoFewest(t, name, wrong, nil)
	}
	five := bounds(5, 4, 3, 2, 1)
	for i := range five {
		for k := range i {
			list := slices.Clone(five)
			list[i].Name = list[k].Name
			checkNoFewest(t, fmt.Sprint("one Name for ", k, " and ", i), bays, list)
		}
	}
}

func TestFewestOfMany(t *testing.T) {
	d := &draws{state: 155}
	found, over := 0, 0
	for i := range 1600 {
		bays, list := drawnFew(d, []int{3, 3, 3, 3, 3, 3, 3, 5}[i%8])
		want, ok := fewestOf(bays, list)
		got, told := impl.Fewest(bays, list)
		if !slices.Equal(got, want) || told != ok {
			t.Fatalf("%+v in %+v:\n%+v %t, not\n%+v %t", list, bays, got, told, want, ok)
		}
		if ok {
			found++
		}
		if overstowsOf(want) > 0 {
			over++
		}
	}
	if found < 500 || found > 1400 || over < 50 {
		t.Error("few drawn of one kind", found, over)
	}
}

// checkNoneBetter tries all ways by the program's own rules.
func checkNoneBetter(t *testing.T, bays hatches, list boxes) {
	t.Helper()
	told, ok := impl.Fewest(bays, list)
	if code, _ := impl.StowCode(bays, told); ok && code != impl.StowWell {
		t.Fatal("not stowed well", code, told)
	}
	for i, s := range told {
		if len(told) != len(list) || s.Box != list[i] {
			t.Fatal("made or lost", list, told)
		}
	}
	isAhead := true
	allWays(bays, list, func(way stows) {
		isAhead = isAhead && !slices.Equal(way, told)
		code, _ := impl.StowCode(bays, way)
		if code != impl.StowWell {
			return
		}
		if !ok {
			t.Fatal("a way that was not found", bays, way)
		}
		if overstowsOf(way) < overstowsOf(told) || isAhead && overstowsOf(way) == overstowsOf(told) {
			t.Fatal("a better way, or one ahead", way, told)
		}
	})
}

func TestNoWayHasFewerOverstows(t *testing.T) {
	d := &draws{state: 156}
	for range 600 {
		bays, list := drawnFew(d, 3)
		checkNoneBetter(t, bays, list)
	}
	for range 25 {
		bays, list := drawnFew(d, 5)
		checkNoneBetter(t, bays, list)
	}
}

// What is found is taken on board as a plan at the port it starts from.
func TestFewestIsAPlan(t *testing.T) {
	d := &draws{state: 157}
	for range 300 {
		bays, list := drawnFew(d, 4)
		for i := range list {
			list[i].To += 2 - list[i].From
			list[i].From = 2
		}
		plan, ok := impl.Fewest(bays, list)
		if !ok {
			continue
		}
		if aboard, shifts, code := impl.AtPort(bays, nil, 2, plan); !slices.Equal(aboard, plan) || shifts != 0 || code != impl.VoyDone {
			t.Fatal(bays, plan, aboard, shifts, code)
		}
		lifts := 0
		for port := 3; port < 20; port++ {
			lifted, _ := impl.Shifts(plan, port)
			lifts += len(lifted)
		}
		// A pair may need a lift at each port at which a lower one goes.
		if lifts > overstowsOf(plan) || (lifts == 0) != (overstowsOf(plan) == 0) {
			t.Fatal("lifts and overstows", lifts, plan)
		}
	}
}
