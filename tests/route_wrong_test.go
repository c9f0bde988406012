package tests

import (
	"fmt"
	"math"
	"slices"
	"testing"

	"loop.example/g00059/impl"
)

// Promise 24: each function of routes answers, and a wrong input has one fixed
// answer.

// wrongSeas pass one limit each, most of them by one.
func wrongSeas() map[string]impl.Sea {
	resized := func(wide, high, count int) impl.Sea {
		return impl.Sea{Wide: wide, High: high, Costs: slices.Repeat([]int{4}, count)}
	}
	all := map[string]impl.Sea{
		"empty":                           {},
		"wide 0":                          resized(0, 3, 0),
		"high 0":                          resized(3, 0, 0),
		"wide 0, with costs":              resized(0, 3, 3),
		"high 0, with costs":              resized(3, 0, 3),
		"wide 13":                         resized(13, 2, 26),
		"high 13":                         resized(2, 13, 26),
		"wide and high below 0":           resized(-1, -1, 1),
		"sides turned below 0":            resized(-2, -3, 6),
		"sides whose product wraps to 0":  resized(1<<32, 1<<32, 0),
		"sides whose product wraps to 12": resized(1<<62+3, 4, 12),
		"least sides":                     resized(math.MinInt, math.MinInt, 0),
		"greatest sides":                  resized(math.MaxInt, math.MaxInt, 1),
		"a cost too few":                  resized(3, 2, 5),
		"a cost too many":                 resized(3, 2, 7),
		"no costs":                        resized(3, 2, 0),
		"costs of a greater sea":          resized(3, 2, 144),
		"a great many costs":              resized(12, 12, 5000),
		"first cost -1":                   withCost(strait(), 0, -1),
		"middle cost -1":                  withCost(strait(), 7, -1),
		"last cost -1":                    withCost(strait(), 14, -1),
		"first cost 1001":                 withCost(strait(), 0, 1001),
		"last cost 1001":                  withCost(strait(), 14, 1001),
		"least cost":                      withCost(strait(), 1, math.MinInt),
		"greatest cost":                   withCost(strait(), 1, math.MaxInt),
		"11 Closed":                       withShut(strait(), slices.Repeat(shuts{closed(0, 0, 0, 0, 0, 0)}, 11)...),
		"100 Closed":                      withShut(strait(), slices.Repeat(shuts{closed(0, 0, 0, 0, 0, 0)}, 100)...),
	}
	for name, c := range wrongClosed() {
		all["Closed with "+name] = withShut(strait(), c)
		all["last Closed with "+name] = withShut(strait(), closed(0, 0, 11, 11, 0, 9), closed(1, 1, 1, 1, 1, 1), c)
		all["tenth Closed with "+name] = withShut(strait(), append(slices.Repeat(shuts{closed(4, 2, 4, 2, 3, 3)}, 9), c)...)
	}
	return all
}

func wrongClosed() map[string]impl.Closed {
	return map[string]impl.Closed{
		"X the wrong way round":     closed(2, 0, 1, 0, 0, 1),
		"Y the wrong way round":     closed(0, 2, 0, 1, 0, 1),
		"steps the wrong way round": closed(0, 0, 1, 1, 2, 1),
		"X0 -1":                     closed(-1, 0, 1, 1, 0, 1),
		"Y0 -1":                     closed(0, -1, 1, 1, 0, 1),
		"X0 and X1 -1":              closed(-1, 0, -1, 1, 0, 1),
		"Y0 and Y1 -1":              closed(0, -1, 1, -1, 0, 1),
		"X1 12":                     closed(0, 0, 12, 1, 0, 1),
		"Y1 12":                     closed(0, 0, 1, 12, 0, 1),
		"X0 and X1 12":              closed(12, 0, 12, 1, 0, 1),
		"Y0 and Y1 12":              closed(0, 12, 1, 12, 0, 1),
		"X1 least":                  closed(0, 0, math.MinInt, 1, 0, 1),
		"X0 least, X1 greatest":     closed(math.MinInt, 0, math.MaxInt, 1, 0, 1),
		"Y0 least, Y1 greatest":     closed(0, math.MinInt, 1, math.MaxInt, 0, 1),
		"From -1":                   closed(0, 0, 1, 1, -1, 1),
		"From and To -1":            closed(0, 0, 1, 1, -1, -1),
		"To 10^6 + 1":               closed(0, 0, 1, 1, 0, 1000001),
		"From and To 10^6 + 1":      closed(0, 0, 1, 1, 1000001, 1000001),
		"From 1 and To 0":           closed(0, 0, 1, 1, 1, 0),
		"From 10^6 and To 999999":   closed(0, 0, 1, 1, 1000000, 999999),
		"From least, To greatest":   closed(0, 0, 1, 1, math.MinInt, math.MaxInt),
	}
}

// checkNoSea asks for the fixed answers of all functions but SeaOk.
func checkNoSea(t *testing.T, name string, s impl.Sea, from, to, most int) {
	t.Helper()
	if got, ok := impl.Cheapest(s, from); len(got) != 0 || ok {
		t.Error(name, "Cheapest", from, got, ok)
	}
	for _, costs := range [][]int{nil, {0}, {-1}, slices.Repeat([]int{-1}, 15), make([]int, 15), make([]int, len(s.Costs))} {
		if impl.Proves(s, from, costs) {
			t.Error(name, "Proves", from, costs)
		}
	}
	if got, ok := impl.WayOf(s, from, to); len(got) != 0 || ok {
		t.Error(name, "WayOf", from, to, got, ok)
	}
	if got, ok := impl.Quickest(s, from, to, most); got != -1 || ok {
		t.Error(name, "Quickest", from, to, most, got, ok)
	}
}

func TestSeasThatAreNotSo(t *testing.T) {
	places := []int{-1, 0, 1, 4, 14, 15, math.MinInt, math.MaxInt}
	for name, s := range wrongSeas() {
		if impl.SeaOk(s) {
			t.Error(name, "is ok")
		}
		for _, way := range [][]int{nil, {0}, {0, 1}, {0, 1, 2}, {-1}, {math.MaxInt}, swung(0, 1, 200), swung(0, 1, 201)} {
			checkNoWay(t, s, way)
		}
		for _, from := range places {
			for _, to := range places {
				for _, most := range []int{-1, 0, 3, 200, 201} {
					checkNoSea(t, name, s, from, to, most)
				}
			}
		}
		if right := []int{0, 9, 10, -1, -1, 2, -1, 13, -1, -1, 7, 8, 9, -1, -1}; impl.Proves(s, 0, right) {
			t.Error(name, "proves what is right of the strait")
		}
	}
}

func TestPlacesThatAreNotOnTheSea(t *testing.T) {
	for _, s := range []impl.Sea{strait(), openSea(1, 1, 1), openSea(12, 12, 9), openSea(3, 2, 0)} {
		count := len(s.Costs)
		for _, none := range []int{-1, -2, -count, count, count + 1, 2 * count, math.MinInt, math.MaxInt} {
			checkNoSea(t, "from is none", s, none, 0, 200)
			checkNoSea(t, "from and to are none", s, none, none, 200)
			checkNoSea(t, "from and to are none, no steps", s, none, none, 0)
			checkWayOf(t, s, 0, none)
			checkQuickest(t, s, 0, none, 200, -1)
			checkQuickest(t, s, 0, none, 0, -1)
			costs := cheapest(s, 0)
			if impl.Proves(s, none, costs) {
				t.Error("proved from", none)
			}
		}
	}
}

func TestMostStepsThatAreNotSo(t *testing.T) {
	for _, most := range []int{-1, -2, 201, 202, 1000000, math.MinInt, math.MaxInt} {
		checkQuickest(t, strait(), 0, 0, most, -1)
		checkQuickest(t, strait(), 0, 2, most, -1)
		checkQuickest(t, openSea(1, 1, 1), 0, 0, most, -1)
	}
}

func TestProofsFromLand(t *testing.T) {
	none := slices.Repeat([]int{-1}, 15)
	for _, land := range []int{3, 6, 8, 13, 14} {
		atLand := slices.Clone(none)
		atLand[land] = 0
		if impl.Proves(strait(), land, none) || impl.Proves(strait(), land, atLand) {
			t.Error("proved from land", land)
		}
	}
	if impl.Proves(openSea(1, 1, 0), 0, []int{0}) || impl.Proves(openSea(1, 1, 0), 0, []int{-1}) {
		t.Error("proved from land alone")
	}
	if !impl.Proves(openSea(1, 1, 1), 0, []int{0}) {
		t.Error("one place is not proved")
	}
}

// crossing is all that is handed in to the functions of routes.
type crossing struct {
	s              impl.Sea
	way, costs     []int
	from, to, most int
}

func crossingsOfAllKinds() []crossing {
	d := &draws{state: 102}
	var all []crossing
	for _, s := range wrongSeas() {
		all = append(all, crossing{s, []int{0, 1}, []int{0, 9}, 0, 1, 9})
	}
	for _, most := range []int{-1, 0, 9, 200, 201} {
		all = append(all, crossing{strait(), []int{0, 1, 2}, cheapest(strait(), 0), 0, 2, most})
	}
	all = append(all, crossing{strait(), []int{3}, nil, 3, 3, 9}, crossing{strait(), nil, nil, -1, 15, 9}, crossing{strait(), swung(0, 1, 201), nil, 0, 4, 9})
	for range 200 {
		s := drawnSea(d)
		from, to := d.below(len(s.Costs)), d.below(len(s.Costs))
		costs := cheapest(s, from)
		if proofs := proofsBeside(costs); d.below(2) == 0 {
			costs = proofs[d.below(len(proofs))]
		}
		all = append(all, crossing{s, drawnWay(d, s), costs, from, to, d.below(201)})
	}
	return all
}

func roomyCrossing(c crossing) crossing {
	c.s.Costs = spare(c.s.Costs, 1)
	c.s.Shut = spare(c.s.Shut, closed(0, 0, 11, 11, 0, 1000000))
	c.way, c.costs = spare(c.way, 0), spare(c.costs, 1)
	return c
}

// wholeCrossing tells all of it, and what lies behind each list.
func wholeCrossing(c crossing) string {
	return fmt.Sprint(c.s.Wide, c.s.High, c.s.Costs[:cap(c.s.Costs)], c.s.Shut[:cap(c.s.Shut)], c.way[:cap(c.way)], c.costs[:cap(c.costs)])
}

// routed is what the functions of routes answer.
type routed struct {
	ok, isWay, isShut, isThere, isProved, isFound, isQuick bool
	cost, shut, quick                                      int
	costs, way                                             []int
}

func allOfCrossing(c crossing) routed {
	var a routed
	a.ok = impl.SeaOk(c.s)
	a.cost, a.isWay = impl.WayCost(c.s, c.way)
	a.shut, a.isShut = impl.WayShut(c.s, c.way)
	a.costs, a.isThere = impl.Cheapest(c.s, c.from)
	a.isProved = impl.Proves(c.s, c.from, c.costs)
	a.way, a.isFound = impl.WayOf(c.s, c.from, c.to)
	a.quick, a.isQuick = impl.Quickest(c.s, c.from, c.to, c.most)
	return a
}

func TestRouteArgumentsAreNotChanged(t *testing.T) {
	for _, plain := range crossingsOfAllKinds() {
		c := roomyCrossing(plain)
		before := wholeCrossing(c)
		got := fmt.Sprint(allOfCrossing(c))
		if wholeCrossing(c) != before {
			t.Fatal("written into", plain)
		}
		if got != fmt.Sprint(allOfCrossing(plain)) {
			t.Fatal("what lies behind a list is looked at", plain)
		}
	}
}

func TestRouteAnswersAreNewMemory(t *testing.T) {
	for _, plain := range crossingsOfAllKinds() {
		c := roomyCrossing(plain)
		before := wholeCrossing(c)
		earlier, got := allOfCrossing(c), allOfCrossing(c)
		want, way := fmt.Sprint(got), fmt.Sprint(got.way)
		overwrite(got.costs)
		if fmt.Sprint(got.way) != way {
			t.Fatal("Cheapest and WayOf share memory", plain)
		}
		overwrite(got.way)
		if wholeCrossing(c) != before {
			t.Fatal("an answer shares memory with what was handed in", plain)
		}
		if fmt.Sprint(earlier) != want || fmt.Sprint(allOfCrossing(c)) != want {
			t.Fatal("two answers share memory", plain)
		}
		overwrite(c.s.Costs)
		overwrite(c.way)
		overwrite(c.costs)
		clear(c.s.Shut[:cap(c.s.Shut)])
		if fmt.Sprint(earlier) != want {
			t.Fatal("an answer keeps the memory of what was handed in", plain)
		}
	}
}

func TestRouteAnswersAgainAndTogether(t *testing.T) {
	all := crossingsOfAllKinds()
	ask := func() string {
		told := ""
		for _, c := range all[len(all)-20:] {
			told += fmt.Sprintln(allOfCrossing(c))
		}
		return told
	}
	want := ask()
	told := make(chan string)
	for range 8 {
		go func() { told <- ask() }()
	}
	for range 8 {
		if got := <-told; got != want {
			t.Error("answers hang on earlier calls", got, want)
		}
	}
}
