package tests

import (
	"math"
	"slices"
	"testing"

	"loop.example/g00059/impl"
)

func TestSeaLimitsThatAreMet(t *testing.T) {
	if impl.MaxCost != 1000 {
		t.Error("MaxCost", impl.MaxCost)
	}
	corner := closed(11, 11, 11, 11, 1000000, 1000000)
	seas := map[string]impl.Sea{
		"strait":                  strait(),
		"one place":               openSea(1, 1, 1),
		"one place of land":       openSea(1, 1, 0),
		"one row":                 openSea(12, 1, 1),
		"one column":              openSea(1, 12, 1),
		"greatest":                openSea(12, 12, 1000),
		"all land":                openSea(12, 12, 0),
		"first is land":           withCost(openSea(3, 2, 7), 0, 0),
		"last is land":            withCost(openSea(3, 2, 7), 5, 0),
		"first costs most":        withCost(openSea(3, 2, 7), 0, 1000),
		"last costs most":         withCost(openSea(3, 2, 7), 5, 1000),
		"last costs 1":            withCost(openSea(3, 2, 7), 5, 1),
		"Shut without elements":   withShut(strait(), shuts{}...),
		"one place, one step":     withShut(strait(), closed(2, 1, 2, 1, 4, 4)),
		"first place, first step": withShut(strait(), closed(0, 0, 0, 0, 0, 0)),
		"last place, last step":   withShut(strait(), corner),
		"all places, all steps":   withShut(strait(), closed(0, 0, 11, 11, 0, 1000000)),
		"beside the sea":          withShut(openSea(1, 1, 1), closed(1, 1, 11, 11, 0, 9)),
		"9 Closed":                withShut(strait(), slices.Repeat(shuts{corner}, 9)...),
		"10 Closed":               withShut(strait(), slices.Repeat(shuts{corner}, 10)...),
	}
	for name, s := range seas {
		if !impl.SeaOk(s) {
			t.Error(name)
		}
	}
	for side := 1; side <= 12; side++ {
		if !impl.SeaOk(openSea(side, 5, 1)) || !impl.SeaOk(openSea(5, side, 1)) {
			t.Error("side", side)
		}
	}
}

func checkWayCost(t *testing.T, s impl.Sea, way []int, want int) {
	t.Helper()
	if got, ok := impl.WayCost(s, way); got != want || !ok {
		t.Error(way, "costs", got, ok, "not", want)
	}
}

func checkNoWay(t *testing.T, s impl.Sea, way []int) {
	t.Helper()
	if got, ok := impl.WayCost(s, way); got != 0 || ok {
		t.Error(way, "costs", got, ok)
	}
	if got, ok := impl.WayShut(s, way); got != -1 || ok {
		t.Error(way, "is shut at", got, ok)
	}
}

func TestWayCostByHand(t *testing.T) {
	s := strait()
	checkWayCost(t, s, []int{0}, 0)
	checkWayCost(t, s, []int{10}, 0)
	checkWayCost(t, s, []int{0, 1}, 9)
	checkWayCost(t, s, []int{1, 0}, 1)
	checkWayCost(t, s, []int{0, 5, 10, 11, 12, 7, 2}, 14)
	checkWayCost(t, s, []int{2, 7, 12, 11, 10, 5, 0}, 14)
	checkWayCost(t, s, []int{0, 1, 0, 1, 0}, 20)
	checkWayCost(t, s, []int{9, 4, 9}, 5)
	checkWayCost(t, openSea(1, 5, 3), []int{0, 1, 2, 3, 4}, 12)
	checkWayCost(t, openSea(5, 1, 3), []int{4, 3, 2, 1, 0}, 12)
	checkWayCost(t, openSea(12, 12, 1), []int{143, 131}, 1)
	checkWayCost(t, openSea(1, 1, 5), []int{0}, 0)
	shut := withShut(s, closed(0, 0, 11, 11, 0, 1000000))
	checkWayCost(t, shut, []int{0, 1, 2}, 10)
}

// swung goes to and fro between two places.
func swung(a, b, count int) []int {
	return slices.Repeat([]int{a, b}, count/2+1)[:count]
}

func TestWaysOfAllLengths(t *testing.T) {
	s := withCost(openSea(2, 1, 1000), 1, 7)
	for _, count := range []int{1, 2, 3, 10, 199, 200} {
		checkWayCost(t, s, swung(0, 1, count), count/2*7+(count-1)/2*1000)
	}
	for _, count := range []int{0, 201, 202, 1000} {
		checkNoWay(t, s, swung(0, 1, count))
	}
	checkNoWay(t, s, nil)
	late := withShut(s, closed(1, 0, 1, 0, 199, 199))
	if step, ok := impl.WayShut(late, swung(0, 1, 200)); step != 199 || !ok {
		t.Error("the last of 200", step, ok)
	}
	if step, ok := impl.WayShut(late, swung(0, 1, 199)); step != -1 || ok {
		t.Error("one ahead of it", step, ok)
	}
	checkNoWay(t, late, swung(0, 1, 201))
}

func TestWaysThatAreNone(t *testing.T) {
	s := strait()
	for _, way := range [][]int{
		{-1}, {15}, {16}, {math.MinInt}, {math.MaxInt},
		{0, -1}, {-1, 0}, {10, 15}, {14, 15}, {0, 1, 15}, {0, 5, -1, 10},
		{0, 0}, {0, 1, 1}, {5, 5, 10}, {0, 1, 2, 2},
		{0, 2}, {0, 10}, {2, 12}, {0, 11}, {1, 11}, {11, 1},
		{0, math.MinInt}, {0, math.MaxInt}, {math.MaxInt, math.MinInt}, {math.MaxInt, 0},
		{3}, {6}, {13}, {3, 4}, {13, 12}, {6, 1},
		{1, 6, 11}, {2, 3, 4}, {5, 6, 7}, {7, 8, 9},
		{4, 3}, {12, 13}, {1, 6}, {0, 1, 2, 3}, {0, 5, 6},
	} {
		checkNoWay(t, s, way)
		checkNoWay(t, withShut(s, closed(0, 0, 11, 11, 0, 1000000)), way)
	}
	open := openSea(3, 2, 1)
	for _, way := range [][]int{{2, 3}, {3, 2}, {0, 1, 2, 3}, {0, 4}, {4, 0}, {2, 4}, {4, 2}, {0, 2}, {5, 6}, {2, -1}, {6}} {
		checkNoWay(t, open, way)
	}
	great := openSea(12, 12, 1)
	for y := 1; y < 12; y++ {
		checkNoWay(t, great, []int{12*y - 1, 12 * y})
		checkNoWay(t, great, []int{12 * y, 12*y - 1})
	}
	checkNoWay(t, great, []int{143, 144})
	checkNoWay(t, great, []int{132, 144})
	checkNoWay(t, great, []int{0, -12})
	checkNoWay(t, openSea(1, 3, 1), []int{0, 2})
}

func TestLandOnAWay(t *testing.T) {
	way := []int{0, 1, 2, 5, 4}
	checkWayCost(t, openSea(3, 2, 2), way, 8)
	for _, place := range way {
		checkNoWay(t, withCost(openSea(3, 2, 2), place, 0), way)
	}
	checkWayCost(t, withCost(openSea(3, 2, 2), 3, 0), way, 8)
}

func checkShut(t *testing.T, s impl.Sea, way []int, want int) {
	t.Helper()
	if got, ok := impl.WayShut(s, way); got != want || ok != (want >= 0) {
		t.Error(way, s.Shut, "is shut at", got, ok, "not", want)
	}
}

func TestWayShutByHand(t *testing.T) {
	way := []int{0, 1, 2, 5, 4, 3}
	for _, c := range []struct {
		shut shuts
		want int
	}{
		{nil, -1},
		{shuts{closed(0, 0, 11, 11, 0, 1000000)}, 0},
		{shuts{closed(0, 0, 0, 0, 0, 0)}, 0},
		{shuts{closed(0, 0, 0, 0, 1, 1000000)}, -1},
		{shuts{closed(0, 1, 0, 1, 5, 5)}, 5},
		{shuts{closed(0, 1, 0, 1, 0, 5)}, 5},
		{shuts{closed(0, 1, 0, 1, 5, 9)}, 5},
		{shuts{closed(0, 1, 0, 1, 0, 4)}, -1},
		{shuts{closed(0, 1, 0, 1, 6, 9)}, -1},
		{shuts{closed(2, 0, 2, 0, 2, 2)}, 2},
		{shuts{closed(2, 0, 2, 0, 0, 1)}, -1},
		{shuts{closed(2, 0, 2, 0, 3, 3)}, -1},
		{shuts{closed(2, 0, 2, 1, 3, 3)}, 3},
		{shuts{closed(1, 0, 1, 1, 0, 9)}, 1},
		{shuts{closed(1, 0, 1, 1, 2, 9)}, 4},
		{shuts{closed(0, 1, 2, 1, 0, 9)}, 3},
		{shuts{closed(0, 1, 1, 1, 0, 9)}, 4},
		{shuts{closed(3, 0, 11, 11, 0, 9), closed(0, 2, 11, 11, 0, 9)}, -1},
		{shuts{closed(0, 1, 0, 1, 5, 5), closed(2, 1, 2, 1, 3, 3)}, 3},
		{shuts{closed(2, 1, 2, 1, 3, 3), closed(0, 1, 0, 1, 5, 5)}, 3},
		{shuts{closed(2, 1, 2, 1, 4, 9), closed(0, 1, 0, 1, 5, 5)}, 5},
		{slices.Concat(slices.Repeat(shuts{closed(9, 9, 9, 9, 0, 9)}, 9), shuts{closed(1, 0, 1, 0, 1, 1)}), 1},
	} {
		checkShut(t, withShut(openSea(3, 2, 1), c.shut...), way, c.want)
	}
	again := []int{0, 1, 0, 1, 0}
	checkShut(t, withShut(openSea(2, 1, 1), closed(0, 0, 0, 0, 1, 9)), again, 2)
	checkShut(t, withShut(openSea(2, 1, 1), closed(0, 0, 0, 0, 3, 9)), again, 4)
	checkShut(t, withShut(openSea(2, 1, 1), closed(0, 0, 0, 0, 3, 3)), again, -1)
	checkShut(t, withShut(openSea(1, 1, 1), closed(0, 0, 0, 0, 0, 0)), []int{0}, 0)
}

func checkCheapest(t *testing.T, s impl.Sea, from int, want []int) {
	t.Helper()
	got, ok := impl.Cheapest(s, from)
	if !ok || !slices.Equal(got, want) {
		t.Error("from", from, got, ok, "not", want)
	}
}

func TestCheapestByHand(t *testing.T) {
	s := strait()
	checkCheapest(t, s, 0, []int{0, 9, 10, -1, -1, 2, -1, 13, -1, -1, 7, 8, 9, -1, -1})
	checkCheapest(t, s, 2, []int{10, 9, 0, -1, -1, 12, -1, 4, -1, -1, 11, 6, 5, -1, -1})
	checkCheapest(t, s, 4, []int{-1, -1, -1, -1, 0, -1, -1, -1, -1, 3, -1, -1, -1, -1, -1})
	checkCheapest(t, s, 9, []int{-1, -1, -1, -1, 2, -1, -1, -1, -1, 0, -1, -1, -1, -1, -1})
	for _, land := range []int{3, 6, 8, 13, 14} {
		checkCheapest(t, s, land, slices.Repeat([]int{-1}, 15))
	}
	checkCheapest(t, withShut(s, closed(0, 0, 11, 11, 0, 1000000)), 4, []int{-1, -1, -1, -1, 0, -1, -1, -1, -1, 3, -1, -1, -1, -1, -1})
	checkCheapest(t, openSea(1, 1, 1000), 0, []int{0})
	checkCheapest(t, openSea(1, 1, 0), 0, []int{-1})
	checkCheapest(t, openSea(4, 1, 3), 1, []int{3, 0, 3, 6})
	checkCheapest(t, openSea(1, 4, 3), 3, []int{9, 6, 3, 0})
	// What is near may be dear: the long way round is the cheaper one.
	checkCheapest(t, impl.Sea{Wide: 3, High: 3, Costs: []int{1, 1000, 1, 1, 1, 1, 1, 1, 1}}, 0, []int{0, 1000, 4, 1, 2, 3, 2, 3, 4})
}

// snaking leaves but one way from the first place to the last row's.
func snaking(cost int) impl.Sea {
	s := openSea(12, 12, cost)
	for y := 1; y < 11; y += 2 {
		for x := range 12 {
			if y%4 == 1 && x < 11 || y%4 == 3 && x > 0 {
				s.Costs[12*y+x] = 0
			}
		}
	}
	return s
}

func TestGreatestCosts(t *testing.T) {
	s := openSea(12, 12, 1000)
	got, _ := impl.Cheapest(s, 0)
	if got[143] != 22000 || !impl.Proves(s, 0, got) {
		t.Error("from corner to corner", got)
	}
	s = snaking(1000)
	got, _ = impl.Cheapest(s, 0)
	way, ok := impl.WayOf(s, 0, 120)
	if got[120] != 76000 || len(way) != 77 || !ok || !impl.Proves(s, 0, got) {
		t.Error("the snake", got[120], len(way), ok)
	}
	checkWayCost(t, s, way, 76000)
	if step, ok := impl.Quickest(s, 0, 120, 76); step != 76 || !ok {
		t.Error("the snake", step, ok)
	}
	if step, ok := impl.Quickest(s, 0, 120, 75); step != -1 || ok {
		t.Error("the snake, too short", step, ok)
	}
}

func TestProvesByHand(t *testing.T) {
	s := strait()
	right := []int{0, 9, 10, -1, -1, 2, -1, 13, -1, -1, 7, 8, 9, -1, -1}
	if !impl.Proves(s, 0, right) {
		t.Error("what is right is not proved")
	}
	for _, wrong := range proofsBeside(right) {
		if impl.Proves(s, 0, wrong) {
			t.Error("proved", wrong)
		}
	}
	for from := -1; from <= 15; from++ {
		if from != 0 && impl.Proves(s, from, right) {
			t.Error("proved from", from)
		}
	}
	for name, wrong := range map[string][]int{
		"only the start":               {0, -1, -1, -1, -1, -1, -1, -1, -1, -1, -1, -1, -1, -1, -1},
		"nothing":                      slices.Repeat([]int{-1}, 15),
		"all 0":                        slices.Repeat([]int{0}, 15),
		"all of one side too dear":     {0, 9, 10, -1, -1, 3, -1, 14, -1, -1, 8, 9, 10, -1, -1},
		"all one more":                 {1, 10, 11, -1, -1, 3, -1, 14, -1, -1, 8, 9, 10, -1, -1},
		"the long way":                 {0, 9, 14, -1, -1, 2, -1, 13, -1, -1, 7, 8, 9, -1, -1},
		"the lake is told as reached":  {0, 9, 10, -1, 2, 2, -1, 13, -1, 3, 7, 8, 9, -1, -1},
		"the lake is told as near":     {0, 9, 10, -1, 0, 2, -1, 13, -1, 3, 7, 8, 9, -1, -1},
		"land is told as reached":      {0, 9, 10, 10, -1, 2, 9, 13, 13, -1, 7, 8, 9, 9, -1},
		"costs with the first's added": {1, 10, 11, -1, -1, 3, -1, 14, -1, -1, 8, 9, 10, -1, -1},
	} {
		if impl.Proves(s, 0, wrong) {
			t.Error("proved", name)
		}
	}
	if !impl.Proves(withShut(s, closed(0, 0, 11, 11, 0, 9)), 0, right) {
		t.Error("Shut counts")
	}
}

// A sum of what is handed in must not wrap into what looks right.
func TestProvesGreatNumbers(t *testing.T) {
	s := impl.Sea{Wide: 4, High: 1, Costs: []int{1, 0, 5, 5}}
	for _, great := range []int{math.MaxInt, math.MaxInt - 5, math.MaxInt - 4, math.MinInt, math.MinInt + 4, 144000, 1 << 32, 1<<62 + 1} {
		for _, other := range []int{-1, 0, 5, great, great - 5, great + 5} {
			if impl.Proves(s, 0, []int{0, -1, great, other}) || impl.Proves(s, 0, []int{0, -1, other, great}) {
				t.Error("proved", great, other)
			}
			if impl.Proves(s, 3, []int{-1, -1, great, 0}) || impl.Proves(s, 3, []int{great, -1, 5, 0}) {
				t.Error("proved", great)
			}
		}
	}
	if !impl.Proves(s, 0, []int{0, -1, -1, -1}) || !impl.Proves(s, 3, []int{-1, -1, 5, 0}) {
		t.Error("what is right is not proved")
	}
}

// Of all costs that can be told of small seas, those of Cheapest are proved.
func TestProvesNothingElse(t *testing.T) {
	const low, high = -2, 5
	for kinds := range 81 {
		s := impl.Sea{Wide: 2, High: 2, Costs: []int{kinds % 3, kinds / 3 % 3, kinds / 9 % 3, kinds / 27}}
		for from := range 4 {
			right, _ := impl.Cheapest(s, from)
			count := 0
			for code := range 4096 {
				costs := []int{low + code%8, low + code/8%8, low + code/64%8, low + code/512}
				isRight := slices.Equal(costs, right) && s.Costs[from] != 0
				if got := impl.Proves(s, from, costs); got != isRight {
					t.Fatal(s.Costs, from, costs, "proved:", got)
				}
				if isRight {
					count++
				}
			}
			if want := min(1, s.Costs[from]); count != want {
				t.Fatal(s.Costs, from, "proofs:", count, "cost up to", high)
			}
		}
	}
}

func checkWayOf(t *testing.T, s impl.Sea, from, to int, want ...int) {
	t.Helper()
	got, ok := impl.WayOf(s, from, to)
	if !slices.Equal(got, want) || ok != (len(want) > 0) {
		t.Error("from", from, "to", to, got, ok, "not", want)
	}
}

func TestWayOfByHand(t *testing.T) {
	s := strait()
	checkWayOf(t, s, 0, 7, 0, 5, 10, 11, 12, 7)
	checkWayOf(t, s, 0, 2, 0, 1, 2)
	checkWayOf(t, s, 2, 5, 2, 1, 0, 5)
	checkWayOf(t, s, 4, 9, 4, 9)
	checkWayOf(t, s, 0, 0, 0)
	checkWayOf(t, s, 12, 12, 12)
	checkWayOf(t, openSea(1, 1, 1), 0, 0, 0)
	checkWayOf(t, openSea(1, 4, 1), 3, 0, 3, 2, 1, 0)
	checkWayOf(t, withShut(s, closed(0, 0, 11, 11, 0, 1000000)), 0, 2, 0, 1, 2)
	for _, pair := range [][2]int{{0, 4}, {4, 0}, {9, 12}, {0, 3}, {3, 0}, {3, 3}, {6, 6}, {3, 8}, {14, 14}, {2, 4}, {4, 2}} {
		checkWayOf(t, s, pair[0], pair[1])
	}
	checkWayOf(t, openSea(1, 1, 0), 0, 0)
}

func TestWayOfTakesTheLeastOnTheWayBack(t *testing.T) {
	open := openSea(3, 3, 1)
	checkWayOf(t, open, 0, 8, 0, 1, 2, 5, 8)
	checkWayOf(t, open, 8, 0, 8, 5, 2, 1, 0)
	checkWayOf(t, open, 2, 6, 2, 1, 0, 3, 6)
	checkWayOf(t, open, 6, 2, 6, 3, 0, 1, 2)
	checkWayOf(t, open, 4, 0, 4, 1, 0)
	checkWayOf(t, open, 4, 8, 4, 5, 8)
	checkWayOf(t, open, 3, 7, 3, 4, 7)
	checkWayOf(t, openSea(2, 2, 1000), 3, 0, 3, 1, 0)
	checkWayOf(t, openSea(2, 2, 1000), 1, 2, 1, 0, 2)
	// A ring whose left side costs as much as all the rest of it: the way on
	// from 0 would rather go by 1, the way back from 6 by 3.
	ring := impl.Sea{Wide: 3, High: 3, Costs: []int{1, 1, 1, 5, 0, 1, 1, 1, 1}}
	checkWayOf(t, ring, 0, 6, 0, 3, 6)
	checkWayOf(t, ring, 6, 0, 6, 7, 8, 5, 2, 1, 0)
	ring.Costs[3] = 6
	checkWayOf(t, ring, 0, 6, 0, 1, 2, 5, 8, 7, 6)
	ring.Costs[3] = 4
	checkWayOf(t, ring, 6, 0, 6, 3, 0)
}

func checkQuickest(t *testing.T, s impl.Sea, from, to, most, want int) {
	t.Helper()
	got, ok := impl.Quickest(s, from, to, most)
	if got != want || ok != (want >= 0) {
		t.Error("from", from, "to", to, "most", most, s.Shut, got, ok, "not", want)
	}
}

func TestQuickestByHand(t *testing.T) {
	s := strait()
	checkQuickest(t, s, 0, 2, 200, 2)
	checkQuickest(t, s, 0, 7, 200, 3)
	checkQuickest(t, s, 0, 12, 200, 4)
	checkQuickest(t, s, 4, 9, 1, 1)
	checkQuickest(t, s, 4, 9, 0, -1)
	checkQuickest(t, s, 0, 0, 0, 0)
	checkQuickest(t, s, 0, 0, 200, 0)
	checkQuickest(t, s, 0, 2, 2, 2)
	checkQuickest(t, s, 0, 2, 1, -1)
	for _, pair := range [][2]int{{0, 4}, {4, 0}, {0, 3}, {3, 0}, {3, 3}, {14, 14}, {3, 8}} {
		checkQuickest(t, s, pair[0], pair[1], 200, -1)
		checkQuickest(t, s, pair[0], pair[1], 0, -1)
	}
	checkQuickest(t, openSea(12, 12, 1000), 0, 143, 22, 22)
	checkQuickest(t, openSea(12, 12, 1000), 0, 143, 21, -1)
	checkQuickest(t, openSea(12, 12, 1000), 143, 0, 200, 22)
	checkQuickest(t, openSea(1, 1, 1), 0, 0, 0, 0)
	checkQuickest(t, openSea(1, 1, 0), 0, 0, 200, -1)
	checkQuickest(t, openSea(3, 2, 1), 2, 3, 200, 3)
}

func TestQuickestAcrossWhatIsClosed(t *testing.T) {
	row, square := openSea(3, 1, 1), openSea(2, 2, 1)
	for _, c := range []struct {
		s        impl.Sea
		from, to int
		most     int
		want     int
	}{
		{withShut(row, closed(0, 0, 0, 0, 0, 0)), 0, 2, 200, -1},
		{withShut(row, closed(0, 0, 0, 0, 0, 0)), 0, 0, 200, -1},
		{withShut(row, closed(0, 0, 0, 0, 0, 0)), 2, 0, 200, 2},
		{withShut(row, closed(0, 0, 0, 0, 1, 1000000)), 0, 0, 200, 0},
		{withShut(row, closed(0, 0, 0, 0, 1, 1000000)), 0, 2, 200, 2},
		{withShut(row, closed(2, 0, 2, 0, 0, 0)), 0, 2, 200, 2},
		{withShut(row, closed(2, 0, 2, 0, 2, 2)), 0, 2, 200, 3},
		{withShut(row, closed(2, 0, 2, 0, 3, 3)), 0, 2, 200, 2},
		{withShut(row, closed(2, 0, 2, 0, 0, 9)), 0, 2, 200, 10},
		{withShut(row, closed(2, 0, 2, 0, 0, 9)), 0, 2, 10, 10},
		{withShut(row, closed(2, 0, 2, 0, 0, 9)), 0, 2, 9, -1},
		{withShut(row, closed(1, 0, 1, 0, 0, 4)), 0, 2, 200, 6},
		{withShut(row, closed(1, 0, 1, 0, 0, 3), closed(1, 0, 1, 0, 5, 1000000)), 0, 2, 200, 5},
		{withShut(row, closed(1, 0, 1, 0, 0, 3), closed(1, 0, 1, 0, 5, 1000000)), 0, 2, 5, 5},
		{withShut(row, closed(1, 0, 1, 0, 0, 3), closed(1, 0, 1, 0, 5, 1000000)), 0, 2, 4, -1},
		{withShut(row, closed(1, 0, 1, 0, 0, 3), closed(1, 0, 1, 0, 5, 1000000), closed(2, 0, 2, 0, 0, 5)), 0, 2, 200, -1},
		{withShut(row, closed(1, 0, 1, 0, 0, 3), closed(1, 0, 1, 0, 6, 1000000), closed(2, 0, 2, 0, 0, 5)), 0, 2, 200, 6},
		{withShut(row, closed(0, 0, 0, 0, 1, 1), closed(1, 0, 1, 0, 1, 1)), 0, 2, 200, -1},
		{withShut(row, closed(0, 0, 1, 0, 2, 2)), 0, 2, 200, 2},
		{withShut(row, closed(0, 0, 2, 0, 2, 2)), 0, 2, 200, -1},
		{withShut(row, closed(0, 0, 11, 11, 3, 1000000)), 0, 2, 200, 2},
		{withShut(row, closed(2, 0, 2, 0, 0, 199)), 0, 2, 200, 200},
		{withShut(row, closed(2, 0, 2, 0, 0, 199)), 0, 2, 199, -1},
		{withShut(row, closed(2, 0, 2, 0, 0, 200)), 0, 2, 200, -1},
		{withShut(row, closed(2, 0, 2, 0, 0, 1000000)), 0, 2, 200, -1},
		{withShut(row, closed(0, 1, 11, 11, 0, 1000000), closed(3, 0, 11, 0, 0, 1000000)), 0, 2, 200, 2},
		// Who cannot stay goes round until the place is open again.
		{withShut(square, closed(0, 0, 0, 0, 1, 2), closed(1, 0, 1, 0, 1, 5), closed(0, 1, 0, 1, 2, 9)), 0, 1, 200, 6},
		{withShut(square, closed(0, 0, 0, 0, 1, 2), closed(1, 0, 1, 0, 1, 5), closed(0, 1, 1, 1, 2, 2)), 0, 1, 200, -1},
		{withShut(square, closed(0, 0, 0, 0, 1, 2), closed(1, 0, 1, 0, 1, 5), closed(0, 1, 0, 1, 3, 9)), 0, 1, 200, 6},
		{withShut(square, closed(1, 0, 1, 0, 1, 1), closed(0, 0, 0, 0, 1, 9)), 0, 1, 200, 3},
	} {
		checkQuickest(t, c.s, c.from, c.to, c.most, c.want)
	}
}

func TestDrawnSeas(t *testing.T) {
	d := &draws{state: 97}
	found := 0
	for range 400 {
		s := drawnSea(d)
		if !impl.SeaOk(s) {
			t.Fatal("not ok", s)
		}
		from, to := d.below(len(s.Costs)), d.below(len(s.Costs))
		checkCheapest(t, s, from, cheapest(s, from))
		want, _ := wayOf(s, from, to)
		checkWayOf(t, s, from, to, want...)
		most := []int{0, 1, 5, 20, 200, d.below(201)}[d.below(6)]
		step, ok := quickest(s, from, to, most)
		checkQuickest(t, s, from, to, most, step)
		if ok {
			found++
		}
		for range 5 {
			checkDrawnWay(t, s, drawnWay(d, s))
		}
		if t.Failed() {
			t.Fatal(s)
		}
	}
	if found < 100 || found > 350 {
		t.Error("quickest ways found", found)
	}
}

func checkDrawnWay(t *testing.T, s impl.Sea, way []int) {
	t.Helper()
	want, isWay := wayCost(s, way)
	if got, ok := impl.WayCost(s, way); got != want || ok != isWay {
		t.Error(way, "costs", got, ok, "not", want, isWay)
	}
	step, _ := wayShut(s, way)
	checkShut(t, s, way, step)
}

// Promise 7, the first part: what Cheapest tells is proved, and nothing beside.
func TestCheapestIsProved(t *testing.T) {
	d := &draws{state: 98}
	for range 150 {
		s := drawnSea(d)
		from := d.below(len(s.Costs))
		costs, ok := impl.Cheapest(s, from)
		if isSailed := s.Costs[from] != 0; !ok || impl.Proves(s, from, costs) != isSailed {
			t.Fatal("not proved", s, from, costs)
		}
		for _, wrong := range proofsBeside(costs) {
			if impl.Proves(s, from, wrong) {
				t.Fatal("proved", s, from, wrong, "beside", costs)
			}
		}
		for other := range costs {
			if other != from && impl.Proves(s, other, costs) {
				t.Fatal("proved from another place", s, from, other, costs)
			}
		}
	}
}

// Promise 7, the second part: the way told costs what is told, and none less.
func TestWayOfCostsTheCheapest(t *testing.T) {
	d := &draws{state: 99}
	for range 80 {
		s := drawnSea(d)
		from := d.below(len(s.Costs))
		costs, _ := impl.Cheapest(s, from)
		for to, cost := range costs {
			way, ok := impl.WayOf(s, from, to)
			if ok != (cost >= 0) || ok != (len(way) > 0) {
				t.Fatal("way", s, from, to, way, ok, cost)
			}
			if !ok {
				continue
			}
			if way[0] != from || way[len(way)-1] != to {
				t.Fatal("ends", s, from, to, way)
			}
			checkWayCost(t, s, way, cost)
		}
		for range 20 {
			way := drawnWay(d, s)
			if cost, ok := impl.WayCost(s, way); ok && way[0] == from && cost < costs[way[len(way)-1]] {
				t.Fatal("cheaper", s, way, cost)
			}
		}
		if t.Failed() {
			t.Fatal(s, from)
		}
	}
}

// leastOfAll tries each way that passes no place twice.
func leastOfAll(s impl.Sea, way []int, to int) int {
	cost, ok := impl.WayCost(s, way)
	if !ok {
		return -1
	}
	if way[len(way)-1] == to {
		return cost
	}
	least := -1
	for next := range s.Costs {
		if slices.Contains(way, next) {
			continue
		}
		if got := leastOfAll(s, append(slices.Clone(way), next), to); got >= 0 && (least < 0 || got < least) {
			least = got
		}
	}
	return least
}

func TestNoWayIsCheaper(t *testing.T) {
	d := &draws{state: 100}
	for range 40 {
		s := openSea(3, 3, 1)
		for place := range s.Costs {
			s.Costs[place] = max(0, d.between(-1, 5))
		}
		from := d.below(9)
		costs, _ := impl.Cheapest(s, from)
		for to, cost := range costs {
			if want := leastOfAll(s, []int{from}, to); cost != want {
				t.Fatal(s.Costs, from, to, cost, "not", want)
			}
		}
	}
}

// Promise 7, the third part.
func TestQuickestIsNeverSoonerThanThePlacesBetween(t *testing.T) {
	d := &draws{state: 101}
	for range 300 {
		s := drawnSea(d)
		from, to := d.below(len(s.Costs)), d.below(len(s.Costs))
		step, ok := impl.Quickest(s, from, to, 200)
		if ok && step < placesBetween(s, from, to) {
			t.Fatal("too soon", s, from, to, step)
		}
		free, isFree := impl.Quickest(withShut(s), from, to, 200)
		if ok && (!isFree || free > step) {
			t.Fatal("what is closed makes it sooner", s, from, to, step, free)
		}
		checkFree(t, s, from, to, free)
		for _, most := range []int{0, step - 1, step, step + 1, 199} {
			if !ok || most < 0 {
				continue
			}
			want := step
			if most < step {
				want = -1
			}
			checkQuickest(t, s, from, to, most, want)
		}
		if t.Failed() {
			t.Fatal(s)
		}
	}
}

// checkFree holds the quickest way where nothing is closed against the
// cheapest where each place costs 1.
func checkFree(t *testing.T, s impl.Sea, from, to, free int) {
	t.Helper()
	plain := withShut(s)
	plain.Costs = slices.Clone(s.Costs)
	for place := range plain.Costs {
		plain.Costs[place] = min(1, plain.Costs[place])
	}
	costs, _ := impl.Cheapest(plain, from)
	if costs[to] != free {
		t.Error("free", from, to, free, costs[to])
	}
	way, ok := impl.WayOf(plain, from, to)
	if _, isShut := impl.WayShut(withShut(plain, s.Shut...), way); ok && !isShut {
		checkQuickest(t, s, from, to, 200, len(way)-1)
	}
}
