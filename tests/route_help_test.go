package tests

import (
	"math"
	"slices"

	"loop.example/g00059/impl"
)

type shuts = []impl.Closed

// strait has land, two ways round it, and a lake of its own at its right end:
//
//	1 9 1 0 2
//	2 0 4 0 3
//	5 1 1 0 0
func strait() impl.Sea {
	return impl.Sea{Wide: 5, High: 3, Costs: []int{1, 9, 1, 0, 2, 2, 0, 4, 0, 3, 5, 1, 1, 0, 0}}
}

// openSea has one cost all over, and nothing is closed.
func openSea(wide, high, cost int) impl.Sea {
	return impl.Sea{Wide: wide, High: high, Costs: slices.Repeat([]int{cost}, max(0, wide*high))}
}

func closed(x0, y0, x1, y1, from, to int) impl.Closed {
	return impl.Closed{X0: x0, Y0: y0, X1: x1, Y1: y1, From: from, To: to}
}

func withShut(s impl.Sea, list ...impl.Closed) impl.Sea {
	s.Shut = list
	return s
}

func withCost(s impl.Sea, place, cost int) impl.Sea {
	s.Costs = slices.Clone(s.Costs)
	s.Costs[place] = cost
	return s
}

// besideEach tells for each place its neighbours, by rows and columns.
func besideEach(s impl.Sea) [][]int {
	var all [][]int
	for y := range s.High {
		for x := range s.Wide {
			var list []int
			for _, by := range [][2]int{{1, 0}, {0, 1}, {-1, 0}, {0, -1}} {
				if nx, ny := x+by[0], y+by[1]; nx >= 0 && nx < s.Wide && ny >= 0 && ny < s.High {
					list = append(list, ny*s.Wide+nx)
				}
			}
			all = append(all, list)
		}
	}
	return all
}

// closedAt paints the places that are closed at a step.
func closedAt(s impl.Sea, step int) []bool {
	painted := make([]bool, s.Wide*s.High)
	for _, c := range s.Shut {
		if step < c.From || step > c.To {
			continue
		}
		for y := c.Y0; y <= c.Y1 && y < s.High; y++ {
			for x := c.X0; x <= c.X1 && x < s.Wide; x++ {
				painted[y*s.Wide+x] = true
			}
		}
	}
	return painted
}

func wayCost(s impl.Sea, way []int) (int, bool) {
	if len(way) == 0 || len(way) > 200 {
		return 0, false
	}
	beside := besideEach(s)
	sum := 0
	for i, place := range way {
		if place < 0 || place >= len(beside) || s.Costs[place] == 0 {
			return 0, false
		}
		if i > 0 && !slices.Contains(beside[place], way[i-1]) {
			return 0, false
		}
		if i > 0 {
			sum += s.Costs[place]
		}
	}
	return sum, true
}

func wayShut(s impl.Sea, way []int) (int, bool) {
	if _, ok := wayCost(s, way); !ok {
		return -1, false
	}
	for step, place := range way {
		if closedAt(s, step)[place] {
			return step, true
		}
	}
	return -1, false
}

// cheapest betters all places by their neighbours, until nothing is better.
func cheapest(s impl.Sea, from int) []int {
	beside := besideEach(s)
	costs := slices.Repeat([]int{-1}, len(s.Costs))
	if s.Costs[from] == 0 {
		return costs
	}
	costs[from] = 0
	for isBetter := true; isBetter; {
		isBetter = false
		for place, list := range beside {
			for _, ahead := range list {
				if costs[ahead] < 0 || s.Costs[place] == 0 {
					continue
				}
				if cost := costs[ahead] + s.Costs[place]; costs[place] < 0 || cost < costs[place] {
					costs[place], isBetter = cost, true
				}
			}
		}
	}
	return costs
}

// wayOf goes back over cheapest places, and sorts who may be the next.
func wayOf(s impl.Sea, from, to int) ([]int, bool) {
	costs := cheapest(s, from)
	if costs[to] < 0 {
		return nil, false
	}
	beside := besideEach(s)
	way := []int{to}
	for way[0] != from {
		list := slices.Sorted(slices.Values(beside[way[0]]))
		at := slices.IndexFunc(list, func(ahead int) bool {
			return costs[ahead] >= 0 && costs[ahead]+s.Costs[way[0]] == costs[way[0]]
		})
		way = append([]int{list[at]}, way...)
	}
	return way, true
}

// quickest tells for each step where one can be, and looks for to in the end.
func quickest(s impl.Sea, from, to, most int) (int, bool) {
	beside := besideEach(s)
	here := map[int]int{from: 1}
	for step := 0; step <= most; step++ {
		shut := closedAt(s, step)
		next := map[int]int{}
		for place := range here {
			if s.Costs[place] == 0 || shut[place] {
				continue
			}
			if place == to {
				return step, true
			}
			next[place]++
			for _, other := range beside[place] {
				next[other]++
			}
		}
		here = next
	}
	return -1, false
}

// placesBetween is how many steps lie between two places of open water.
func placesBetween(s impl.Sea, a, b int) int {
	return max(a%s.Wide-b%s.Wide, b%s.Wide-a%s.Wide) + max(a/s.Wide-b/s.Wide, b/s.Wide-a/s.Wide)
}

func drawnSea(d *draws) impl.Sea {
	sides := []int{1, 2, 3, 4, d.between(1, impl.MaxSide), impl.MaxSide}
	s := openSea(sides[d.below(6)], sides[d.below(6)], 1)
	most := []int{1, 2, 3, 20, 1000}[d.below(5)]
	land := []int{0, 10, 25, 40}[d.below(4)]
	for place := range s.Costs {
		s.Costs[place] = d.between(1, most)
		if d.below(100) < land {
			s.Costs[place] = 0
		}
	}
	for range []int{0, 1, 3, 10}[d.below(4)] {
		s.Shut = append(s.Shut, drawnClosed(d, s))
	}
	return s
}

// drawnClosed lies mostly on the sea, for some steps or for good.
func drawnClosed(d *draws, s impl.Sea) impl.Closed {
	c := closed(d.below(s.Wide), d.below(s.High), 0, 0, d.below(12), 0)
	c.X1 = min(impl.MaxSide-1, c.X0+[]int{0, 0, 1, 11}[d.below(4)])
	c.Y1 = min(impl.MaxSide-1, c.Y0+[]int{0, 0, 1, 11}[d.below(4)])
	c.To = c.From + []int{0, 1, 3, d.below(30), 900000}[d.below(5)]
	return c
}

// drawnWay strolls over a sea, and may be wrong at one place.
func drawnWay(d *draws, s impl.Sea) []int {
	beside := besideEach(s)
	way := []int{d.below(len(s.Costs))}
	for range []int{0, 1, 2, 5, d.below(40), 199}[d.below(6)] {
		open := slices.DeleteFunc(slices.Clone(beside[way[len(way)-1]]), func(place int) bool { return s.Costs[place] == 0 })
		if len(open) == 0 {
			break
		}
		way = append(way, open[d.below(len(open))])
	}
	if d.below(4) == 0 {
		way[d.below(len(way))] = d.between(-1, len(s.Costs))
	}
	return way
}

// proofsBeside are the costs with one of them another, or none.
func proofsBeside(costs []int) [][]int {
	var all [][]int
	for place, cost := range costs {
		for _, other := range []int{cost - 1, cost + 1, -2, -1, 0, 1, cost + 1000, 144000, math.MinInt, math.MaxInt} {
			if other != cost {
				wrong := slices.Clone(costs)
				wrong[place] = other
				all = append(all, wrong)
			}
		}
	}
	return append(all, nil, costs[:len(costs)-1], costs[1:], append(slices.Clone(costs), -1), append(slices.Clone(costs), 0), append([]int{0}, costs...))
}
