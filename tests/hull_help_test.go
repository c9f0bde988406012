package tests

import (
	"math"
	"slices"

	"loop.example/g00059/impl"
)

// draws tells the same numbers in each run, so that a failure comes back.
type draws struct{ state uint64 }

func (d *draws) below(n int) int {
	d.state = d.state*6364136223846793005 + 1442695040888963407
	return int(d.state>>33) % n
}

func (d *draws) between(low, high int) int { return low + d.below(high-low+1) }

func drawnHull(d *draws) impl.Hull {
	h := impl.Hull{Step: d.between(1, 100), Rise: d.between(1, 20)}
	waters := d.between(2, impl.MaxWaters)
	for range d.between(2, impl.MaxStations) {
		row := make([]int, waters)
		for w := range row {
			row[w] = max(0, d.between(-20, impl.MaxHalf))
		}
		h.Half = append(h.Half, row)
	}
	return h
}

// someHulls are boxes at both ends of all limits, and drawn hulls of all sizes.
func someHulls() []impl.Hull {
	list := []impl.Hull{
		unlike(),
		box(2, 2, 1, 1, 0),
		box(2, 2, 1, 1, impl.MaxHalf),
		box(2, impl.MaxWaters, 1, 20, 1),
		box(impl.MaxStations, 2, 100, 1, 1),
		box(impl.MaxStations, impl.MaxWaters, 100, 20, impl.MaxHalf),
	}
	d := &draws{state: 1}
	for range 300 {
		list = append(list, drawnHull(d))
	}
	return list
}

// box is a hull with one half-breadth all over.
func box(stations, waters, step, rise, half int) impl.Hull {
	h := impl.Hull{Step: step, Rise: rise}
	for range stations {
		h.Half = append(h.Half, slices.Repeat([]int{half}, waters))
	}
	return h
}

// unlike is a hull whose numbers tell apart both ends and all water lines.
func unlike() impl.Hull {
	return impl.Hull{Step: 3, Rise: 2, Half: [][]int{{0, 1, 2}, {4, 5, 7}, {1, 3, 3}}}
}

func withHalf(h impl.Hull, s, w, half int) impl.Hull {
	h.Half[s][w] = half
	return h
}

// wrongHulls pass one limit each, most of them by one.
func wrongHulls() map[string]impl.Hull {
	return map[string]impl.Hull{
		"empty":                      {},
		"no stations":                {Step: 1, Rise: 1},
		"no stations, but a list":    {Step: 1, Rise: 1, Half: [][]int{}},
		"one station":                box(1, 3, 1, 1, 1),
		"a station too many":         box(impl.MaxStations+1, 3, 1, 1, 1),
		"no water lines":             box(3, 0, 1, 1, 1),
		"stations that are nil":      {Step: 1, Rise: 1, Half: [][]int{nil, nil}},
		"one water line":             box(3, 1, 1, 1, 1),
		"a water line too many":      box(3, impl.MaxWaters+1, 1, 1, 1),
		"step 0":                     box(3, 3, 0, 1, 1),
		"step below 0":               box(3, 3, -1, 1, 1),
		"step 101":                   box(3, 3, 101, 1, 1),
		"least step":                 box(3, 3, math.MinInt, 1, 1),
		"greatest step":              box(3, 3, math.MaxInt, 1, 1),
		"rise 0":                     box(3, 3, 1, 0, 1),
		"rise below 0":               box(3, 3, 1, -1, 1),
		"rise 21":                    box(3, 3, 1, 21, 1),
		"least rise":                 box(3, 3, 1, math.MinInt, 1),
		"greatest rise":              box(3, 3, 1, math.MaxInt, 1),
		"first half-breadth below 0": withHalf(box(3, 3, 1, 1, 1), 0, 0, -1),
		"last half-breadth below 0":  withHalf(box(3, 3, 1, 1, 1), 2, 2, -1),
		"first half-breadth 51":      withHalf(box(3, 3, 1, 1, 1), 0, 0, impl.MaxHalf+1),
		"middle half-breadth 51":     withHalf(box(3, 3, 1, 1, 1), 1, 1, impl.MaxHalf+1),
		"last half-breadth 51":       withHalf(box(3, 3, 1, 1, 1), 2, 2, impl.MaxHalf+1),
		"least half-breadth":         withHalf(box(3, 3, 1, 1, 1), 1, 0, math.MinInt),
		"greatest half-breadth":      withHalf(box(3, 3, 1, 1, 1), 1, 0, math.MaxInt),
		"first station shorter":      {Step: 1, Rise: 1, Half: [][]int{{1, 2}, {1, 2, 3}, {1, 2, 3}}},
		"first station longer":       {Step: 1, Rise: 1, Half: [][]int{{1, 2, 3}, {1, 2}, {1, 2}}},
		"middle station shorter":     {Step: 1, Rise: 1, Half: [][]int{{1, 2, 3}, {1, 2}, {1, 2, 3}}},
		"last station shorter":       {Step: 1, Rise: 1, Half: [][]int{{1, 2, 3}, {1, 2, 3}, {1, 2}}},
		"last station longer":        {Step: 1, Rise: 1, Half: [][]int{{1, 2}, {1, 2}, {1, 2, 3}}},
		"last station empty":         {Step: 1, Rise: 1, Half: [][]int{{1, 2}, {1, 2}, {}}},
		"first station nil":          {Step: 1, Rise: 1, Half: [][]int{nil, {1, 2}, {1, 2}}},
	}
}

// wrongWaters are no water lines of a hull with so many.
func wrongWaters(waters int) []int {
	return []int{-1, -2, waters, waters + 1, math.MinInt, math.MaxInt}
}
