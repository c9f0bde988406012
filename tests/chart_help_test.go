package tests

import (
	"cmp"
	"slices"
	"strings"

	"loop.example/g00059/impl"
)

type notes = []impl.Note

// bay has unlike sides, depths and features, the Ids of which leave room.
func bay() impl.Chart {
	return impl.Chart{
		Wide: 3, High: 2, Depths: []int{5, 9, 3, 7, 0, -4},
		Features: []impl.Feature{feature(2, 1, 0, 0, "rock"), feature(5, 9, 2, 1, ""), feature(9, 3, 1, 0, "wreck")},
		Edition:  7,
	}
}

// sea has one depth all over, and nothing stands on it.
func sea(wide, high, depth int) impl.Chart {
	return impl.Chart{Wide: wide, High: high, Depths: slices.Repeat([]int{depth}, max(0, wide*high))}
}

// crowded has so many features, with the Ids 10, 20 and on, all over the grid.
func crowded(count int) impl.Chart {
	c := sea(12, 12, 8)
	for i := range count {
		c.Features = append(c.Features, feature(10*(i+1), 1+i%9, i%12, i/12, ""))
	}
	return c
}

func withFeatures(list ...impl.Feature) impl.Chart {
	c := bay()
	c.Features = list
	return c
}

func withDepth(place, depth int) impl.Chart {
	c := bay()
	c.Depths[place] = depth
	return c
}

func withEdition(edition int) impl.Chart {
	c := bay()
	c.Edition = edition
	return c
}

func feature(id, kind, x, y int, text string) impl.Feature {
	return impl.Feature{Id: id, Kind: kind, X: x, Y: y, Text: text}
}

func update(edition int, list ...impl.Note) impl.Update {
	return impl.Update{Edition: edition, Notes: list}
}

func adding(id, sort, x, y int, text string) impl.Note {
	return impl.Note{Kind: 1, Id: id, X: x, Y: y, Sort: sort, Text: text}
}

func dropping(id int) impl.Note { return impl.Note{Kind: 2, Id: id} }

func moving(id, x, y int) impl.Note { return impl.Note{Kind: 3, Id: id, X: x, Y: y} }

func sounding(x, y, depth int) impl.Note { return impl.Note{Kind: 4, X: x, Y: y, Depth: depth} }

func sameChart(a, b impl.Chart) bool {
	return a.Wide == b.Wide && a.High == b.High && a.Edition == b.Edition &&
		slices.Equal(a.Depths, b.Depths) && slices.Equal(a.Features, b.Features)
}

func cloneChart(c impl.Chart) impl.Chart {
	c.Depths, c.Features = slices.Clone(c.Depths), slices.Clone(c.Features)
	return c
}

func chartOk(c impl.Chart) bool {
	if c.Wide < 1 || c.Wide > 12 || c.High < 1 || c.High > 12 || len(c.Depths) != c.Wide*c.High {
		return false
	}
	if slices.Min(c.Depths) < -1000 || slices.Max(c.Depths) > 10000 || len(c.Features) > 30 {
		return false
	}
	ids := map[int]int{}
	for _, f := range c.Features {
		if !featureOk(c, f) {
			return false
		}
		ids[f.Id]++
	}
	byId := func(a, b impl.Feature) int { return a.Id - b.Id }
	return len(ids) == len(c.Features) && slices.IsSortedFunc(c.Features, byId) && c.Edition >= 0 && c.Edition <= 1000000
}

func featureOk(c impl.Chart, f impl.Feature) bool {
	return f.Id >= 1 && f.Id <= 1000000 && f.Kind >= 1 && f.Kind <= 9 && placeOk(c, f.X, f.Y) && len(f.Text) <= 40
}

func placeOk(c impl.Chart, x, y int) bool { return x >= 0 && x < c.Wide && y >= 0 && y < c.High }

// noted does one note on a chart of its own, whose features are in any order.
func noted(c *impl.Chart, n impl.Note) bool {
	at := slices.IndexFunc(c.Features, func(f impl.Feature) bool { return f.Id == n.Id })
	switch n.Kind {
	case 1:
		f := feature(n.Id, n.Sort, n.X, n.Y, n.Text)
		c.Features = append(c.Features, f)
		return at < 0 && featureOk(*c, f) && len(c.Features) <= 30
	case 2:
		if at >= 0 {
			c.Features = slices.Delete(c.Features, at, at+1)
		}
		return at >= 0
	case 3:
		if at >= 0 {
			c.Features[at].X, c.Features[at].Y = n.X, n.Y
		}
		return at >= 0 && placeOk(*c, n.X, n.Y)
	case 4:
		if placeOk(*c, n.X, n.Y) {
			c.Depths[n.Y*c.Wide+n.X] = n.Depth
		}
		return placeOk(*c, n.X, n.Y) && n.Depth >= -1000 && n.Depth <= 10000
	}
	return false
}

// applied holds the features in a list, and sorts that in the end.
func applied(c impl.Chart, u impl.Update) (impl.Chart, int) {
	if !chartOk(c) || len(u.Notes) < 1 || len(u.Notes) > 20 {
		return c, 1
	}
	if u.Edition <= c.Edition {
		return c, 2
	}
	if u.Edition != c.Edition+1 {
		return c, 3
	}
	next := cloneChart(c)
	next.Edition = u.Edition
	for _, n := range u.Notes {
		if !noted(&next, n) {
			return c, 4
		}
	}
	if next.Edition > 1000000 {
		return c, 4
	}
	slices.SortFunc(next.Features, func(a, b impl.Feature) int { return cmp.Compare(a.Id, b.Id) })
	return next, 0
}

// caught goes up edition by edition: of the updates that make one, the first
// that can be done is.
func caught(c impl.Chart, list []impl.Update) (impl.Chart, []int) {
	if len(list) > 60 {
		return c, nil
	}
	used := map[int]int{}
	for isUp := true; isUp; {
		isUp = false
		for i, u := range list {
			if next, code := applied(c, u); code == 0 && !isUp {
				c, isUp = next, true
				used[i] = 1
			}
		}
	}
	var left []int
	for i := range list {
		if used[i] == 0 {
			left = append(left, i)
		}
	}
	return c, left
}

func shoals(c impl.Chart, need int) []int {
	var told []int
	for y := range c.High {
		for x := range c.Wide {
			if depth, ok := impl.DepthAt(c, x, y); ok && depth < need {
				told = append(told, y*c.Wide+x)
			}
		}
	}
	return told
}

// near goes outwards, a step at a time.
func near(c impl.Chart, x, y, far int) []int {
	var told []int
	for away := range far + 1 {
		for _, f := range c.Features {
			if max(f.X-x, x-f.X)+max(f.Y-y, y-f.Y) == away {
				told = append(told, f.Id)
			}
		}
	}
	return told
}

func drawnChart(d *draws) impl.Chart {
	sides := []int{1, 2, 3, 5, d.between(1, impl.MaxSide), impl.MaxSide}
	c := sea(sides[d.below(6)], sides[d.below(6)], 0)
	for place := range c.Depths {
		c.Depths[place] = []int{-1000, 10000, d.between(0, 20), d.between(-1000, 10000)}[d.below(4)]
	}
	for id := 1; id <= 60 && len(c.Features) < impl.MaxFeatures; id++ {
		if d.below(3) != 0 {
			c.Features = append(c.Features, feature(id, d.between(1, 9), d.below(c.Wide), d.below(c.High), drawnText(d, 40)))
		}
	}
	c.Features = c.Features[:[]int{0, len(c.Features) / 3, len(c.Features)}[d.below(3)]]
	c.Edition = []int{0, 7, 999999, 1000000, d.below(1000001)}[d.below(5)]
	return c
}

func drawnText(d *draws, most int) string {
	return strings.Repeat([]string{"", "a", "\xff", " "}[d.below(4)], []int{1, most, d.below(most + 1)}[d.below(3)])
}

// drawnNote is seldom wrong, but for its Id, which may be there or not.
func drawnNote(d *draws, c impl.Chart) impl.Note {
	id := d.between(1, 62)
	if len(c.Features) > 0 && d.below(2) == 0 {
		id = c.Features[d.below(len(c.Features))].Id
	}
	n := impl.Note{
		Kind: d.between(1, 4), Id: id, X: d.below(c.Wide), Y: d.below(c.High),
		Depth: d.between(-1000, 10000), Text: drawnText(d, 40), Sort: d.between(1, 9),
	}
	switch d.below(80) {
	case 0:
		n.Kind = []int{0, 5, -1}[d.below(3)]
	case 1:
		n.X = []int{-1, c.Wide}[d.below(2)]
	case 2:
		n.Y = []int{-1, c.High}[d.below(2)]
	case 3:
		n.Depth = []int{-1001, 10001}[d.below(2)]
	case 4:
		n.Sort = []int{0, 10}[d.below(2)]
	case 5:
		n.Text = strings.Repeat("b", 41)
	case 6:
		n.Id = []int{0, 1, 1000000, 1000001}[d.below(4)]
	}
	return n
}

// drawnUpdate has mostly notes that can be done one behind the other.
func drawnUpdate(d *draws, c impl.Chart) impl.Update {
	u := update(c.Edition + 1)
	trial := cloneChart(c)
	for range []int{1, 2, 5, 20, d.between(1, 20)}[d.below(5)] {
		n := drawnNote(d, trial)
		for range 9 {
			if probe := cloneChart(trial); noted(&probe, n) {
				trial = probe
				break
			}
			n = drawnNote(d, trial)
		}
		u.Notes = append(u.Notes, n)
	}
	switch d.below(20) {
	case 0:
		u.Edition += d.between(-3, 3)
	case 1:
		u.Notes = slices.Repeat(u.Notes, 21)[:[]int{0, 21}[d.below(2)]]
	}
	return u
}

func shuffled[T any](d *draws, list []T) []T {
	list = slices.Clone(list)
	for i := range list {
		other := d.between(i, len(list)-1)
		list[i], list[other] = list[other], list[i]
	}
	return list
}
