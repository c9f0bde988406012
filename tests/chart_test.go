package tests

import (
	"math"
	"slices"
	"strings"
	"testing"

	"loop.example/g00059/impl"
)

func TestChartLimitsThatAreMet(t *testing.T) {
	long := strings.Repeat("x", 40)
	charts := map[string]impl.Chart{
		"bay":                      bay(),
		"one place":                sea(1, 1, 0),
		"one row":                  sea(12, 1, 0),
		"one column":               sea(1, 12, 0),
		"greatest":                 sea(12, 12, 0),
		"first depth least":        withDepth(0, -1000),
		"last depth least":         withDepth(5, -1000),
		"first depth greatest":     withDepth(0, 10000),
		"last depth greatest":      withDepth(5, 10000),
		"no features":              crowded(0),
		"one feature":              crowded(1),
		"all features but one":     crowded(29),
		"all features":             crowded(30),
		"least and greatest Id":    withFeatures(feature(1, 1, 0, 0, ""), feature(1000000, 9, 0, 0, "")),
		"Ids side by side":         withFeatures(feature(4, 1, 0, 0, ""), feature(5, 1, 0, 0, "")),
		"each corner":              withFeatures(feature(1, 1, 0, 0, ""), feature(2, 1, 2, 0, ""), feature(3, 1, 0, 1, ""), feature(4, 1, 2, 1, "")),
		"a text of 40 bytes":       withFeatures(feature(1, 1, 0, 0, long)),
		"40 bytes of 20 runes":     withFeatures(feature(1, 1, 0, 0, strings.Repeat("é", 20))),
		"bytes that are no runes":  withFeatures(feature(1, 1, 0, 0, strings.Repeat("\xff", 40))),
		"two of one kind and text": withFeatures(feature(1, 3, 1, 1, long), feature(2, 3, 1, 1, long)),
		"edition 0":                withEdition(0),
		"edition 10^6":             withEdition(1000000),
	}
	for name, c := range charts {
		if !impl.ChartOk(c) {
			t.Error(name)
		}
	}
	for kind := 1; kind <= 9; kind++ {
		if !impl.ChartOk(withFeatures(feature(7, kind, 1, 1, "buoy"))) {
			t.Error("kind", kind)
		}
	}
}

func TestDepthAtEachPlace(t *testing.T) {
	c := bay()
	for y, row := range [][]int{{5, 9, 3}, {7, 0, -4}} {
		for x, want := range row {
			if got, ok := impl.DepthAt(c, x, y); got != want || !ok {
				t.Error(x, y, got, ok, want)
			}
		}
	}
	great := sea(12, 12, 0)
	for place := range great.Depths {
		great.Depths[place] = place - 70
	}
	for _, corner := range [][3]int{{0, 0, -70}, {11, 0, -59}, {0, 11, 62}, {11, 11, 73}} {
		if got, ok := impl.DepthAt(great, corner[0], corner[1]); got != corner[2] || !ok {
			t.Error(corner, got, ok)
		}
	}
}

func checkDone(t *testing.T, name string, c impl.Chart, u impl.Update, want impl.Chart) {
	t.Helper()
	if got, code := impl.Apply6(c, u); code != impl.UpdDone || !sameChart(got, want) {
		t.Error(name, code, got, "asked for", want)
	}
}

func TestApplyEachNote(t *testing.T) {
	c := bay()
	want := bay()
	want.Edition = 8
	rock, light, wreck := c.Features[0], c.Features[1], c.Features[2]

	want.Features = []impl.Feature{rock, feature(4, 6, 1, 1, "buoy"), light, wreck}
	checkDone(t, "add between", c, update(8, adding(4, 6, 1, 1, "buoy")), want)
	want.Features = []impl.Feature{feature(1, 1, 2, 0, ""), rock, light, wreck, feature(1000000, 9, 0, 1, "x")}
	checkDone(t, "add at both ends", c, update(8, adding(1000000, 9, 0, 1, "x"), adding(1, 1, 2, 0, "")), want)

	want.Features = []impl.Feature{rock, wreck}
	checkDone(t, "drop", c, update(8, dropping(5)), want)
	want.Features = nil
	checkDone(t, "drop all", c, update(8, dropping(9), dropping(2), dropping(5)), want)

	want.Features = []impl.Feature{rock, feature(5, 9, 0, 1, ""), wreck}
	checkDone(t, "move", c, update(8, moving(5, 0, 1)), want)
	want.Features = []impl.Feature{rock, light, wreck}
	checkDone(t, "move to where it is", c, update(8, moving(9, 1, 0)), want)
	want.Features = []impl.Feature{rock, light, feature(9, 3, 0, 0, "wreck")}
	checkDone(t, "move twice, to where another is", c, update(8, moving(9, 2, 1), moving(9, 0, 0)), want)

	want.Features = c.Features
	want.Depths = []int{5, 9, 3, 7, 0, 10000}
	checkDone(t, "greatest depth", c, update(8, sounding(2, 1, 10000)), want)
	want.Depths = []int{5, 9, -1000, 7, 0, -4}
	checkDone(t, "least depth", c, update(8, sounding(2, 0, -1000)), want)
	want.Depths = []int{5, 9, 3, 6, 0, -4}
	checkDone(t, "the last depth counts", c, update(8, sounding(0, 1, 1), sounding(0, 1, 6)), want)
}

// What a note does not name is not looked at.
func TestApplyLooksAtWhatIsNamed(t *testing.T) {
	wild := impl.Note{Id: -3, X: -1, Y: 99, Depth: 20000, Text: strings.Repeat("z", 50), Sort: 77}
	c := bay()
	want := bay()
	want.Edition = 8

	n := wild
	n.Kind, n.Id, n.X, n.Y, n.Text, n.Sort = impl.NoteAdd, 11, 2, 0, "tower", 4
	want.Features = append(bay().Features, feature(11, 4, 2, 0, "tower"))
	checkDone(t, "add", c, update(8, n), want)

	n = wild
	n.Kind, n.Id = impl.NoteDrop, 9
	want.Features = bay().Features[:2]
	checkDone(t, "drop", c, update(8, n), want)

	n = wild
	n.Kind, n.Id, n.X, n.Y = impl.NoteMove, 9, 2, 1
	want.Features = append(bay().Features[:2], feature(9, 3, 2, 1, "wreck"))
	checkDone(t, "move", c, update(8, n), want)

	n = wild
	n.Kind, n.X, n.Y, n.Depth = impl.NoteDepth, 1, 1, 6
	want.Features = bay().Features
	want.Depths[4] = 6
	checkDone(t, "depth", c, update(8, n), want)
}

// Each note is done on what those ahead of it left.
func TestApplyNotesOneBehindTheOther(t *testing.T) {
	c := bay()
	want := bay()
	want.Edition = 8
	rock, light, wreck := c.Features[0], c.Features[1], c.Features[2]

	checkDone(t, "added and dropped", c, update(8, adding(4, 1, 0, 0, ""), dropping(4)), want)
	want.Features = []impl.Feature{rock, feature(4, 2, 2, 1, "b"), light, wreck}
	checkDone(t, "added, dropped and added", c, update(8, adding(4, 1, 0, 0, "a"), dropping(4), adding(4, 2, 2, 1, "b")), want)
	checkDone(t, "added and moved", c, update(8, adding(4, 2, 0, 0, "b"), moving(4, 2, 1)), want)
	want.Features = []impl.Feature{rock, feature(5, 1, 1, 1, "new"), wreck}
	checkDone(t, "dropped and added", c, update(8, dropping(5), adding(5, 1, 1, 1, "new")), want)
	want.Features = []impl.Feature{rock, wreck}
	checkDone(t, "moved and dropped", c, update(8, moving(5, 0, 0), dropping(5)), want)

	full := crowded(30)
	next := crowded(30)
	next.Edition = 1
	next.Features = append(next.Features[:29], feature(301, 1, 0, 0, ""))
	checkDone(t, "full, dropped and added", full, update(1, dropping(300), adding(301, 1, 0, 0, "")), next)
	next.Features = append(crowded(30).Features, feature(301, 1, 0, 0, ""))[1:]
	checkDone(t, "full, then the first is dropped", full, update(1, dropping(10), adding(301, 1, 0, 0, "")), next)
	next.Features = crowded(30).Features
	checkDone(t, "the last that there is room for", crowded(29), update(1, adding(300, next.Features[29].Kind, 5, 2, "")), next)
	next.Features[0].X = 11
	checkDone(t, "full and moved", full, update(1, moving(10, 11, 0)), next)
}

func TestApplyLimitsThatAreMet(t *testing.T) {
	want := sea(12, 12, 3)
	var list []impl.Note
	for i := range 20 {
		list = append(list, sounding(i%12, i/12, i))
		want.Depths[i] = i
	}
	want.Edition = 1
	checkDone(t, "20 notes", sea(12, 12, 3), update(1, list...), want)

	last := withEdition(1000000)
	checkDone(t, "edition 10^6", withEdition(999999), update(1000000, sounding(0, 0, 5)), last)
	first := withEdition(1)
	checkDone(t, "edition 1", withEdition(0), update(1, sounding(0, 0, 5)), first)

	one := sea(1, 1, 4)
	one.Edition = 1
	one.Features = []impl.Feature{feature(1, 9, 0, 0, strings.Repeat("x", 40))}
	checkDone(t, "the only place", sea(1, 1, 4), update(1, adding(1, 9, 0, 0, strings.Repeat("x", 40))), one)

	great := sea(12, 12, 0)
	for i, corner := range [][2]int{{0, 0}, {11, 0}, {0, 11}, {11, 11}} {
		next := sea(12, 12, 0)
		next.Edition = 1
		next.Features = []impl.Feature{feature(3, 1, corner[0], corner[1], "")}
		next.Depths[corner[1]*12+corner[0]] = i + 1
		u := update(1, adding(3, 1, 5, 5, ""), moving(3, corner[0], corner[1]), sounding(corner[0], corner[1], i+1))
		checkDone(t, "a corner", great, u, next)
		u = update(1, adding(3, 1, corner[0], corner[1], ""), sounding(corner[0], corner[1], i+1))
		checkDone(t, "a corner", great, u, next)
	}
}

func checkCatch(t *testing.T, name string, c impl.Chart, list []impl.Update, want impl.Chart, left ...int) {
	t.Helper()
	got, rest := impl.Catch(c, list)
	if !sameChart(got, want) || !slices.Equal(rest, left) {
		t.Error(name, got, rest, "asked for", want, left)
	}
}

// chain makes the editions behind the bay's, each of which needs the one ahead.
func chain() ([]impl.Update, impl.Chart) {
	end := bay()
	end.Edition = 12
	end.Depths[0] = 4
	end.Features = []impl.Feature{feature(4, 2, 2, 1, "again"), end.Features[1], end.Features[2]}
	return []impl.Update{
		update(8, adding(4, 1, 1, 1, "buoy"), sounding(0, 0, 1)),
		update(9, moving(4, 0, 0), sounding(0, 0, 2)),
		update(10, dropping(4), sounding(0, 0, 3)),
		update(11, adding(4, 2, 2, 1, "again"), sounding(0, 0, 4)),
		update(12, dropping(2)),
	}, end
}

func TestCatchInAnyOrder(t *testing.T) {
	list, end := chain()
	checkCatch(t, "none", bay(), nil, bay())
	checkCatch(t, "in order", bay(), list, end)
	back := slices.Clone(list)
	slices.Reverse(back)
	checkCatch(t, "the wrong way round", bay(), back, end)
	checkCatch(t, "all twice", bay(), slices.Concat(list, list), end, 5, 6, 7, 8, 9)
	checkCatch(t, "twice, the wrong way round first", bay(), slices.Concat(back, list), end, 5, 6, 7, 8, 9)
	checkCatch(t, "some twice", bay(), []impl.Update{list[3], list[0], list[3], list[0], list[2], list[4], list[1]}, end, 2, 3)
	checkCatch(t, "what was done already", end, list, end, 0, 1, 2, 3, 4)
}

func TestCatchLeavesWhatCannotBeDone(t *testing.T) {
	list, end := chain()
	third := bay()
	third.Edition = 9
	third.Depths[0] = 2
	third.Features = slices.Insert(third.Features, 1, feature(4, 1, 0, 0, "buoy"))
	checkCatch(t, "a gap", bay(), []impl.Update{list[4], list[1], list[3], list[0]}, third, 0, 2)
	checkCatch(t, "a gap at first", bay(), list[1:], bay(), 0, 1, 2, 3)

	// Of those that make one edition the first that can be done is done.
	wrong := update(10, dropping(4), dropping(4))
	checkCatch(t, "one that fails", bay(), append([]impl.Update{wrong}, list...), end, 0)
	checkCatch(t, "one that fails, behind", bay(), append(slices.Clone(list), wrong), end, 5)
	only := slices.Clone(list)
	only[2] = wrong
	checkCatch(t, "one that fails alone", bay(), only, third, 2, 3, 4)

	a, b := update(8, sounding(0, 0, 50)), update(8, sounding(0, 0, 60))
	first, second := withDepth(0, 50), withDepth(0, 60)
	first.Edition, second.Edition = 8, 8
	checkCatch(t, "two of one edition", bay(), []impl.Update{a, b}, first, 1)
	checkCatch(t, "two of one edition, turned about", bay(), []impl.Update{b, a}, second, 1)

	// Notes that fail at first and could be done once the one ahead is.
	needs := update(9, moving(4, 0, 0))
	early := update(8, moving(4, 0, 0))
	next := withFeatures(append(bay().Features, feature(20, 1, 0, 0, ""))...)
	next.Edition = 8
	checkCatch(t, "it comes too late", bay(), []impl.Update{early, needs, update(8, adding(20, 1, 0, 0, ""))}, next, 0, 1)
	next = withFeatures(bay().Features[0], feature(4, 1, 0, 0, ""), bay().Features[1], bay().Features[2])
	next.Edition = 9
	checkCatch(t, "it waits for its turn", bay(), []impl.Update{early, needs, update(8, adding(4, 1, 1, 1, ""))}, next, 0)
	checkCatch(t, "wrong numbers of notes", bay(), []impl.Update{update(8), list[0], update(9, slices.Repeat(notes{sounding(0, 0, 1)}, 21)...), list[1]}, third, 0, 2)
}

func TestCatchAtItsLimit(t *testing.T) {
	c := sea(2, 1, 0)
	var list []impl.Update
	for i := range 60 {
		list = append(list, update(i+1, sounding(i%2, 0, i+1)))
	}
	end := impl.Chart{Wide: 2, High: 1, Depths: []int{59, 60}, Edition: 60}
	checkCatch(t, "60", c, list, end)
	slices.Reverse(list)
	checkCatch(t, "60 the wrong way round", c, list, end)
	last := withEdition(1000000)
	checkCatch(t, "up to 10^6", withEdition(999999), []impl.Update{update(1000001, sounding(0, 0, 1)), update(1000000, sounding(0, 0, 5))}, last, 0)
}

func TestShoalsBelowANeed(t *testing.T) {
	c := bay() // 5 9 3 / 7 0 -4
	for need, want := range map[int][]int{
		10: {0, 1, 2, 3, 4, 5}, 9: {0, 2, 3, 4, 5}, 7: {0, 2, 4, 5}, 5: {2, 4, 5}, 4: {2, 4, 5}, 3: {4, 5},
		1: {4, 5}, 0: {5}, -3: {5}, -4: nil, -5: nil, -1000: nil, math.MinInt: nil, math.MaxInt: {0, 1, 2, 3, 4, 5},
	} {
		if got := impl.Shoals(c, need); !slices.Equal(got, want) {
			t.Error(need, got, want)
		}
	}
	for _, depth := range []int{-1000, 0, 10000} {
		all := sea(12, 12, depth)
		if got := impl.Shoals(all, depth); len(got) != 0 {
			t.Error(depth, got)
		}
		if got := impl.Shoals(all, depth+1); len(got) != 144 || got[0] != 0 || got[143] != 143 || !slices.IsSorted(got) {
			t.Error(depth, got)
		}
	}
}

func TestNearestFirst(t *testing.T) {
	c := sea(12, 12, 0)
	c.Features = []impl.Feature{
		feature(3, 1, 11, 11, ""), feature(4, 1, 5, 5, ""), feature(6, 2, 6, 5, ""), feature(7, 1, 5, 4, ""),
		feature(8, 1, 4, 4, ""), feature(9, 1, 4, 5, ""), feature(12, 5, 5, 5, ""), feature(20, 1, 0, 0, ""),
	}
	for _, ask := range []struct {
		x, y, far int
		want      []int
	}{
		{5, 5, 0, []int{4, 12}},
		{5, 5, 1, []int{4, 12, 6, 7, 9}},
		{5, 5, 2, []int{4, 12, 6, 7, 9, 8}},
		{5, 5, 9, []int{4, 12, 6, 7, 9, 8}},
		{5, 5, 10, []int{4, 12, 6, 7, 9, 8, 20}},
		{5, 5, 12, []int{4, 12, 6, 7, 9, 8, 20, 3}},
		{5, 5, 100, []int{4, 12, 6, 7, 9, 8, 20, 3}},
		{0, 0, 0, []int{20}},
		{0, 0, 8, []int{20, 8}},
		{0, 0, 9, []int{20, 8, 7, 9}},
		{0, 0, 21, []int{20, 8, 7, 9, 4, 12, 6}},
		{0, 0, 22, []int{20, 8, 7, 9, 4, 12, 6, 3}},
		{11, 11, 0, []int{3}},
		{11, 0, 9, nil},
		{11, 0, 10, []int{6, 7}},
		{11, 0, 11, []int{6, 7, 3, 4, 8, 12, 20}},
		{0, 11, 100, []int{9, 3, 4, 8, 12, 20, 6, 7}},
		{11, 0, 100, []int{6, 7, 3, 4, 8, 12, 20, 9}},
	} {
		if got := impl.Near6(c, ask.x, ask.y, ask.far); !slices.Equal(got, ask.want) {
			t.Error(ask.x, ask.y, ask.far, got, ask.want)
		}
	}
	if got := impl.Near6(sea(3, 3, 0), 1, 1, 100); len(got) != 0 {
		t.Error("nothing stands there", got)
	}
}

func TestDrawnChartsAndUpdates(t *testing.T) {
	d := &draws{state: 91}
	codes := map[int]int{}
	for range 4000 {
		c := drawnChart(d)
		if !impl.ChartOk(c) || !chartOk(c) {
			t.Fatal("drawn charts are right", c)
		}
		u := drawnUpdate(d, c)
		want, code := applied(c, u)
		got, told := impl.Apply6(c, u)
		if told != code || !sameChart(got, want) {
			t.Fatal(c, u, got, told, "asked for", want, code)
		}
		if !impl.ChartOk(got) {
			t.Fatal("an update leaves a chart that is not right", c, u, got)
		}
		codes[code]++
	}
	for code, many := range []int{1000, 50, 50, 50, 300} {
		if codes[code] < many {
			t.Error("too few of one code are drawn", codes)
		}
	}
}

func TestDrawnShoalsAndFeatures(t *testing.T) {
	d := &draws{state: 92}
	for range 600 {
		c := drawnChart(d)
		for _, need := range []int{-1000, -999, 0, d.below(20), d.between(-1000, 10000), 10000, 10001} {
			if got, want := impl.Shoals(c, need), shoals(c, need); !slices.Equal(got, want) {
				t.Fatal(c, need, got, want)
			}
		}
		x, y := d.below(c.Wide), d.below(c.High)
		for _, far := range []int{0, 1, 2, d.below(23), 22, 100} {
			if got, want := impl.Near6(c, x, y, far), near(c, x, y, far); !slices.Equal(got, want) {
				t.Fatal(c, x, y, far, got, want)
			}
		}
	}
}

// drawnChain makes updates that can be done one behind the other.
func drawnChain(d *draws, c impl.Chart, most int) ([]impl.Update, impl.Chart) {
	var list []impl.Update
	for tries := 0; len(list) < most && tries < 3*most; tries++ {
		u := drawnUpdate(d, c)
		if next, code := impl.Apply6(c, u); code == impl.UpdDone {
			list, c = append(list, u), next
		}
	}
	return list, c
}

// Promise 6: whatever the order, and however often.
func TestUpdatesInWhateverOrder(t *testing.T) {
	d := &draws{state: 93}
	for range 150 {
		c := drawnChart(d)
		list, end := drawnChain(d, c, d.between(1, 20))
		for range 6 {
			order := shuffled(d, list)
			if got, left := impl.Catch(c, order); !sameChart(got, end) || len(left) != 0 {
				t.Fatal("once each", c, order, got, left, end)
			}
			often := shuffled(d, slices.Concat(list, order[:d.below(len(list)+1)], list))
			got, left := impl.Catch(c, often)
			if !sameChart(got, end) || len(left) != len(often)-len(list) || !slices.IsSorted(left) {
				t.Fatal("more than once", c, often, got, left, end)
			}
			if again, rest := impl.Catch(got, often); !sameChart(again, end) || len(rest) != len(often) {
				t.Fatal("again", c, often, again, rest, end)
			}
			// In two goes it comes to the same.
			cut := d.below(len(often) + 1)
			half, _ := impl.Catch(c, often[:cut])
			if again, _ := impl.Catch(half, often); !sameChart(again, end) {
				t.Fatal("in two goes", c, often, cut, again, end)
			}
		}
	}
}

func TestDrawnCatches(t *testing.T) {
	d := &draws{state: 94}
	for range 400 {
		c := drawnChart(d)
		list, _ := drawnChain(d, c, d.between(0, 15))
		for range d.below(12) {
			u := drawnUpdate(d, c)
			u.Edition = c.Edition + d.between(-1, 12)
			list = append(list, u)
		}
		list = shuffled(d, list)
		if d.below(4) == 0 && len(list) > 0 {
			list = slices.Repeat(list, 60)[:d.between(59, 62)]
		}
		want, left := caught(c, list)
		if got, rest := impl.Catch(c, list); !sameChart(got, want) || !slices.Equal(rest, left) {
			t.Fatal(c, list, got, rest, "asked for", want, left)
		}
	}
}

// Promise 6: what is refused changes nothing, and the next one that comes is
// taken as if nothing had been.
func TestRefusedUpdatesChangeNothing(t *testing.T) {
	d := &draws{state: 95}
	for range 600 {
		c := drawnChart(d)
		list, end := drawnChain(d, c, 6)
		now := c
		for _, u := range list {
			for _, wrong := range []impl.Update{
				update(now.Edition+1, append(slices.Clone(u.Notes[:d.below(len(u.Notes))]), impl.Note{Kind: 5})...),
				update(now.Edition, u.Notes...), update(now.Edition+2, u.Notes...), update(u.Edition),
			} {
				got, code := impl.Apply6(now, wrong)
				if code == impl.UpdDone || !sameChart(got, now) {
					t.Fatal(now, wrong, got, code)
				}
				now = got
			}
			now, _ = impl.Apply6(now, u)
		}
		if !sameChart(now, end) {
			t.Fatal(c, list, now, end)
		}
	}
}
