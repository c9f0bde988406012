package tests

import (
	"fmt"
	"math"
	"slices"
	"strings"
	"testing"

	"loop.example/g00059/impl"
)

// Promise 24: each function of charts answers, and a wrong input has one fixed
// answer.

// wrongCharts pass one limit each, most of them by one.
func wrongCharts() map[string]impl.Chart {
	long := strings.Repeat("x", 41)
	resized := func(wide, high, count int) impl.Chart {
		return impl.Chart{Wide: wide, High: high, Depths: slices.Repeat([]int{4}, count), Edition: 3}
	}
	return map[string]impl.Chart{
		"empty":                           {},
		"wide 0":                          resized(0, 3, 0),
		"high 0":                          resized(3, 0, 0),
		"wide 0, with depths":             resized(0, 3, 3),
		"wide 13":                         resized(13, 2, 26),
		"high 13":                         resized(2, 13, 26),
		"wide and high below 0":           resized(-1, -1, 1),
		"sides turned below 0":            resized(-2, -3, 6),
		"sides whose product wraps to 0":  resized(1<<32, 1<<32, 0),
		"sides whose product wraps to 12": resized(1<<62+3, 4, 12),
		"least sides":                     resized(math.MinInt, math.MinInt, 0),
		"greatest sides":                  resized(math.MaxInt, math.MaxInt, 1),
		"a depth too few":                 resized(3, 2, 5),
		"a depth too many":                resized(3, 2, 7),
		"no depths":                       resized(3, 2, 0),
		"depths of a greater chart":       resized(3, 2, 144),
		"a great many depths":             resized(12, 12, 5000),
		"first depth -1001":               withDepth(0, -1001),
		"last depth -1001":                withDepth(5, -1001),
		"first depth 10001":               withDepth(0, 10001),
		"last depth 10001":                withDepth(5, 10001),
		"least depth":                     withDepth(2, math.MinInt),
		"greatest depth":                  withDepth(2, math.MaxInt),
		"31 features":                     crowded(31),
		"100 features":                    crowded(100),
		"two of one Id":                   withFeatures(feature(4, 1, 0, 0, ""), feature(4, 1, 0, 0, "")),
		"two of one Id, unlike":           withFeatures(feature(3, 1, 0, 0, ""), feature(4, 1, 0, 0, "a"), feature(4, 2, 1, 1, "b")),
		"two the wrong way round":         withFeatures(feature(5, 1, 0, 0, ""), feature(4, 1, 0, 0, "")),
		"the last two turned":             withFeatures(feature(1, 1, 0, 0, ""), feature(5, 1, 0, 0, ""), feature(4, 1, 0, 0, "")),
		"Id 0":                            withFeatures(feature(0, 1, 0, 0, "")),
		"Id -1":                           withFeatures(feature(-1, 1, 0, 0, "")),
		"Id 10^6 + 1":                     withFeatures(feature(5, 1, 0, 0, ""), feature(1000001, 1, 0, 0, "")),
		"least Id":                        withFeatures(feature(math.MinInt, 1, 0, 0, "")),
		"greatest Id":                     withFeatures(feature(math.MaxInt, 1, 0, 0, "")),
		"kind 0":                          withFeatures(feature(5, 0, 0, 0, "")),
		"kind 10":                         withFeatures(feature(5, 10, 0, 0, "")),
		"kind 10 at last":                 withFeatures(feature(5, 9, 0, 0, ""), feature(6, 10, 0, 0, "")),
		"feature left of the grid":        withFeatures(feature(5, 1, -1, 0, "")),
		"feature right of the grid":       withFeatures(feature(5, 1, 3, 0, "")),
		"feature above the grid":          withFeatures(feature(5, 1, 0, -1, "")),
		"feature below the grid":          withFeatures(feature(5, 1, 0, 2, "")),
		"feature far away":                withFeatures(feature(5, 1, math.MaxInt, math.MinInt, "")),
		"a text of 41 bytes":              withFeatures(feature(5, 1, 0, 0, long)),
		"42 bytes of 21 runes":            withFeatures(feature(5, 1, 0, 0, strings.Repeat("é", 21))),
		"edition -1":                      withEdition(-1),
		"edition 10^6 + 1":                withEdition(1000001),
		"least edition":                   withEdition(math.MinInt),
		"greatest edition":                withEdition(math.MaxInt),
	}
}

// placesBeside are next to a corner of the grid, or far away from it.
func placesBeside(c impl.Chart) [][2]int {
	right, bottom := c.Wide-1, c.High-1
	return [][2]int{
		{-1, 0}, {0, -1}, {-1, -1}, {right + 1, 0}, {right, -1}, {right + 1, -1},
		{-1, bottom}, {0, bottom + 1}, {-1, bottom + 1}, {right + 1, bottom}, {right, bottom + 1}, {right + 1, bottom + 1},
		{math.MinInt, 0}, {0, math.MinInt}, {math.MaxInt, 0}, {0, math.MaxInt}, {math.MaxInt, math.MaxInt}, {math.MinInt, math.MaxInt},
	}
}

func TestChartsThatAreNotSo(t *testing.T) {
	u := update(8, sounding(0, 0, 1))
	for name, c := range wrongCharts() {
		if impl.ChartOk(c) {
			t.Error(name, "is ok")
		}
		for _, place := range [][2]int{{0, 0}, {1, 0}, {0, 1}, {2, 1}, {-1, 0}, {math.MaxInt, math.MinInt}} {
			if depth, ok := impl.DepthAt(c, place[0], place[1]); depth != 0 || ok {
				t.Error(name, "DepthAt", place, depth, ok)
			}
			for _, far := range []int{-1, 0, 5, 100, 101} {
				if got := impl.Near6(c, place[0], place[1], far); len(got) != 0 {
					t.Error(name, "Near6", place, far, got)
				}
			}
		}
		for _, need := range []int{math.MinInt, 0, 5, 20000, math.MaxInt} {
			if got := impl.Shoals(c, need); len(got) != 0 {
				t.Error(name, "Shoals", need, got)
			}
		}
		next := c.Edition + 1
		for _, u := range []impl.Update{u, update(next, sounding(0, 0, 1)), update(c.Edition, sounding(0, 0, 1)), update(next), {}, update(math.MaxInt, adding(5, 1, 0, 0, ""))} {
			checkRefused(t, name, c, u, impl.UpdBad)
		}
		checkCatch(t, name, c, nil, c)
		checkCatch(t, name, c, []impl.Update{u, update(next, sounding(0, 0, 1)), {}}, c, 0, 1, 2)
		checkCatch(t, name, c, slices.Repeat([]impl.Update{u}, 61), c)
	}
}

func TestPlacesThatAreNone(t *testing.T) {
	for _, c := range []impl.Chart{bay(), sea(1, 1, 7), sea(12, 12, 7), crowded(30)} {
		for _, place := range placesBeside(c) {
			if depth, ok := impl.DepthAt(c, place[0], place[1]); depth != 0 || ok {
				t.Error("DepthAt", place, depth, ok)
			}
			for _, far := range []int{0, 1, 100} {
				if got := impl.Near6(c, place[0], place[1], far); len(got) != 0 {
					t.Error("Near6", place, far, got)
				}
			}
			u := update(c.Edition+1, adding(777, 1, place[0], place[1], ""))
			checkRefused(t, "add at no place", c, u, impl.UpdNote)
			u.Notes = notes{adding(777, 1, 0, 0, ""), moving(777, place[0], place[1])}
			checkRefused(t, "move to no place", c, u, impl.UpdNote)
			u.Notes = notes{sounding(place[0], place[1], 1)}
			checkRefused(t, "depth at no place", c, u, impl.UpdNote)
		}
	}
	c := bay()
	for _, far := range []int{-1, -100, 101, 1000, math.MinInt, math.MaxInt} {
		if got := impl.Near6(c, 1, 1, far); len(got) != 0 {
			t.Error("far", far, got)
		}
	}
	if got := impl.Near6(c, 1, 1, 100); len(got) != 3 {
		t.Error("far 100 is taken", got)
	}
}

// checkRefused asks for the chart as it was, every field.
func checkRefused(t *testing.T, name string, c impl.Chart, u impl.Update, want int) {
	t.Helper()
	before := cloneChart(c)
	got, code := impl.Apply6(c, u)
	if code != want || !sameChart(got, before) {
		t.Error(name, "code", code, "not", want, got, before)
	}
}

func TestNotesThatCannotBeDone(t *testing.T) {
	long := strings.Repeat("x", 41)
	of := func(kind int) impl.Note {
		return impl.Note{Kind: kind, Id: 4, X: 1, Y: 1, Depth: 2, Text: "t", Sort: 3}
	}
	wrong := map[string]notes{
		"kind 0":                       {of(0)},
		"kind 5":                       {of(5)},
		"kind -1":                      {of(-1)},
		"least kind":                   {of(math.MinInt)},
		"greatest kind":                {of(math.MaxInt)},
		"add what is there":            {adding(5, 1, 0, 0, "")},
		"add what is there, just so":   {adding(5, 9, 2, 1, "")},
		"add Id 0":                     {adding(0, 1, 0, 0, "")},
		"add Id -5":                    {adding(-5, 1, 0, 0, "")},
		"add Id 10^6 + 1":              {adding(1000001, 1, 0, 0, "")},
		"add kind 0":                   {adding(4, 0, 0, 0, "")},
		"add kind 10":                  {adding(4, 10, 0, 0, "")},
		"add right of the grid":        {adding(4, 1, 3, 0, "")},
		"add below the grid":           {adding(4, 1, 0, 2, "")},
		"add left of the grid":         {adding(4, 1, -1, 0, "")},
		"add above the grid":           {adding(4, 1, 0, -1, "")},
		"add a text of 41 bytes":       {adding(4, 1, 0, 0, long)},
		"drop what is not there":       {dropping(4)},
		"drop Id 0":                    {dropping(0)},
		"drop twice":                   {dropping(5), dropping(5)},
		"drop what a note moved twice": {moving(5, 0, 0), dropping(5), dropping(5)},
		"move what is not there":       {moving(4, 0, 0)},
		"move Id 0":                    {moving(0, 0, 0)},
		"move what a note dropped":     {dropping(5), moving(5, 0, 0)},
		"move right of the grid":       {moving(5, 3, 1)},
		"move below the grid":          {moving(5, 2, 2)},
		"move left of the grid":        {moving(5, -1, 1)},
		"move above the grid":          {moving(5, 2, -1)},
		"add what a note added":        {adding(4, 1, 0, 0, ""), adding(4, 1, 0, 0, "")},
		"depth right of the grid":      {sounding(3, 1, 5)},
		"depth below the grid":         {sounding(2, 2, 5)},
		"depth left of the grid":       {sounding(-1, 1, 5)},
		"depth above the grid":         {sounding(2, -1, 5)},
		"depth -1001":                  {sounding(2, 1, -1001)},
		"depth 10001":                  {sounding(2, 1, 10001)},
		"least depth":                  {sounding(2, 1, math.MinInt)},
		"greatest depth":               {sounding(2, 1, math.MaxInt)},
	}
	able := notes{sounding(0, 0, 77), dropping(2), adding(30, 4, 1, 1, "z"), moving(9, 0, 1)}
	for name, list := range wrong {
		c := bay()
		checkRefused(t, name, c, update(8, list...), impl.UpdNote)
		checkRefused(t, name+", behind some that can", c, update(8, slices.Concat(able, list)...), impl.UpdNote)
		checkRefused(t, name+", ahead of some that can", c, update(8, slices.Concat(list, able)...), impl.UpdNote)
		checkRefused(t, name+", as the 20th", c, update(8, slices.Concat(slices.Repeat(notes{sounding(1, 1, 8)}, 20-len(list)), list)...), impl.UpdNote)
	}
	full := crowded(30)
	checkRefused(t, "full", full, update(1, adding(5, 1, 0, 0, "")), impl.UpdNote)
	checkRefused(t, "full by a note", crowded(29), update(1, adding(5, 1, 0, 0, ""), adding(6, 1, 0, 0, "")), impl.UpdNote)
	checkRefused(t, "full, dropped and added twice", full, update(1, dropping(10), adding(5, 1, 0, 0, ""), adding(6, 1, 0, 0, "")), impl.UpdNote)
}

// Where several reasons apply, the one that is named first counts.
func TestReasonsInTheirOrder(t *testing.T) {
	fine, wrong := sounding(0, 0, 1), impl.Note{Kind: 5}
	c := bay()
	for _, edition := range []int{math.MinInt, -1, 0, 7, 8, 9, 1000000, 1000001, math.MaxInt} {
		checkRefused(t, "no notes", c, update(edition), impl.UpdBad)
		checkRefused(t, "21 notes", c, update(edition, slices.Repeat(notes{fine}, 21)...), impl.UpdBad)
		checkRefused(t, "21 wrong notes", c, update(edition, slices.Repeat(notes{wrong}, 21)...), impl.UpdBad)
	}
	for _, n := range []impl.Note{fine, wrong} {
		for _, list := range []notes{{n}, slices.Repeat(notes{n}, 20)} {
			for _, edition := range []int{math.MinInt, -1, 0, 6, 7} {
				checkRefused(t, "old", c, update(edition, list...), impl.UpdOld)
			}
			for _, edition := range []int{9, 10, 1000000, 1000001, math.MaxInt} {
				checkRefused(t, "gap", c, update(edition, list...), impl.UpdGap)
			}
			checkRefused(t, "old at the end", withEdition(1000000), update(1000000, list...), impl.UpdOld)
			checkRefused(t, "behind the end", withEdition(1000000), update(1000001, list...), impl.UpdNote)
			checkRefused(t, "two behind the end", withEdition(1000000), update(1000002, list...), impl.UpdGap)
			checkRefused(t, "a gap across the end", withEdition(999999), update(1000001, list...), impl.UpdGap)
			checkRefused(t, "far behind the end", withEdition(1000000), update(math.MaxInt, list...), impl.UpdGap)
		}
	}
	checkRefused(t, "the next with a wrong note", c, update(8, wrong), impl.UpdNote)
}

func TestTooManyUpdates(t *testing.T) {
	c := bay()
	u := update(8, sounding(0, 0, 1))
	for _, count := range []int{61, 62, 1000} {
		checkCatch(t, "too many", c, slices.Repeat([]impl.Update{u}, count), c)
		checkCatch(t, "too many that are empty", c, make([]impl.Update, count), c)
	}
	next := withDepth(0, 1)
	next.Edition = 8
	left := make([]int, 59)
	for i := range left {
		left[i] = i + 1
	}
	checkCatch(t, "60 are taken", c, slices.Repeat([]impl.Update{u}, 60), next, left...)
}

// voyage is all that is handed in to the functions of charts.
type voyage struct {
	c    impl.Chart
	u    impl.Update
	list []impl.Update
}

func voyagesOfAllKinds() []voyage {
	d := &draws{state: 96}
	steps, _ := chain()
	var all []voyage
	for _, c := range wrongCharts() {
		all = append(all, voyage{c, update(c.Edition+1, sounding(0, 0, 1)), steps})
	}
	for _, u := range []impl.Update{update(8), update(7, dropping(2)), update(9, dropping(2)), update(8, dropping(2), dropping(2)), update(8, dropping(2)), {}} {
		all = append(all, voyage{bay(), u, append([]impl.Update{u}, steps...)})
	}
	all = append(all, voyage{bay(), steps[0], nil}, voyage{bay(), steps[0], slices.Repeat(steps, 13)[:61]})
	for range 150 {
		c := drawnChart(d)
		list, _ := drawnChain(d, c, d.below(8))
		all = append(all, voyage{c, drawnUpdate(d, c), shuffled(d, slices.Concat(list, list))})
	}
	return all
}

func roomyChart(c impl.Chart) impl.Chart {
	c.Depths = spare(c.Depths, 1)
	c.Features = spare(c.Features, feature(999999, 1, 0, 0, "behind"))
	return c
}

func roomyUpdate(u impl.Update) impl.Update {
	u.Notes = spare(u.Notes, sounding(0, 0, 99))
	return u
}

func roomyVoyage(v voyage) voyage {
	list := make([]impl.Update, 0, len(v.list))
	for _, u := range v.list {
		list = append(list, roomyUpdate(u))
	}
	behind := roomyUpdate(update(v.c.Edition+1, sounding(0, 0, 98)))
	return voyage{roomyChart(v.c), roomyUpdate(v.u), spare(list, behind)}
}

// wholeVoyage tells all of it, and what lies behind each list.
func wholeVoyage(v voyage) string {
	c := v.c
	c.Depths, c.Features = c.Depths[:cap(c.Depths)], c.Features[:cap(c.Features)]
	told := fmt.Sprintln(c, v.u.Edition, v.u.Notes[:cap(v.u.Notes)])
	for _, u := range v.list[:cap(v.list)] {
		told += fmt.Sprintln(u.Edition, u.Notes[:cap(u.Notes)])
	}
	return told
}

func overwriteChart(c impl.Chart) {
	overwrite(c.Depths)
	clear(c.Features[:cap(c.Features)])
}

func overwriteVoyage(v voyage) {
	overwriteChart(v.c)
	clear(v.u.Notes[:cap(v.u.Notes)])
	for _, u := range v.list[:cap(v.list)] {
		clear(u.Notes[:cap(u.Notes)])
	}
	clear(v.list[:cap(v.list)])
}

// charted is what the functions of charts answer.
type charted struct {
	depth, code   int
	ok, there     bool
	next, caught  impl.Chart
	left          []int
	shoals, close []int
}

func allOfVoyage(v voyage) charted {
	var a charted
	a.ok = impl.ChartOk(v.c)
	a.depth, a.there = impl.DepthAt(v.c, 0, 0)
	a.next, a.code = impl.Apply6(v.c, v.u)
	a.caught, a.left = impl.Catch(v.c, v.list)
	a.shoals = impl.Shoals(v.c, 20)
	a.close = impl.Near6(v.c, 0, 0, 4)
	return a
}

func TestChartArgumentsAreNotChanged(t *testing.T) {
	for _, plain := range voyagesOfAllKinds() {
		v := roomyVoyage(plain)
		before := wholeVoyage(v)
		got := fmt.Sprint(allOfVoyage(v))
		if wholeVoyage(v) != before {
			t.Fatal("written into", plain)
		}
		if got != fmt.Sprint(allOfVoyage(plain)) {
			t.Fatal("what lies behind a list is looked at", plain)
		}
	}
}

func TestChartAnswersAreNewMemory(t *testing.T) {
	for _, plain := range voyagesOfAllKinds() {
		v := roomyVoyage(plain)
		before := wholeVoyage(v)
		earlier, got := allOfVoyage(v), allOfVoyage(v)
		want := fmt.Sprint(got)
		left := fmt.Sprint(got.left)
		overwriteChart(got.caught)
		if fmt.Sprint(got.left) != left {
			t.Fatal("both answers of Catch share memory", plain)
		}
		caught := fmt.Sprint(earlier.caught)
		overwrite(got.left)
		overwrite(earlier.left)
		if fmt.Sprint(earlier.caught) != caught {
			t.Fatal("both answers of Catch share memory", plain)
		}
		overwriteChart(got.next)
		overwrite(got.shoals)
		overwrite(got.close)
		if wholeVoyage(v) != before {
			t.Fatal("an answer shares memory with what was handed in", plain)
		}
		later := allOfVoyage(v)
		earlier.left = later.left
		if fmt.Sprint(earlier) != want || fmt.Sprint(later) != want {
			t.Fatal("two answers share memory", plain)
		}
		overwriteVoyage(v)
		if fmt.Sprint(earlier) != want {
			t.Fatal("an answer keeps the memory of what was handed in", plain)
		}
	}
}

func TestChartAnswersAgainAndTogether(t *testing.T) {
	all := voyagesOfAllKinds()
	v := all[len(all)-1]
	ask := func() string { return fmt.Sprint(allOfVoyage(v)) }
	want := ask()
	told := make(chan string)
	for range 8 {
		go func() { told <- ask() }()
	}
	for range 8 {
		if got := <-told; got != want {
			t.Error("answers hang on earlier calls", got, want)
		}
	}
}
