package tests

import (
	"math"
	"slices"
	"testing"

	"loop.example/g00059/impl"
)

func checkRest(t *testing.T, name string, list spells, until, code, at int) {
	t.Helper()
	if got, told := impl.RestCode(list, until); got != code || told != at {
		t.Error(name, list, until, "got", got, told, "not", code, at)
	}
}

func TestRestInADay(t *testing.T) {
	for _, until := range []int{1440, 1441, 5000, 30000} {
		checkRest(t, "none", nil, until, impl.RestWell, -1)
		checkRest(t, "840", spellsOf(0, 840), until, impl.RestWell, -1)
		checkRest(t, "841", spellsOf(0, 841), until, impl.RestDay, 1440)
		checkRest(t, "841 at its end", spellsOf(599, 1440), until, impl.RestDay, 1440)
		checkRest(t, "840 in parts", spellsOf(0, 400, 800, 1240), until, impl.RestWell, -1)
		checkRest(t, "841 in parts", spellsOf(0, 400, 800, 1241), until, impl.RestDay, 1440)
	}
	checkRest(t, "840 at its end", spellsOf(600, 1440), 1680, impl.RestWell, -1)
	checkRest(t, "later", spellsOf(1000, 1841), 30000, impl.RestDay, 1841)
	checkRest(t, "later, and just until then", spellsOf(1000, 1841), 1841, impl.RestDay, 1841)
	checkRest(t, "one minute less", spellsOf(1000, 1841), 1840, impl.RestWell, -1)
	checkRest(t, "a day moves on", spellsOf(0, 400, 1440, 1881), 30000, impl.RestWell, -1)
	checkRest(t, "the first of two", spellsOf(3000, 3900, 6000, 6900), 30000, impl.RestDay, 3841)
	checkRest(t, "at the very end", spellsOf(29159, 30000), 30000, impl.RestDay, 30000)
	checkRest(t, "just not at the very end", spellsOf(29160, 30000), 30000, impl.RestWell, -1)
}

func TestRestUntilThen(t *testing.T) {
	list := spellsOf(0, 841)
	for until, want := range map[int][2]int{
		-1: {impl.RestBad, -1}, 0: {impl.RestWell, -1}, 1: {impl.RestWell, -1}, 359: {impl.RestWell, -1}, 360: {impl.RestWell, -1}, 1439: {impl.RestWell, -1},
		1440: {impl.RestDay, 1440}, 30000: {impl.RestDay, 1440}, 30001: {impl.RestBad, -1},
		math.MinInt: {impl.RestBad, -1}, math.MaxInt: {impl.RestBad, -1},
	} {
		checkRest(t, "until", list, until, want[0], want[1])
	}
	checkRest(t, "To 30000", spellsOf(29900, 30000), 30000, impl.RestWell, -1)
	checkRest(t, "To 30001", spellsOf(29900, 30001), 30000, impl.RestBad, -1)
	checkRest(t, "To 30001, asked ahead of it", spellsOf(0, 841, 29900, 30001), 1440, impl.RestBad, -1)
	checkRest(t, "To 30001, of nothing asked", spellsOf(29900, 30001), 0, impl.RestBad, -1)
	checkRest(t, "To MaxMinute", spellsOf(0, 841, 29900, 100000000), 1440, impl.RestBad, -1)
	checkRest(t, "no spell, until 0", nil, 0, impl.RestWell, -1)
	checkRest(t, "no spell, until 30001", nil, 30001, impl.RestBad, -1)
}

func TestRestInAWeek(t *testing.T) {
	checkRest(t, "5460", rota(0, 420, 420, 13), 30000, impl.RestWell, -1)
	checkRest(t, "5460 again and again", rota(0, 420, 420, 38), 30000, impl.RestWell, -1)
	week := rota(0, 421, 419, 13)
	checkRest(t, "5461", week, 30000, impl.RestWeek, 10080)
	checkRest(t, "5461, asked just then", week, 10080, impl.RestWeek, 10080)
	checkRest(t, "5461, asked sooner", week, 10079, impl.RestWell, -1)
	for i := range week {
		less := slices.Clone(week)
		less[i].To--
		checkRest(t, "5460 by one less", less, 30000, impl.RestWell, -1)
	}
	checkRest(t, "full sooner than it is over", rota(0, 500, 340, 13), 30000, impl.RestWeek, 10080)
	checkRest(t, "full, but no week ahead yet", rota(0, 500, 340, 13), 10079, impl.RestWell, -1)
	checkRest(t, "5461 as it ends", rota(299, 421, 419, 13), 30000, impl.RestWeek, 10080)
	checkRest(t, "5461 a minute later", rota(300, 421, 419, 13), 30000, impl.RestWeek, 10081)
	checkRest(t, "5461 much later", rota(1000, 421, 419, 13), 30000, impl.RestWeek, 10781)
	late := slices.Clone(week)
	late[12] = impl.Spell{From: 9659, To: 10080}
	checkRest(t, "up to the last minute", late, 30000, impl.RestWeek, 10080)
	late[12] = impl.Spell{From: 9660, To: 10081}
	checkRest(t, "the first minute counts no more", late, 30000, impl.RestWell, -1)
}

func TestRestInOneRow(t *testing.T) {
	for name, c := range map[string]struct {
		list     spells
		code, at int
	}{
		"359 four times":           {spellsOf(359, 360, 719, 720, 1079, 1080, 1439, 1440), impl.RestSplit, 1440},
		"360 at the beginning":     {spellsOf(360, 361, 720, 721, 1080, 1081), impl.RestWell, -1},
		"360 at the beginning, no": {spellsOf(360, 361, 720, 721, 1080, 1081, 1440, 1441), impl.RestSplit, 1441},
		"359 at the beginning":     {spellsOf(359, 361, 720, 721, 1080, 1081), impl.RestSplit, 1440},
		"360 at the end":           {spellsOf(300, 301, 600, 601, 1000, 1001, 1079, 1080), impl.RestWell, -1},
		"359 at the end":           {spellsOf(300, 301, 600, 601, 900, 1081), impl.RestSplit, 1440},
		"360 between":              {spellsOf(300, 301, 661, 662, 1000, 1001, 1300, 1301), impl.RestWell, -1},
		"359 between":              {spellsOf(300, 301, 660, 662, 1000, 1001, 1300, 1301), impl.RestSplit, 1440},
		"a whole day":              {spellsOf(1440, 1441), impl.RestWell, -1},
		"a row that is left":       {spellsOf(500, 501, 800, 801, 1100, 1101, 1400, 1401, 1700, 1701), impl.RestSplit, 1581},
	} {
		checkRest(t, name, c.list, 30000, c.code, c.at)
		if c.at > 0 {
			checkRest(t, name+", just until then", c.list, c.at, c.code, c.at)
			checkRest(t, name+", one minute less", c.list, c.at-1, impl.RestWell, -1)
		}
	}
}

// At one minute the first code in the chapter's order is told, else the first
// minute's.
func TestRestCodesInTheirOrder(t *testing.T) {
	most := rota(0, 500, 340, 11)
	split := spellsOf(8999, 9740, 10000, 10080)
	full := spellsOf(8999, 9740, 9980, 10080)
	long := spellsOf(9239, 10080)
	all := func(parts ...spells) spells { return slices.Concat(parts...) }
	checkRest(t, "day and split", spellsOf(0, 300, 600, 900, 1100, 1341), 30000, impl.RestDay, 1440)
	checkRest(t, "split alone", spellsOf(0, 300, 600, 900, 1100, 1340), 30000, impl.RestSplit, 1440)
	checkRest(t, "week and split", all(most, split), 30000, impl.RestWeek, 10080)
	checkRest(t, "split, no week", all(most[1:], split), 30000, impl.RestSplit, 10080)
	checkRest(t, "day and week", all(most, long), 30000, impl.RestDay, 10080)
	checkRest(t, "day, no week", all(most[1:], long), 30000, impl.RestDay, 10080)
	checkRest(t, "all three", all(most, full), 30000, impl.RestDay, 10080)
	checkRest(t, "day and split, no week", all(most[1:], full), 30000, impl.RestDay, 10080)
	week := rota(0, 421, 419, 13)
	checkRest(t, "a day's fault behind a week's", all(week, spellsOf(10081, 11000)), 30000, impl.RestWeek, 10080)
	checkRest(t, "a day's fault alone", spellsOf(10081, 11000), 30000, impl.RestDay, 10922)
	checkRest(t, "a split behind a week's fault", all(week, spellsOf(10090, 10091, 10400, 10401, 10700, 10701, 11000, 11001, 11300, 11301, 11600, 11601)), 30000, impl.RestWeek, 10080)
	checkRest(t, "a day's fault behind a split", spellsOf(300, 400, 700, 800, 1000, 1200, 1441, 2441), 30000, impl.RestSplit, 1440)
	checkRest(t, "a week's fault behind a day's", all(spellsOf(0, 841), rota(1440, 421, 419, 13)), 30000, impl.RestDay, 1440)
}

func TestRestOfManyWatches(t *testing.T) {
	d := &draws{state: 135}
	seen := [5]int{}
	for range 400 {
		list := drawnWatch(d)
		until := []int{d.below(30001), 30000}[d.below(2)]
		want, at := restOf(list, until)
		checkRest(t, "drawn", list, until, want, at)
		seen[want]++
	}
	for _, code := range []int{impl.RestWell, impl.RestDay, impl.RestWeek, impl.RestSplit} {
		if seen[code] < 20 {
			t.Error("few drawn of code", code, seen)
		}
	}
}

// lessWork are the spells with one of them left out, shortened at either end,
// or cut in two.
func lessWork(list spells, at int) []spells {
	s := list[at]
	with := func(own ...impl.Spell) spells { return slices.Concat(list[:at], own, list[at+1:]) }
	all := []spells{with()}
	if s.To-s.From > 2 {
		all = append(all, with(impl.Spell{From: s.From + 1, To: s.To}), with(impl.Spell{From: s.From, To: s.To - 1}))
		if middle := (s.From + s.To) / 2; len(list) < 100 {
			all = append(all, with(impl.Spell{From: s.From, To: middle}, impl.Spell{From: middle + 1, To: s.To}))
		}
	}
	return all
}

func TestLessWorkNeverBringsAFaultAhead(t *testing.T) {
	d := &draws{state: 136}
	for range 60 {
		list := drawnWatch(d)
		code, at := impl.RestCode(list, 30000)
		for i := range list {
			for _, less := range lessWork(list, i) {
				other, later := impl.RestCode(less, 30000)
				if other == impl.RestBad || code == impl.RestWell && other != impl.RestWell || other != impl.RestWell && later < at {
					t.Fatal(list, "less at", i, code, at, other, later)
				}
			}
		}
	}
}
