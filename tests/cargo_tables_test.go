package tests

import (
	"math"
	"testing"

	"loop.example/g00059/impl"
)

func checkUllage(t *testing.T, table []int, has, want int, ok bool) {
	t.Helper()
	if got, told := impl.Ullage(table, has); got != want || told != ok {
		t.Error(table, has, "got", got, told, "not", want, ok)
	}
}

func TestUllageByHand(t *testing.T) {
	for _, c := range [][2]int{{0, 100}, {1, 100}, {2, 99}, {3, 99}, {33, 84}, {50, 75}, {98, 51}, {99, 51}, {100, 50}} {
		checkUllage(t, []int{100, 50}, c[0], c[1], true)
	}
	table := []int{900, 800, 797, 796, 0}
	for _, c := range [][2]int{
		{0, 900}, {1, 899}, {99, 801}, {100, 800}, {101, 800}, {133, 800}, {134, 799}, {166, 799}, {167, 798}, {199, 798}, {200, 797},
		{201, 797}, {299, 797}, {300, 796}, {301, 789}, {302, 781}, {350, 398}, {399, 8}, {400, 0},
	} {
		checkUllage(t, table, c[0], c[1], true)
	}
}

func TestUllageAtItsLimits(t *testing.T) {
	checkUllage(t, []int{100000, 0}, 0, 100000, true)
	checkUllage(t, []int{100000, 0}, 1, 99000, true)
	checkUllage(t, []int{100000, 0}, 100, 0, true)
	checkUllage(t, []int{100000, 99999}, 99, 100000, true)
	checkUllage(t, []int{1, 0}, 99, 1, true)
	checkUllage(t, []int{100001, 0}, 0, 0, false)
	checkUllage(t, []int{100000, -1}, 0, 0, false)
	for _, table := range [][]int{{100, 50}, {9, 7, 3}, downTo0(30)} {
		last := 100 * (len(table) - 1)
		checkUllage(t, table, -1, 0, false)
		checkUllage(t, table, 0, table[0], true)
		checkUllage(t, table, last, table[len(table)-1], true)
		checkUllage(t, table, last+1, 0, false)
		checkUllage(t, table, last+100, 0, false)
		checkUllage(t, table, math.MinInt, 0, false)
		checkUllage(t, table, math.MaxInt, 0, false)
	}
	checkUllage(t, []int{5}, 0, 0, false)
	checkUllage(t, downTo0(31), 0, 0, false)
	checkUllage(t, []int{9, 9}, 0, 0, false)
	checkUllage(t, []int{9, 8}, 0, 9, true)
}

func TestUllageOfManyTables(t *testing.T) {
	d := &draws{state: 166}
	for range 5000 {
		table := drawnUllages(d)
		if d.below(4) == 0 {
			table[d.below(len(table))] += d.between(-3, 3)
		}
		last := 100 * (len(table) - 1)
		has := []int{d.between(-1, last+1), 100 * d.below(len(table)), last - d.below(100), d.below(100)}[d.below(4)]
		want, ok := ullageOf(table, has)
		checkUllage(t, table, has, want, ok)
	}
}

// From one amount to the next it falls by all that lies between both, and never
// rises on the way.
func TestMoreCargoNeverHasMoreUllage(t *testing.T) {
	d := &draws{state: 167}
	for range 300 {
		table := drawnUllages(d)
		ahead := table[0]
		for has := range 100*(len(table)-1) + 1 {
			got, ok := impl.Ullage(table, has)
			if !ok || got > ahead || got < table[min(has/100+1, len(table)-1)] || has%100 == 0 && got != table[has/100] {
				t.Fatal(table, has, got, ahead, ok)
			}
			ahead = got
		}
	}
}

func checkSurvey(t *testing.T, fore, mid, aft, per, want int, ok bool) {
	t.Helper()
	if got, told := impl.DraftSurvey(fore, mid, aft, per); got != want || told != ok {
		t.Error(fore, mid, aft, per, "got", got, told, "not", want, ok)
	}
}

func TestDraftSurveyByHand(t *testing.T) {
	checkSurvey(t, 1, 2, 1, 3, 5, true)
	checkSurvey(t, 1000, 1000, 1000, 7, 7000, true)
	checkSurvey(t, 800, 0, 0, 1, 100, true)
	checkSurvey(t, 0, 800, 0, 1, 600, true)
	checkSurvey(t, 0, 0, 800, 1, 100, true)
	checkSurvey(t, 900, 1000, 1300, 10, 10250, true)
	// Sums that are at both sides of what is just between two, and just there.
	for fore, want := range []int{0, 0, 0, 0, 1, 1, 1, 1, 1, 1, 1, 1, 2} {
		checkSurvey(t, fore, 0, 0, 1, want, true)
		checkSurvey(t, 0, 0, fore, 1, want, true)
		checkSurvey(t, fore, 1000, 2000, 1, 1000+want, true)
	}
	checkSurvey(t, 1, 0, 0, 3, 0, true)
	checkSurvey(t, 1, 0, 0, 4, 1, true)
	checkSurvey(t, 0, 1, 0, 2, 2, true)
	checkSurvey(t, 0, 2, 0, 1, 2, true)
	checkSurvey(t, 1, 0, 0, 999, 125, true)
	checkSurvey(t, 1, 0, 0, 996, 125, true)
	checkSurvey(t, 1, 0, 0, 995, 124, true)
}

func TestDraftSurveyAtItsLimits(t *testing.T) {
	checkSurvey(t, 0, 0, 0, 1, 0, true)
	checkSurvey(t, 0, 0, 0, 1000, 0, true)
	checkSurvey(t, 20000, 20000, 20000, 1000, 20000000, true)
	checkSurvey(t, 20000, 0, 0, 1000, 2500000, true)
	checkSurvey(t, 0, 20000, 0, 1000, 15000000, true)
	checkSurvey(t, 0, 0, 20000, 1000, 2500000, true)
	for _, wrong := range []int{-1, 20001, math.MinInt, math.MaxInt} {
		checkSurvey(t, wrong, 8, 8, 1, 0, false)
		checkSurvey(t, 8, wrong, 8, 1, 0, false)
		checkSurvey(t, 8, 8, wrong, 1, 0, false)
		checkSurvey(t, wrong, wrong, wrong, 1, 0, false)
	}
	for _, per := range []int{0, -1, 1001, math.MinInt, math.MaxInt} {
		checkSurvey(t, 8, 8, 8, per, 0, false)
		checkSurvey(t, 0, 0, 0, per, 0, false)
	}
	checkSurvey(t, 8, 8, 8, 1, 8, true)
	checkSurvey(t, 8, 8, 8, 1000, 8000, true)
}

func TestDraftSurveyOfManyDrafts(t *testing.T) {
	d := &draws{state: 168}
	draft := func() int {
		return []int{d.below(20001), d.below(20001), d.below(9), d.below(9), d.between(-1, 0), 20000 + d.below(2)}[d.below(6)]
	}
	for range 20000 {
		fore, mid, aft := draft(), draft(), draft()
		per := []int{d.between(1, 1000), d.between(0, 3), d.between(999, 1001)}[d.below(3)]
		want, ok := surveyOf(fore, mid, aft, per)
		checkSurvey(t, fore, mid, aft, per, want, ok)
		checkSurvey(t, aft, mid, fore, per, want, ok)
	}
}

func TestTablesOfAllLengths(t *testing.T) {
	for count := range 33 {
		if count < 2 || count > 30 {
			checkUllage(t, downTo0(count), 0, 0, false)
		} else {
			checkUllage(t, downTo0(count), 0, count-1, true)
		}
	}
}
