package tests

import (
	"math"
	"slices"
	"testing"

	"loop.example/g00059/impl"
)

// Promise 15: minutes that count and those that do not are all; once over, all
// is over; parts of a berth come to the whole; shares come to the loss.

func TestLaytimeConstants(t *testing.T) {
	if impl.MaxShares != 40 || impl.MaxMinute != lastMinute || impl.MaxSpells != 100 {
		t.Error(impl.MaxShares, impl.MaxMinute, impl.MaxSpells)
	}
}

func TestCharterOkAtItsEdges(t *testing.T) {
	for n, want := range map[int]bool{-1: false, 0: true, 1: true, 99999: true, 100000: true, 100001: false} {
		for _, c := range []impl.Charter{charter(n, 0, 0, 0), charter(0, n, 0, 0), charter(n, n, 0, 0), charter(n, 5, 7, 9), charter(5, n, mostMoney, 9)} {
			if impl.CharterOk(c) != want {
				t.Error(c, "not", want)
			}
		}
	}
	for n, want := range map[int]bool{-1: false, 0: true, 1: true, 100001: true, mostMoney - 1: true, mostMoney: true, mostMoney + 1: false} {
		for _, c := range []impl.Charter{charter(0, 0, n, 0), charter(0, 0, 0, n), charter(0, 0, n, n), charter(100000, 5, n, 9), charter(5, 100000, 7, n)} {
			if impl.CharterOk(c) != want {
				t.Error(c, "not", want)
			}
		}
	}
	if !impl.CharterOk(impl.Charter{}) || !impl.CharterOk(charter(100000, 100000, mostMoney, mostMoney)) {
		t.Error("the least or the greatest one is not ok")
	}
}

func checkStarts(t *testing.T, c impl.Charter, arrived int, off spells, want int, ok bool) {
	t.Helper()
	if got, told := impl.Starts(c, arrived, off); got != want || told != ok {
		t.Error(c, arrived, off, "got", got, told, "not", want, ok)
	}
}

func TestStartsByHand(t *testing.T) {
	for arrived, want := range map[int]int{0: 10, 9: 19, 10: 40, 15: 40, 29: 40, 30: 40, 31: 41, 90: 100} {
		checkStarts(t, charter(10, 100, 1440, 720), arrived, spellsOf(20, 40), want, true)
	}
	checkStarts(t, noticed(0), 0, nil, 0, true)
	checkStarts(t, noticed(7), 0, nil, 7, true)
	checkStarts(t, noticed(100000), 5, spells{}, 100005, true)
	checkStarts(t, noticed(0), 0, spellsOf(0, 1), 1, true)
	checkStarts(t, noticed(0), 0, spellsOf(1, 5), 0, true)
}

// A spell has its From, and its To no more.
func TestStartsBesideASpell(t *testing.T) {
	for notice := range 21 {
		c, arrived := noticed(notice), 20-notice
		checkStarts(t, c, arrived, spellsOf(20, 30), 30, true)
		checkStarts(t, c, arrived, spellsOf(10, 20), 20, true)
		checkStarts(t, c, arrived, spellsOf(10, 30), 30, true)
		checkStarts(t, c, arrived, spellsOf(20, 21), 21, true)
		checkStarts(t, c, arrived, spellsOf(10, 21), 21, true)
		checkStarts(t, c, arrived, spellsOf(21, 30), 20, true)
		checkStarts(t, c, arrived, spellsOf(0, 19, 21, 30), 20, true)
	}
}

func TestStartsWhereSpellsTouch(t *testing.T) {
	c := noticed(5)
	checkStarts(t, c, 10, spellsOf(10, 20, 20, 30), 30, true)
	checkStarts(t, c, 10, spellsOf(10, 20, 20, 30, 30, 31), 31, true)
	checkStarts(t, c, 10, spellsOf(10, 20, 21, 30), 20, true)
	checkStarts(t, c, 10, spellsOf(10, 20, 20, 30, 31, 40), 30, true)
	checkStarts(t, c, 10, spellsOf(0, 15, 15, 30), 30, true)
	checkStarts(t, c, 10, spellsOf(0, 5, 5, 14, 16, 30), 15, true)
	row := spells{}
	for i := range 100 {
		row = append(row, impl.Spell{From: i, To: i + 1})
	}
	checkStarts(t, c, 0, row, 100, true)
	checkStarts(t, c, 94, row, 100, true)
	checkStarts(t, c, 95, row, 100, true)
	checkStarts(t, c, 96, row, 101, true)
}

func TestStartsAtTheLastMinute(t *testing.T) {
	checkStarts(t, noticed(0), -1, nil, -1, false)
	checkStarts(t, noticed(1), -1, nil, -1, false)
	checkStarts(t, noticed(0), lastMinute, nil, lastMinute, true)
	checkStarts(t, noticed(0), lastMinute+1, nil, -1, false)
	checkStarts(t, noticed(1), lastMinute, nil, -1, false)
	checkStarts(t, noticed(1), lastMinute-1, nil, lastMinute, true)
	checkStarts(t, noticed(100000), lastMinute-100000, nil, lastMinute, true)
	checkStarts(t, noticed(100000), lastMinute-99999, nil, -1, false)
	checkStarts(t, noticed(99999), lastMinute-99999, nil, lastMinute, true)
}

// No spell goes on behind the last minute, so just that one is left.
func TestStartsPushedToTheEnd(t *testing.T) {
	whole, end := spellsOf(0, lastMinute), spellsOf(5, 10, lastMinute-1, lastMinute)
	checkStarts(t, noticed(0), 0, whole, lastMinute, true)
	checkStarts(t, noticed(100000), 0, whole, lastMinute, true)
	checkStarts(t, noticed(0), lastMinute, whole, lastMinute, true)
	checkStarts(t, noticed(1), lastMinute, whole, -1, false)
	checkStarts(t, noticed(100000), lastMinute-99999, whole, -1, false)
	checkStarts(t, noticed(2), lastMinute-3, end, lastMinute, true)
	checkStarts(t, noticed(1), lastMinute-3, end, lastMinute-2, true)
	checkStarts(t, noticed(0), 0, spellsOf(0, lastMinute-1, lastMinute-1, lastMinute), lastMinute, true)
	checkStarts(t, noticed(0), 0, spellsOf(0, lastMinute-1), lastMinute-1, true)
	checkStarts(t, noticed(0), 0, spellsOf(0, lastMinute+1), -1, false)
}

func TestStartsOfManyKinds(t *testing.T) {
	d := &draws{state: 151}
	for range 30000 {
		c, off := drawnCharter(d), drawnShort(d, 60)
		if d.below(5) == 0 {
			off = drawnSpells(d)
		}
		arrived, _ := drawnStay(d, off, []int{60, 2000, lastMinute}[d.below(3)])
		if d.below(2) == 0 {
			arrived -= c.Notice
		}
		want, ok := startsOf(c, arrived, off)
		checkStarts(t, c, arrived, off, want, ok)
	}
}

// What is told is in no spell, and every minute between is in one.
func TestStartsIsTheLeast(t *testing.T) {
	d := &draws{state: 152}
	for range 3000 {
		off := drawnShort(d, 60)
		for soonest := range 70 {
			notice := d.below(soonest + 1)
			got, ok := impl.Starts(noticed(notice), soonest-notice, off)
			if !ok || got < soonest || isOffOf(got, off) {
				t.Fatal(soonest, off, got, ok)
			}
			for minute := soonest; minute < got; minute++ {
				if !isOffOf(minute, off) {
					t.Fatal(soonest, off, got, "and not", minute)
				}
			}
		}
	}
}

func checkOwed(t *testing.T, c impl.Charter, n impl.Count, want int, ok bool) {
	t.Helper()
	if got, told := impl.Owed(c, n); got != want || told != ok {
		t.Error(c, n, "got", got, told, "not", want, ok)
	}
}

func TestOwedByHand(t *testing.T) {
	c := charter(10, 100, 1440, 720)
	checkOwed(t, c, counts(100, 30, 120), 30, true)
	checkOwed(t, c, counts(40, 0, -1), -30, true)
	checkOwed(t, c, counts(100, 0, -1), 0, true)
	checkOwed(t, c, counts(0, 0, -1), -50, true)
	checkOwed(t, c, counts(99, 0, -1), 0, true)
	checkOwed(t, c, counts(98, 0, -1), -1, true)
	checkOwed(t, c, counts(100, 1, 7), 1, true)
	checkOwed(t, impl.Charter{}, impl.Count{}, 0, true)
	checkOwed(t, charter(0, 0, 1440, 1440), impl.Count{}, 0, true)
	checkOwed(t, charter(0, 0, 5000, 9000), counts(0, 1440, 0), 5000, true)
}

func TestOwedAtTheEdgesOfUsedAndOver(t *testing.T) {
	c := charter(0, 100, 2880, 1440)
	for used, want := range map[int]int{0: -100, 1: -99, 99: -1, 100: 0} {
		checkOwed(t, c, counts(used, 0, -1), want, true)
	}
	for _, used := range []int{-1, 101, -100, 200, math.MinInt, math.MaxInt} {
		checkOwed(t, c, counts(used, 0, -1), 0, false)
		checkOwed(t, c, counts(used, 1, 5), 0, false)
	}
	for over, want := range map[int]int{0: 0, 1: 2, 2: 4, lastMinute: 2 * lastMinute} {
		checkOwed(t, c, counts(100, over, 5), want, true)
	}
	for _, over := range []int{-1, lastMinute + 1, math.MinInt, math.MaxInt} {
		for _, used := range []int{0, 99, 100, 101} {
			checkOwed(t, c, counts(used, over, 5), 0, false)
		}
	}
	for _, over := range []int{1, 2, lastMinute} {
		for _, used := range []int{0, 1, 98, 99} {
			checkOwed(t, c, counts(used, over, 5), 0, false)
		}
	}
}

// Both sides are taken down by themselves, ahead of the sign.
func TestOwedThatDoesNotDivide(t *testing.T) {
	for product, want := range map[int]int{0: 0, 1: 0, 1439: 0, 1440: 1, 1441: 1, 2879: 1, 2880: 2, 2881: 2, 99999: 69, 100000: 69} {
		checkOwed(t, charter(0, 0, 1, 7), counts(0, product, -1), want, true)
		checkOwed(t, charter(0, product, 7, 1), counts(0, 0, -1), -want, true)
		checkOwed(t, charter(0, 100000, 7, 1), counts(100000-product, 0, -1), -want, true)
		checkOwed(t, charter(0, 1, product, 7), counts(1, 1, 0), want, true)
		checkOwed(t, charter(0, 1, 7, product), counts(0, 0, -1), -want, true)
	}
	checkOwed(t, charter(0, 0, mostMoney, 0), counts(0, 1, 0), 694444, true)
	checkOwed(t, charter(0, 3, 0, mostMoney), counts(1, 0, -1), -1388888, true)
}

func TestOwedAtTheGreatest(t *testing.T) {
	c := charter(0, 100000, mostMoney, mostMoney)
	checkOwed(t, c, counts(100000, lastMinute, 0), 69444444444444, true)
	checkOwed(t, c, counts(0, 0, -1), -69444444444, true)
	checkOwed(t, c, counts(1, 0, -1), -69443750000, true)
}

// Demurrage is for what is over, Despatch for what is left, and Late for
// neither.
func TestOwedLooksAtNothingElse(t *testing.T) {
	for _, late := range []int{math.MinInt, -2, -1, 0, 1, lastMinute, lastMinute + 1, math.MaxInt} {
		for _, other := range []int{0, 1, 1440, mostMoney} {
			checkOwed(t, charter(other%100001, 10, 1440, other), counts(10, 3, late), 3, true)
			checkOwed(t, charter(other%100001, 10, other, 1440), counts(7, 0, late), -3, true)
		}
	}
}

func TestOwedOfManyKinds(t *testing.T) {
	d := &draws{state: 153}
	for range 30000 {
		c := drawnCharter(d)
		n := counts([]int{c.Allowed, c.Allowed, d.between(0, c.Allowed), c.Allowed + 1, -1}[d.below(5)], []int{0, 0, 1, d.below(3000), d.below(lastMinute + 1)}[d.below(5)], d.below(9))
		want, ok := owedOf(c, n)
		checkOwed(t, c, n, want, ok)
	}
}

// A minute more that counts never makes the charterer owe less.
func TestOwedGrowsWithWhatCounts(t *testing.T) {
	d := &draws{state: 154}
	for range 300 {
		c, off := drawnCharter(d), drawnShort(d, 60)
		ahead := math.MinInt
		for done := range 90 {
			n, _ := impl.Counted(c, 0, done, off)
			owed, ok := impl.Owed(c, n)
			if !ok || owed < ahead {
				t.Fatal(c, off, done, n, owed, ok)
			}
			ahead = owed
		}
	}
}

// What Counted and Laid tell is always right for Owed.
func TestOwedTakesWhatIsCounted(t *testing.T) {
	d := &draws{state: 155}
	for range 5000 {
		c, off := drawnCharter(d), drawnSpells(d)
		begin, done := drawnStay(d, off, []int{2000, lastMinute}[d.below(2)])
		n, ok := impl.Counted(c, begin, done, off)
		want, isRight := owedOf(c, n)
		if !ok || !isRight {
			t.Fatal(c, begin, done, off, n, ok)
		}
		checkOwed(t, c, n, want, true)
		if parts := drawnShort(d, 60); len(parts) > 0 {
			n, ok := impl.Laid(c, parts, off)
			if owed, isOwed := impl.Owed(c, n); !ok || !isOwed || n.Over == 0 && owed > 0 {
				t.Fatal(c, parts, off, n, ok, owed)
			}
		}
	}
}

func TestStartsThenCounted(t *testing.T) {
	c, off := charter(30, 100, 14400, 7200), spellsOf(40, 60, 150, 200)
	begin, ok := impl.Starts(c, 20, off)
	if begin != 60 || !ok {
		t.Error(begin, ok)
	}
	for done, want := range map[int][2]int{60: {0, -500}, 100: {40, -300}, 150: {90, -50}, 175: {90, -50}, 200: {90, -50}, 205: {95, -25}, 210: {100, 0}, 211: {100, 10}, 250: {100, 400}} {
		n, _ := impl.Counted(c, begin, done, off)
		if owed, ok := impl.Owed(c, n); n.Used != want[0] || owed != want[1] || !ok {
			t.Error(done, n, owed, ok, "not", want)
		}
	}
	if !slices.Equal(off, spellsOf(40, 60, 150, 200)) {
		t.Error("written into", off)
	}
}
