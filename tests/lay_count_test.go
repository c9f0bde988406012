package tests

import (
	"slices"
	"testing"

	"loop.example/g00059/impl"
)

func checkCounted(t *testing.T, c impl.Charter, begin, done int, off spells, want impl.Count, ok bool) {
	t.Helper()
	if got, told := impl.Counted(c, begin, done, off); got != want || told != ok {
		t.Error(c, begin, done, off, "got", got, told, "not", want, ok)
	}
}

func TestCountedByHand(t *testing.T) {
	c, off := charter(10, 100, 1440, 720), spellsOf(20, 40)
	for done, want := range map[int]impl.Count{
		0: counts(0, 0, -1), 1: counts(1, 0, -1), 20: counts(20, 0, -1), 21: counts(20, 0, -1), 40: counts(20, 0, -1), 41: counts(21, 0, -1),
		119: counts(99, 0, -1), 120: counts(100, 0, -1), 121: counts(100, 1, 120), 150: counts(100, 30, 120),
	} {
		checkCounted(t, c, 0, done, off, want, true)
	}
	checkCounted(t, c, 30, 150, off, counts(100, 10, 140), true)
	checkCounted(t, c, 50, 150, off, counts(100, 0, -1), true)
	checkCounted(t, c, 0, 150, nil, counts(100, 50, 100), true)
	checkCounted(t, c, 0, 150, spells{}, counts(100, 50, 100), true)
}

func TestCountedOfNoMinute(t *testing.T) {
	for _, minute := range []int{0, 1, 19, 20, 30, 39, 40, lastMinute - 1, lastMinute} {
		for _, allowed := range []int{0, 1, 100000} {
			for _, off := range []spells{nil, spellsOf(20, 40), spellsOf(0, lastMinute)} {
				checkCounted(t, allowing(allowed), minute, minute, off, counts(0, 0, -1), true)
				if minute > 0 {
					checkCounted(t, allowing(allowed), minute, minute-1, off, impl.Count{}, false)
				}
			}
		}
	}
}

func TestCountedOfOneMinute(t *testing.T) {
	for minute, isOff := range map[int]bool{18: false, 19: false, 20: true, 21: true, 39: true, 40: false, 41: false} {
		off := spellsOf(20, 40)
		checkCounted(t, allowing(0), minute, minute+1, off, counts(0, 1, minute), true)
		want := counts(1, 0, -1)
		if isOff {
			want = counts(0, 0, -1)
		}
		checkCounted(t, allowing(1), minute, minute+1, off, want, true)
		checkCounted(t, allowing(2), minute, minute+1, off, want, true)
	}
}

func TestCountedAtTheBounds(t *testing.T) {
	c := allowing(100)
	checkCounted(t, c, 0, lastMinute, nil, counts(100, lastMinute-100, 100), true)
	checkCounted(t, c, -1, 100, nil, impl.Count{}, false)
	checkCounted(t, c, -1, -1, nil, impl.Count{}, false)
	checkCounted(t, c, 0, lastMinute+1, nil, impl.Count{}, false)
	checkCounted(t, c, lastMinute+1, lastMinute+1, nil, impl.Count{}, false)
	checkCounted(t, c, lastMinute-50, lastMinute, nil, counts(50, 0, -1), true)
	checkCounted(t, c, lastMinute-101, lastMinute, nil, counts(100, 1, lastMinute-1), true)
	checkCounted(t, c, 0, lastMinute, spellsOf(0, lastMinute), counts(0, 0, -1), true)
	checkCounted(t, c, 0, lastMinute, spellsOf(0, lastMinute-1), counts(1, 0, -1), true)
	checkCounted(t, c, 0, lastMinute, spellsOf(1, lastMinute), counts(1, 0, -1), true)
	checkCounted(t, c, 0, lastMinute, spellsOf(100, lastMinute), counts(100, lastMinute-100, 100), true)
	checkCounted(t, c, 0, lastMinute, spellsOf(99, lastMinute), counts(99, 0, -1), true)
	checkCounted(t, allowing(100000), 0, lastMinute, nil, counts(100000, lastMinute-100000, 100000), true)
	checkCounted(t, allowing(0), 0, lastMinute, spellsOf(0, lastMinute), counts(0, lastMinute, 0), true)
}

// With none allowed each minute is over, whatever it lies in.
func TestCountedWithNoneAllowed(t *testing.T) {
	c := allowing(0)
	for _, off := range []spells{nil, spellsOf(0, 100), spellsOf(10, 20), spellsOf(20, 30), spellsOf(25, 40), spellsOf(0, 10, 10, 20, 20, 30), spellsOf(29, 30), spellsOf(30, 40)} {
		checkCounted(t, c, 20, 30, off, counts(0, 10, 20), true)
		checkCounted(t, c, 20, 20, off, counts(0, 0, -1), true)
		checkCounted(t, c, 0, 30, off, counts(0, 30, 0), true)
	}
}

// Late is the minute just behind the last that was allowed, also where that
// one lies in a spell or begins it.
func TestCountedWhereAllowedIsUsedUp(t *testing.T) {
	off := spellsOf(20, 40)
	for allowed, want := range map[int]impl.Count{
		9: counts(9, 51, 19), 10: counts(10, 50, 20), 11: counts(11, 29, 41), 12: counts(12, 28, 42),
		39: counts(39, 1, 69), 40: counts(40, 0, -1), 41: counts(40, 0, -1), 0: counts(0, 60, 10), 1: counts(1, 59, 11),
	} {
		checkCounted(t, allowing(allowed), 10, 70, off, want, true)
	}
	checkCounted(t, allowing(10), 10, 20, off, counts(10, 0, -1), true)
	checkCounted(t, allowing(10), 10, 21, off, counts(10, 1, 20), true)
	checkCounted(t, allowing(10), 10, 40, off, counts(10, 20, 20), true)
	checkCounted(t, allowing(10), 10, 41, off, counts(10, 21, 20), true)
	checkCounted(t, allowing(11), 10, 40, off, counts(10, 0, -1), true)
	checkCounted(t, allowing(11), 10, 41, off, counts(11, 0, -1), true)
	checkCounted(t, allowing(11), 10, 42, off, counts(11, 1, 41), true)
	checkCounted(t, allowing(1), 30, 50, off, counts(1, 9, 41), true)
}

// What is used up between two spells, or where they touch.
func TestCountedWhereSpellsFollow(t *testing.T) {
	apart, touching := spellsOf(10, 20, 25, 35, 50, 60), spellsOf(10, 20, 20, 35, 35, 60)
	for allowed, want := range map[int]impl.Count{
		9: counts(9, 61, 9), 10: counts(10, 60, 10), 11: counts(11, 49, 21), 14: counts(14, 46, 24), 15: counts(15, 45, 25), 16: counts(16, 34, 36),
		30: counts(30, 20, 50), 31: counts(31, 9, 61), 39: counts(39, 1, 69), 40: counts(40, 0, -1), 41: counts(40, 0, -1),
	} {
		checkCounted(t, allowing(allowed), 0, 70, apart, want, true)
	}
	for allowed, want := range map[int]impl.Count{9: counts(9, 61, 9), 10: counts(10, 60, 10), 11: counts(11, 9, 61), 19: counts(19, 1, 69), 20: counts(20, 0, -1)} {
		checkCounted(t, allowing(allowed), 0, 70, touching, want, true)
	}
}

func TestCountedWithinSpells(t *testing.T) {
	for _, off := range []spells{spellsOf(20, 30), spellsOf(0, 100), spellsOf(20, 25, 25, 30), spellsOf(0, 21, 21, 29, 29, 99), spellsOf(5, 20, 20, 30, 30, 40)} {
		for _, allowed := range []int{1, 10, 100000} {
			checkCounted(t, allowing(allowed), 20, 30, off, counts(0, 0, -1), true)
		}
	}
	checkCounted(t, allowing(1), 19, 30, spellsOf(20, 30), counts(1, 10, 20), true)
	checkCounted(t, allowing(1), 20, 31, spellsOf(20, 30), counts(1, 0, -1), true)
	checkCounted(t, allowing(1), 20, 32, spellsOf(20, 30), counts(1, 1, 31), true)
}

// Spells ahead of begin and from done on are of no matter.
func TestCountedBesideSpells(t *testing.T) {
	for _, off := range []spells{nil, spellsOf(0, 20), spellsOf(60, 70), spellsOf(0, 20, 60, 70), spellsOf(0, 5, 10, 20, 60, 61, 61, lastMinute)} {
		checkCounted(t, allowing(30), 20, 60, off, counts(30, 10, 50), true)
		checkCounted(t, allowing(40), 20, 60, off, counts(40, 0, -1), true)
		checkCounted(t, allowing(50), 20, 60, off, counts(40, 0, -1), true)
	}
	for allowed, want := range map[int]impl.Count{0: counts(0, 40, 20), 1: counts(1, 29, 31), 20: counts(20, 10, 50), 21: counts(20, 0, -1)} {
		checkCounted(t, allowing(allowed), 20, 60, spellsOf(10, 30, 50, 70), want, true)
	}
}

// Notice and money are of no matter.
func TestCountedLooksAtNothingElse(t *testing.T) {
	for _, c := range []impl.Charter{charter(0, 5, 0, 0), charter(100000, 5, 0, 0), charter(0, 5, mostMoney, 0), charter(0, 5, 0, mostMoney)} {
		checkCounted(t, c, 0, 30, spellsOf(3, 9), counts(5, 19, 11), true)
		checkLaid(t, c, spellsOf(0, 4, 5, 30), spellsOf(3, 9), counts(5, 19, 11), true)
	}
}

func TestCountedOfManyKinds(t *testing.T) {
	d := &draws{state: 156}
	for range 20000 {
		off := drawnShort(d, 60)
		begin, done := drawnStay(d, off, 80)
		c := allowing([]int{0, 1, d.below(30), d.below(90), 100000}[d.below(5)])
		want, ok := countedByMinute(c, begin, done, off)
		checkCounted(t, c, begin, done, off, want, ok)
		if other, _ := countedOf(c, begin, done, off); other != want {
			t.Fatal(c, begin, done, off, other, "not", want)
		}
	}
	for range 10000 {
		c, off := drawnCharter(d), drawnSpells(d)
		begin, done := drawnStay(d, off, []int{2000, 200000, lastMinute}[d.below(3)])
		want, ok := countedOf(c, begin, done, off)
		checkCounted(t, c, begin, done, off, want, ok)
	}
}

// Minutes that count and minutes that do not are all minutes: those that do
// not are just the ones of spells ahead of Late.
func TestMinutesThatCountAndThoseThatDoNotAreAll(t *testing.T) {
	d := &draws{state: 157}
	for range 20000 {
		c, off := drawnCharter(d), drawnShort(d, 60)
		if d.below(3) == 0 {
			off = drawnSpells(d)
		}
		begin, done := drawnStay(d, off, []int{80, 2000, lastMinute}[d.below(3)])
		n, ok := impl.Counted(c, begin, done, off)
		until := done
		if n.Late != -1 {
			until = n.Late
		}
		idle := impl.WorkIn(off, begin, until)
		if !ok || n.Used+n.Over+idle != done-begin || n.Used != until-begin-idle || n.Over != done-until {
			t.Fatal(c, begin, done, off, n, idle)
		}
		if n.Used < 0 || n.Used > c.Allowed || n.Over > 0 && n.Used != c.Allowed || (n.Over > 0) != (n.Late != -1) {
			t.Fatal(c, begin, done, off, n)
		}
	}
}

// Behind the first minute that is over every one is over: Late stays where it
// is, and each minute more counts.
func TestOnceOverAllIsOver(t *testing.T) {
	d := &draws{state: 158}
	for range 2000 {
		off := drawnShort(d, 60)
		c := allowing(d.below(40))
		begin := d.below(30)
		ahead := counts(0, 0, -1)
		for done := begin; done <= 140; done++ {
			n, ok := impl.Counted(c, begin, done, off)
			if !ok {
				t.Fatal(c, begin, done, off)
			}
			if ahead.Over > 0 && n != counts(ahead.Used, ahead.Over+1, ahead.Late) {
				t.Fatal(c, begin, done, off, n, "behind", ahead)
			}
			if ahead.Over == 0 && n.Over > 0 && n != counts(c.Allowed, 1, done-1) {
				t.Fatal(c, begin, done, off, n, "behind", ahead)
			}
			ahead = n
		}
		if ahead.Over == 0 {
			t.Fatal(c, begin, off, "is never over")
		}
	}
}

func checkLaid(t *testing.T, c impl.Charter, parts, off spells, want impl.Count, ok bool) {
	t.Helper()
	if got, told := impl.Laid(c, parts, off); got != want || told != ok {
		t.Error(c, parts, off, "got", got, told, "not", want, ok)
	}
}

func TestLaidByHand(t *testing.T) {
	c, off := allowing(100), spellsOf(20, 40)
	checkLaid(t, c, spellsOf(0, 60, 60, 150), off, counts(100, 30, 120), true)
	checkLaid(t, c, spellsOf(0, 150), off, counts(100, 30, 120), true)
	checkLaid(t, c, spellsOf(0, 30, 50, 150), off, counts(100, 20, 130), true)
	checkLaid(t, c, spellsOf(0, 10, 50, 100), off, counts(60, 0, -1), true)
	checkLaid(t, c, spellsOf(0, 1), nil, counts(1, 0, -1), true)
	checkLaid(t, c, spellsOf(20, 40), off, counts(0, 0, -1), true)
	checkLaid(t, c, spellsOf(20, 30, 30, 40), off, counts(0, 0, -1), true)
}

func TestLaidOfNoPart(t *testing.T) {
	for _, c := range []impl.Charter{{}, allowing(5), charter(100000, 100000, mostMoney, mostMoney)} {
		for _, off := range []spells{nil, spellsOf(0, 10)} {
			checkLaid(t, c, nil, off, impl.Count{}, false)
			checkLaid(t, c, spells{}, off, impl.Count{}, false)
		}
	}
}

// What is used up in a part is used up for all that come behind, so that the
// spells help in none of them.
func TestLaidWhereAllowedIsUsedUp(t *testing.T) {
	parts, off := spellsOf(10, 20, 30, 40, 50, 60, 70, 80), spellsOf(15, 18, 30, 33, 52, 60, 65, 90)
	for allowed, want := range map[int]impl.Count{
		0: counts(0, 40, 10), 1: counts(1, 39, 11), 5: counts(5, 35, 15), 6: counts(6, 31, 19), 7: counts(7, 30, 30), 8: counts(8, 26, 34),
		13: counts(13, 21, 39), 14: counts(14, 20, 50), 15: counts(15, 19, 51), 16: counts(16, 18, 52), 17: counts(16, 0, -1), 100000: counts(16, 0, -1),
	} {
		checkLaid(t, allowing(allowed), parts, off, want, true)
	}
	checkLaid(t, allowing(10), spellsOf(10, 20), nil, counts(10, 0, -1), true)
	checkLaid(t, allowing(10), spellsOf(10, 20, 20, 30), nil, counts(10, 10, 20), true)
	checkLaid(t, allowing(10), spellsOf(10, 20, 25, 30), spellsOf(25, 30), counts(10, 5, 25), true)
	checkLaid(t, allowing(11), spellsOf(10, 20, 25, 30), spellsOf(25, 30), counts(10, 0, -1), true)
	checkLaid(t, allowing(10), spellsOf(10, 20, 25, 30, 31, 32), spellsOf(19, 30), counts(10, 0, -1), true)
	checkLaid(t, allowing(10), spellsOf(10, 20, 25, 30, 31, 33), spellsOf(19, 30), counts(10, 1, 32), true)
}

// Late is where minutes are first over, not where Allowed ran out: nothing
// counts between two parts.
func TestLaidIsLateOnlyInAPart(t *testing.T) {
	for gap := range 20 {
		checkLaid(t, allowing(10), spellsOf(0, 10, 10+gap, 20+gap), nil, counts(10, 10, 10+gap), true)
		checkLaid(t, allowing(10), spellsOf(0, 10, 10+gap, 20+gap), spellsOf(10, 100), counts(10, 10, 10+gap), true)
		checkLaid(t, allowing(0), spellsOf(gap, gap+10), spellsOf(0, 100), counts(0, 10, gap), true)
	}
	checkLaid(t, allowing(0), spellsOf(0, 5, 8, 9), nil, counts(0, 6, 0), true)
}

func TestLaidAtTheBounds(t *testing.T) {
	checkLaid(t, allowing(100), spellsOf(0, lastMinute), nil, counts(100, lastMinute-100, 100), true)
	checkLaid(t, allowing(0), spellsOf(0, 5, 5, lastMinute), spellsOf(0, lastMinute), counts(0, lastMinute, 0), true)
	checkLaid(t, allowing(100), spellsOf(0, lastMinute+1), nil, impl.Count{}, false)
	checkLaid(t, allowing(3), spellsOf(lastMinute-4, lastMinute), nil, counts(3, 1, lastMinute-1), true)
	row, gaps := spells{}, spells{}
	for i := range 100 {
		row = append(row, impl.Spell{From: 2 * i, To: 2*i + 2})
		gaps = append(gaps, impl.Spell{From: 2 * i, To: 2*i + 1})
	}
	checkLaid(t, allowing(60), row, gaps, counts(60, 80, 120), true)
	checkLaid(t, allowing(100), row, gaps, counts(100, 0, -1), true)
	checkLaid(t, allowing(60), append(row, impl.Spell{From: 300, To: 301}), gaps, impl.Count{}, false)
	checkLaid(t, allowing(60), row, append(gaps, impl.Spell{From: 300, To: 301}), impl.Count{}, false)
}

func TestLaidOfManyKinds(t *testing.T) {
	d := &draws{state: 159}
	for range 20000 {
		c, off, parts := drawnCharter(d), drawnShort(d, 60), drawnShort(d, 80)
		if d.below(4) == 0 {
			off, parts = drawnSpells(d), drawnSpells(d)
		}
		want, ok := laidOf(c, parts, off)
		checkLaid(t, c, parts, off, want, ok)
	}
}

// A call in two parts that touch comes to the whole, wherever it is cut.
func TestPartsThatTouchComeToTheWhole(t *testing.T) {
	d := &draws{state: 160}
	for range 3000 {
		off := drawnShort(d, 60)
		c := allowing(d.below(60))
		begin, done := drawnStay(d, off, 80)
		want, _ := impl.Counted(c, begin, done, off)
		for cut := begin + 1; cut < done; cut++ {
			checkLaid(t, c, spellsOf(begin, cut, cut, done), off, want, true)
		}
		if begin < done {
			checkLaid(t, c, spellsOf(begin, done), off, want, true)
		}
	}
}

// So does one in as many parts as there may be.
func TestManyPartsThatTouchComeToTheWhole(t *testing.T) {
	d := &draws{state: 161}
	for range 3000 {
		c, off := drawnCharter(d), drawnSpells(d)
		cuts := []int{}
		for range d.between(2, 101) {
			cut, _ := drawnStay(d, off, []int{300, 20000, lastMinute}[d.below(3)])
			cuts = append(cuts, cut)
		}
		slices.Sort(cuts)
		cuts = slices.Compact(cuts)
		if len(cuts) < 2 {
			continue
		}
		parts := spells{}
		for i, cut := range cuts[1:] {
			parts = append(parts, impl.Spell{From: cuts[i], To: cut})
		}
		want, ok := impl.Counted(c, cuts[0], cuts[len(cuts)-1], off)
		checkLaid(t, c, parts, off, want, ok)
	}
}
