package tests

import (
	"fmt"
	"runtime"
	"slices"
	"testing"
	"time"

	"loop.example/g00059/impl"
)

// Promise 19: carts that move come to rest. And the outcome is one, whichever
// goroutine runs first.

func checkSettle(t *testing.T, f impl.Floor, list carts, rounds int, want carts, count int, all bool) {
	t.Helper()
	if got, told, isAll := impl.Settle19(f, list, rounds); !slices.Equal(got, want) || told != count || isAll != all {
		t.Error(f, list, rounds, "got", got, told, isAll, "not", want, count, all)
	}
}

func checkNoSettle(t *testing.T, f impl.Floor, list carts, rounds int) {
	t.Helper()
	checkSettle(t, f, list, rounds, nil, 0, false)
}

func TestSettle19ByHand(t *testing.T) {
	line := lanes("-----")
	list := carts{going19(0, 4), going19(2, 3), parked(1)}
	checkSettle(t, line, list, 9, standAt(list, 0, 3, 1), 1, false)
	list = carts{going19(0, 3), going19(2, 4)}
	checkSettle(t, line, list, 0, list, 0, false)
	checkSettle(t, line, list, 1, standAt(list, 1, 3), 1, false)
	checkSettle(t, line, list, 2, standAt(list, 2, 4), 2, false)
	checkSettle(t, line, list, 3, standAt(list, 3, 4), 3, true)
	checkSettle(t, line, list, 4, standAt(list, 3, 4), 3, true)
	checkSettle(t, line, list, 200, standAt(list, 3, 4), 3, true)
	ring, _ := impl.OneWay(3, 2)
	list = carts{going19(1, 0), going19(0, 3), parked(4)}
	checkSettle(t, ring, list, 200, standAt(list, 5, 2, 4), 2, false)
	list[2] = going19(4, 3)
	checkSettle(t, ring, list, 200, standAt(list, 4, 5, 3), 3, false)
}

// Of rounds there may be none, and MaxRounds; the number is bounded whatever the
// carts do.
func TestSettle19AtItsLimits(t *testing.T) {
	line := lanes(">>>")
	for _, c := range []struct {
		list, rest carts
		count      int
		all        bool
	}{
		{nil, nil, 0, true},
		{carts{}, nil, 0, true},
		{carts{parked(1)}, carts{parked(1)}, 0, true},
		{carts{going19(1, 1)}, carts{going19(1, 1)}, 0, true},
		{carts{going19(1, 0)}, carts{going19(1, 0)}, 0, false},
		{carts{going19(0, 1)}, carts{going19(1, 1)}, 1, true},
		{carts{going19(0, 2), going19(1, 2)}, carts{going19(1, 2), going19(2, 2)}, 1, false},
	} {
		for _, rounds := range []int{1, 2, 199, 200} {
			checkSettle(t, line, c.list, rounds, c.rest, c.count, c.all)
		}
		checkSettle(t, line, c.list, 0, c.list, 0, c.all && c.count == 0)
		for _, rounds := range []int{-200, -2, -1, 201, 202, 1000} {
			checkNoSettle(t, line, c.list, rounds)
		}
	}
}

// Carts that come to rest just behind the last round that is allowed, and in the
// one after it.
func TestSettle19ToTheLastRound(t *testing.T) {
	f, list := snake(), carts{going19(0, 90)}
	for rounds := range 104 {
		at, place := min(rounds, 99), 0
		for range at {
			place = leadsTo(f, place)[0]
		}
		checkSettle(t, f, list, rounds, carts{going19(place, 90)}, at, rounds >= 99)
	}
	// A row as long as there may be, the last of which has the longest way.
	var row carts
	for at := range 12 {
		row = append(row, going19(hopsAway(f, 90, 99-at), hopsAway(f, 90, 11-at)))
	}
	for _, order := range []carts{row, reversedCarts(row)} {
		var there carts
		for _, c := range order {
			there = append(there, going19(c.Goal, c.Goal))
		}
		checkSettle(t, f, order, 88, there, 88, true)
		checkSettle(t, f, order, 89, there, 88, true)
		checkSettle(t, f, order, 200, there, 88, true)
		if got, count, all := impl.Settle19(f, order, 87); count != 87 || all || slices.Equal(got, there) {
			t.Error(got, count, all)
		}
	}
}

// hopsAway is the first place from which so many steps lead to a goal.
func hopsAway(f impl.Floor, goal, many int) int { return slices.Index(hopsOf(f, goal), many) }

// Carts that stand for ever, not at their Goals.
func TestSettle19OfThoseThatStandForEver(t *testing.T) {
	for name, c := range map[string]struct {
		f    impl.Floor
		list carts
	}{
		"each wants the other's place": {lanes("--"), carts{going19(0, 1), going19(1, 0)}},
		"no steps":                     {lanes(".."), carts{going19(0, 1)}},
		"behind one that is parked":    {lanes(">>>"), carts{going19(0, 2), parked(1)}},
		"behind one at its Goal":       {lanes(">>>"), carts{going19(0, 1), going19(1, 1)}},
		"a ring with one that stays":   {lanes(">v", "^<"), carts{going19(0, 2), going19(1, 0), going19(3, 1), parked(2)}},
		"two rows head on":             {lanes("----"), carts{going19(0, 3), going19(1, 3), going19(2, 0), going19(3, 0)}},
	} {
		for _, rounds := range []int{0, 1, 200} {
			if got, count, all := impl.Settle19(c.f, c.list, rounds); !slices.Equal(got, c.list) || count != 0 || all {
				t.Error(name, got, count, all)
			}
		}
	}
	near := carts{going19(0, 4), going19(3, 3), parked(4)}
	checkSettle(t, lanes(">>>>."), near, 200, standAt(near, 2, 3, 4), 2, false)
}

// Carts meet, wait and go on, until they have changed sides by way of a ring.
func TestSettle19ByWayOfARing(t *testing.T) {
	f, _ := impl.OneWay(4, 3)
	list := carts{going19(0, 11), going19(11, 0), going19(3, 8), going19(8, 3), parked(5), going19(6, 6)}
	want, count, all := settle19Of(f, list, 200)
	if !all || count < 4 {
		t.Fatal(want, count, all)
	}
	checkSettle(t, f, list, 200, want, count, true)
	checkSettle(t, f, list, count, want, count, true)
	short, _, _ := settle19Of(f, list, count-1)
	checkSettle(t, f, list, count-1, short, count-1, false)
}

func TestSettle19OfDrawnTraffic(t *testing.T) {
	d := &draws{state: 275}
	seen := map[bool]int{}
	for range 2500 {
		f, list := drawnTraffic(d)
		for _, rounds := range []int{d.between(0, 3), d.between(0, 200), 200} {
			want, count, all := settle19Of(f, list, rounds)
			checkSettle(t, f, list, rounds, want, count, all)
			seen[all]++
		}
	}
	if min(seen[true], seen[false]) < 1000 {
		t.Error("few drawn", seen)
	}
}

// Round by round: none meet, all that move are nearer, and so all comes to rest; a
// number of rounds is as many of them, one behind the other.
func TestSettle19IsItsRounds(t *testing.T) {
	d := &draws{state: 276}
	longest := 0
	for range 1200 {
		f, list := drawnTraffic(d)
		now, count := list, 0
		for {
			next, moved, ok := impl.Round(f, now)
			if !ok {
				t.Fatal(f, now)
			}
			checkNearer(t, f, now, next, moved)
			if len(moved) == 0 {
				break
			}
			now, count = next, count+1
			if count < 6 {
				checkSettle(t, f, list, count, now, count, areThere(now))
			}
			if count > 200 {
				t.Fatal("no rest", f, list, now)
			}
		}
		checkSettle(t, f, list, 200, now, count, areThere(now))
		checkSettle(t, f, list, count, now, count, areThere(now))
		checkSettle(t, f, now, 200, now, 0, areThere(now))
		longest = max(longest, count)
	}
	if longest < 10 {
		t.Error("few rounds", longest)
	}
}

func areThere(list carts) bool {
	return !slices.ContainsFunc(list, func(c impl.Cart) bool { return c.Goal != -1 && c.Goal != c.At })
}

// At rest, those that are stuck are all that steps would lead on.
func TestStuckAtRest(t *testing.T) {
	d := &draws{state: 277}
	for range 1500 {
		f, list := drawnTraffic(d)
		rest, _, all := impl.Settle19(f, list, 200)
		var want []int
		for i, c := range rest {
			if c.Goal != -1 && hopsOf(f, c.Goal)[c.At] > 0 {
				want = append(want, i)
			}
		}
		checkStuck(t, f, rest, want...)
		if all && len(want) > 0 {
			t.Fatal(f, list, rest)
		}
	}
}

// withProcs runs it with so many goroutines at once.
func withProcs(count int, run func()) {
	was := runtime.GOMAXPROCS(count)
	defer runtime.GOMAXPROCS(was)
	run()
}

// trafficTold are the answers to the same traffic, as one text.
func trafficTold(floors []impl.Floor, lists []carts) string {
	told := ""
	for i, f := range floors {
		now, moved, ok := impl.Round(f, lists[i])
		rest, count, all := impl.Settle19(f, lists[i], 200)
		stuck, isOk := impl.Stuck(f, lists[i])
		told += fmt.Sprintln(now, moved, ok, rest, count, all, stuck, isOk)
	}
	return told
}

// Whatever goroutine runs first: with one processor and many, alone and beside
// others that never rest, the same is told each time.
func TestRoundsHaveOneOutcome(t *testing.T) {
	d := &draws{state: 278}
	var floors []impl.Floor
	var lists []carts
	for range 60 {
		f, list := crammed(d)
		floors, lists = append(floors, f), append(lists, list)
	}
	want := trafficTold(floors, lists)
	check := func() {
		if got := trafficTold(floors, lists); got != want {
			t.Error("got", got, "not", want)
		}
	}
	for range 5 {
		for _, procs := range []int{1, 2, 3, 8} {
			withProcs(procs, check)
		}
	}
	over := make(chan bool)
	for range 4 {
		go func() {
			for {
				select {
				case <-over:
					return
				default:
					runtime.Gosched()
				}
			}
		}()
	}
	for _, procs := range []int{1, 2, 8} {
		withProcs(procs, check)
	}
	close(over)
}

// All goroutines have ended when a call answers, but for what their own end takes.
func TestCartsLeaveNoGoroutine(t *testing.T) {
	f, _ := impl.OneWay(10, 10)
	before := runtime.NumGoroutine()
	for range 50 {
		list := parkedUpTo(12)
		for i := range list {
			list[i].Goal = 99 - i
		}
		impl.Round(f, list)
		impl.Stuck(f, list)
		impl.Settle19(f, list, 200)
		impl.Settle19(f, list, 3)
		impl.Round(f, append(list, list...))
		impl.Settle19(f, list, 201)
	}
	for range 100 {
		if runtime.NumGoroutine() <= before {
			return
		}
		time.Sleep(time.Millisecond)
	}
	t.Error(before, "goroutines ahead, then", runtime.NumGoroutine())
}
