package tests

import (
	"math"
	"slices"
	"testing"

	"loop.example/g00059/impl"
)

// Promise 17, of berths: who is given one lies clear.

func TestBerthConstants(t *testing.T) {
	got := []int{impl.MaxCalls, impl.MaxCranes, impl.MaxMoves, impl.MoveDone, impl.MoveBad, impl.MoveLimit, impl.MoveBlocked}
	if want := []int{24, 8, 60, 0, 1, 2, 3}; !slices.Equal(got, want) {
		t.Error(got, "not", want)
	}
}

func checkCallsOk(t *testing.T, long int, list calls, want bool) {
	t.Helper()
	if impl.CallsOk(long, list) != want {
		t.Error(long, list, "is", !want)
	}
}

func checkClear(t *testing.T, long int, list calls, want bool) {
	t.Helper()
	if impl.Clear17(long, list) != want {
		t.Error(long, list, "is", !want)
	}
}

func checkBerth(t *testing.T, long int, list calls, id, want int) {
	t.Helper()
	if got, ok := impl.Berth(long, list, id); got != want || ok != (want != -1) {
		t.Error(long, list, id, "got", got, ok, "not", want)
	}
}

func checkBerthAll(t *testing.T, long int, list, want calls, ok bool) {
	t.Helper()
	if got, told := impl.BerthAll(long, list); !slices.Equal(got, want) || told != ok {
		t.Error(long, list, "got", got, told, "not", want, ok)
	}
}

// checkPlaces tells only where each call lies then.
func checkPlaces(t *testing.T, long int, list calls, places ...int) {
	t.Helper()
	want := slices.Clone(list)
	for i := range want {
		want[i].At = places[i]
	}
	checkBerthAll(t, long, list, want, true)
}

func checkBound(t *testing.T, long int, list calls, want int, ok bool) {
	t.Helper()
	if got, told := impl.Bound17(long, list); got != want || told != ok {
		t.Error(long, list, "got", got, told, "not", want, ok)
	}
}

// The quay's own length, without calls and with one that fits the shortest.
func TestCallsOkOfQuays(t *testing.T) {
	for long, want := range map[int]bool{math.MinInt: false, -1: false, 0: false, 1: true, 2: true, 999: true, 1000: true, 1001: false, math.MaxInt: false} {
		for _, list := range []calls{nil, {}, {waiting(7, 1, 0, 1)}, {calling(7, 1, 0, 1, 0)}, {waiting(7, 1000, 0, 1)}, roadstead(24)} {
			checkCallsOk(t, long, list, want)
			checkClear(t, long, list, want)
		}
	}
}

func TestCallsOkAtTheirLimits(t *testing.T) {
	for name, list := range map[string]calls{
		"none": nil, "an empty list": {}, "one": roadstead(1), "23": roadstead(23), "24": roadstead(24),
		"Id 1": {waiting(1, 5, 0, 1)}, "Id 10^6": {waiting(1000000, 5, 0, 1)}, "Ids 1 and 10^6": {waiting(1, 5, 0, 1), waiting(1000000, 5, 0, 1)}, "Ids side by side": {waiting(4, 5, 0, 1), waiting(5, 5, 0, 1)},
		"Long 1": {waiting(7, 1, 0, 1)}, "just the quay's": {calling(7, 20, 0, 1, 0)}, "one more, without berth": {waiting(7, 21, 0, 1)}, "Long 1000, without berth": {waiting(7, 1000, 0, 1)},
		"the first minute": {waiting(7, 5, 0, 1)}, "the last minute": {waiting(7, 5, 99999999, 100000000)}, "all minutes": {waiting(7, 5, 0, 100000000)},
		"At 0": {calling(7, 5, 0, 1, 0)}, "the last that fits": {calling(7, 5, 0, 1, 15)}, "the last place": {calling(7, 1, 0, 1, 19)},
		"in one place at one time": {calling(3, 5, 0, 1, 5), calling(7, 5, 0, 1, 5)}, "unlike in time only by Id": {waiting(3, 5, 9, 10), waiting(7, 5, 0, 1)},
	} {
		if !impl.CallsOk(20, list) {
			t.Error(name, "is not ok")
		}
	}
	for name, list := range wrongCallLists() {
		if impl.CallsOk(20, list) {
			t.Error(name, "is ok")
		}
	}
}

// Each quay has each Long at just the places where it lies wholly on it.
func TestCallsOkAtEachPlace(t *testing.T) {
	for long := 1; long <= 6; long++ {
		for own := range 9 {
			for at := -3; at <= 8; at++ {
				want := own >= 1 && (at == -1 || at >= 0 && at+own <= long)
				checkCallsOk(t, long, calls{calling(7, own, 2, 3, at)}, want)
				checkClear(t, long, calls{calling(7, own, 2, 3, at)}, want)
			}
		}
	}
	for at := -2; at <= 1001; at++ {
		checkCallsOk(t, 1000, calls{calling(7, 1, 2, 3, at)}, at >= -1 && at < 1000)
		checkCallsOk(t, 1000, calls{calling(7, 1000, 2, 3, at)}, at == -1 || at == 0)
		checkCallsOk(t, 999, calls{calling(7, 1000, 2, 3, at)}, at == -1)
	}
}

func TestCallsOkAtEachMinute(t *testing.T) {
	last := 100000000
	for _, from := range []int{-2, -1, 0, 1, 2, last - 2, last - 1, last, last + 1} {
		for _, to := range []int{-1, 0, 1, 2, 3, last - 1, last, last + 1, last + 2} {
			want := from >= 0 && from < to && to <= last
			checkCallsOk(t, 9, calls{waiting(7, 3, from, to)}, want)
			checkCallsOk(t, 9, calls{calling(7, 3, from, to, 4)}, want)
		}
	}
}

// Calls that touch share nothing: one's To is the other's From, or one begins
// where the other ends.
func TestClearWhereCallsTouch(t *testing.T) {
	for name, list := range map[string]calls{
		"none": nil, "one": {calling(3, 20, 0, 9, 0)}, "in time": {calling(3, 20, 0, 5, 0), calling(7, 20, 5, 9, 0)}, "in time, turned": {calling(3, 20, 5, 9, 0), calling(7, 20, 0, 5, 0)},
		"in place": {calling(3, 5, 0, 9, 0), calling(7, 15, 0, 9, 5)}, "in place, turned": {calling(3, 15, 0, 9, 5), calling(7, 5, 0, 9, 0)}, "at a corner": {calling(3, 5, 0, 5, 0), calling(7, 15, 5, 9, 5)},
		"at the other corner": {calling(3, 5, 0, 5, 15), calling(7, 15, 5, 9, 0)}, "apart in both": {calling(3, 5, 0, 3, 0), calling(7, 5, 6, 9, 10)},
		"without berths": {waiting(3, 20, 0, 9), waiting(7, 20, 0, 9), waiting(9, 20, 0, 9)}, "one with and one without": {calling(3, 20, 0, 9, 0), waiting(7, 20, 0, 9)},
		"one behind the other": {calling(1, 9, 0, 2, 3), calling(2, 9, 2, 3, 3), calling(3, 9, 3, 7, 3), calling(4, 9, 7, 8, 3)}, "turned": {calling(1, 9, 7, 8, 3), calling(2, 9, 3, 7, 3), calling(3, 9, 2, 3, 3), calling(4, 9, 0, 2, 3)},
		"two for one": {calling(1, 20, 0, 4, 0), calling(2, 10, 4, 9, 0), calling(3, 10, 4, 9, 10)}, "one for two": {calling(1, 10, 0, 4, 0), calling(2, 10, 0, 3, 10), calling(3, 20, 4, 9, 0)},
		"at all minutes": {calling(1, 10, 0, 100000000, 0), calling(2, 10, 0, 100000000, 10)},
	} {
		if !impl.Clear17(20, list) {
			t.Error(name, "is not clear")
		}
	}
	for name, list := range unclearLists() {
		if !impl.CallsOk(20, list) {
			t.Error(name, "is no list of calls")
		}
		if impl.Clear17(20, list) {
			t.Error(name, "is clear")
		}
	}
	for name, list := range wrongCallLists() {
		if impl.Clear17(20, list) {
			t.Error(name, "is clear")
		}
	}
}

// grid has each place of the quay at each minute, and who is there.
func grid(list calls) map[[2]int]int {
	taken := map[[2]int]int{}
	for _, c := range list {
		for place := c.At; c.At >= 0 && place < c.At+c.Long; place++ {
			for minute := c.From; minute < c.To; minute++ {
				taken[[2]int{place, minute}]++
			}
		}
	}
	return taken
}

func isGridClear(list calls) bool {
	for _, count := range grid(list) {
		if count > 1 {
			return false
		}
	}
	return true
}

// smallCalls are all on a quay of so many places and minutes, also without berth.
func smallCalls(id, long, minutes int) calls {
	var all calls
	for own := 1; own <= long; own++ {
		for at := -1; at+own <= long; at++ {
			for from := range minutes {
				for to := from + 1; to <= minutes; to++ {
					all = append(all, calling(id, own, from, to, at))
				}
			}
		}
	}
	return all
}

// All pairs of calls on a small quay, by the places and minutes that each has.
func TestClearOfAllPairs(t *testing.T) {
	seen := map[bool]int{}
	for _, a := range smallCalls(1, 4, 4) {
		for _, b := range smallCalls(2, 4, 4) {
			want := isGridClear(calls{a, b})
			checkClear(t, 4, calls{a, b}, want)
			seen[want]++
		}
	}
	if seen[true] < 4000 || seen[false] < 4000 {
		t.Error("few of a kind", seen)
	}
}

func TestClearOfDrawnOnes(t *testing.T) {
	d := &draws{state: 210}
	seen := map[[2]bool]int{}
	for range 6000 {
		long := drawnQuay(d)
		list := drawnCalls(d, long)
		for range d.below(4) {
			spoilCalls(d, list)
		}
		isOk, isClear := callsOkOf(long, list), clearOf(long, list)
		checkCallsOk(t, long, list, isOk)
		checkClear(t, long, list, isClear)
		seen[[2]bool{isOk, isClear}]++
	}
	if seen[[2]bool{true, true}] < 1000 || seen[[2]bool{true, false}] < 300 || seen[[2]bool{false, false}] < 1000 {
		t.Error("few drawn", seen)
	}
}

func TestBerthByHand(t *testing.T) {
	list := calls{calling(1, 4, 0, 5, 0), waiting(2, 5, 4, 9), waiting(3, 6, 5, 9)}
	checkBerth(t, 10, list, 2, 4)
	checkBerth(t, 10, list, 3, 0)
	checkBerth(t, 10, list, 1, 0)
	checkBerth(t, 9, list, 2, 4)
	checkBerth(t, 8, list, 2, -1)
	checkBerth(t, 10, list, 4, -1)
	checkBerth(t, 10, list, 0, -1)
	checkBerth(t, 10, nil, 1, -1)
	checkBerth(t, 1, calls{waiting(7, 1, 0, 1)}, 7, 0)
	checkBerth(t, 1000, calls{waiting(7, 1000, 0, 100000000)}, 7, 0)
	checkBerth(t, 1000, calls{calling(3, 999, 0, 100000000, 0), waiting(7, 1, 0, 100000000)}, 7, 999)
	checkBerth(t, 1000, calls{calling(3, 999, 0, 100000000, 1), waiting(7, 1, 0, 100000000)}, 7, 0)
	checkBerth(t, 1000, calls{calling(3, 999, 0, 100000000, 1), waiting(7, 2, 0, 100000000)}, 7, -1)
}

// A call that has a berth is told the least one, wherever it lies; its own place
// is free for it.
func TestBerthOfOneThatLies(t *testing.T) {
	for at := range 16 {
		checkBerth(t, 20, calls{calling(7, 5, 0, 9, at)}, 7, 0)
	}
	for at := 3; at <= 15; at++ {
		checkBerth(t, 20, calls{calling(3, 3, 8, 12, 0), calling(7, 5, 0, 9, at)}, 7, 3)
	}
	full := calls{calling(3, 5, 0, 9, 0), calling(5, 10, 0, 9, 5), calling(7, 5, 0, 9, 15)}
	checkBerth(t, 20, full, 3, 0)
	checkBerth(t, 20, full, 5, 5)
	checkBerth(t, 20, full, 7, 15)
	checkBerth(t, 20, full, 6, -1)
}

// One gap that fits just so, wherever it is, and one that is one too short.
func TestBerthInTheOnlyGap(t *testing.T) {
	for gap := 1; gap <= 6; gap++ {
		for at := 0; at+gap <= 12; at++ {
			list := calls{}
			if at > 0 {
				list = append(list, calling(1, at, 0, 9, 0))
			}
			if at+gap < 12 {
				list = append(list, calling(2, 12-at-gap, 0, 9, at+gap))
			}
			for own := 1; own <= 13; own++ {
				want := -1
				if own <= gap {
					want = at
				}
				checkBerth(t, 12, append(slices.Clone(list), waiting(7, own, 8, 10)), 7, want)
				checkBerth(t, 12, append(slices.Clone(list), waiting(7, own, 0, 1)), 7, want)
			}
		}
	}
}

// Of several gaps the first that is long enough is taken, not the first nor the
// one that fits best.
func TestBerthInTheFirstGapThatFits(t *testing.T) {
	list := calls{calling(1, 2, 0, 9, 2), calling(2, 2, 0, 9, 7), calling(3, 2, 0, 9, 15), calling(4, 2, 0, 9, 20)}
	for own, want := range map[int]int{1: 0, 2: 0, 3: 4, 4: 9, 5: 9, 6: 9, 7: 22, 8: 22, 9: -1, 30: -1} {
		checkBerth(t, 30, append(slices.Clone(list), waiting(7, own, 3, 4)), 7, want)
	}
}

// Those who have gone by then, or come later, are in nobody's way; two that lie
// one behind the other in time are both.
func TestBerthByTime(t *testing.T) {
	early, late := calling(1, 6, 0, 5, 0), calling(2, 8, 5, 10, 4)
	for own, want := range map[[2]int]int{{4, 5}: 6, {0, 5}: 6, {5, 6}: 0, {5, 10}: 0, {4, 6}: -1, {10, 12}: 0, {9, 12}: 0, {0, 12}: -1} {
		checkBerth(t, 12, calls{early, late, waiting(7, 4, own[0], own[1])}, 7, want)
	}
	checkBerth(t, 16, calls{early, late, waiting(7, 4, 4, 6)}, 7, 12)
	checkBerth(t, 15, calls{early, late, waiting(7, 4, 4, 6)}, 7, -1)
	checkBerth(t, 16, calls{early, late, waiting(7, 4, 0, 100000000)}, 7, 12)
}

func TestBerthOfShipsThatAreTooLong(t *testing.T) {
	for long := 1; long <= 30; long++ {
		checkBerth(t, long, calls{waiting(7, long, 0, 1)}, 7, 0)
		checkBerth(t, long, calls{waiting(7, long+1, 0, 1)}, 7, -1)
		checkBerth(t, long, calls{waiting(7, 1000, 0, 1)}, 7, -1)
	}
	checkBerth(t, 999, calls{waiting(7, 1000, 0, 1)}, 7, -1)
}

// Others without berth are in nobody's way.
func TestBerthBesideOthersWithout(t *testing.T) {
	list := calls{waiting(1, 20, 0, 9), calling(2, 3, 0, 9, 0), waiting(3, 5, 0, 9), waiting(4, 17, 0, 9), waiting(5, 18, 0, 9)}
	for id, want := range map[int]int{1: -1, 2: 0, 3: 3, 4: 3, 5: -1} {
		checkBerth(t, 20, list, id, want)
	}
}

// All pairs of calls on a small quay, by trying each place on the grid.
func TestBerthOfAllPairs(t *testing.T) {
	seen := map[int]int{}
	for _, a := range smallCalls(1, 4, 3) {
		for _, b := range smallCalls(2, 4, 3) {
			want := -1
			for at := 4 - b.Long; at >= 0 && isGridClear(calls{a, b}); at-- {
				if isGridClear(calls{a, calling(2, b.Long, b.From, b.To, at)}) {
					want = at
				}
			}
			checkBerth(t, 4, calls{a, b}, 2, want)
			seen[want]++
		}
	}
	if len(seen) != 5 || seen[3] < 20 || seen[-1] < 500 {
		t.Error("few of a kind", seen)
	}
}

func TestBerthOfDrawnOnes(t *testing.T) {
	d := &draws{state: 211}
	seen := map[bool]int{}
	for range 2500 {
		long := min(drawnQuay(d), 120)
		list := drawnCalls(d, long)
		if d.below(8) == 0 {
			spoilCalls(d, list)
		}
		id := d.between(0, 41)
		if len(list) > 0 && d.below(8) != 0 {
			id = list[d.below(len(list))].Id
		}
		want, ok := berthOf(long, list, id)
		checkBerth(t, long, list, id, want)
		seen[ok]++
	}
	if seen[true] < 500 || seen[false] < 500 {
		t.Error("few drawn", seen)
	}
}

// Whoever is given a berth lies clear of all others there, at no lesser place
// would, and who is given none would nowhere.
func TestWhoIsGivenABerthLiesClear(t *testing.T) {
	d := &draws{state: 212}
	for range 1500 {
		long := min(drawnQuay(d), 60)
		list := drawnCalls(d, long)
		for i, own := range list {
			got, ok := impl.Berth(long, list, own.Id)
			for at := 0; at+own.Long <= long; at++ {
				own.At = at
				isClear := impl.Clear17(long, withCall(list, i, own))
				if isClear != (ok && at == got) && (!ok || at <= got) {
					t.Fatal(long, list, own.Id, "at", at, "and told", got, ok)
				}
			}
			if ok && got+own.Long > long {
				t.Fatal("beyond the quay", long, list, own.Id, got)
			}
		}
	}
}
