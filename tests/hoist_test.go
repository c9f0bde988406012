package tests

import (
	"slices"
	"testing"

	"loop.example/g00059/impl"
)

// Promise 20, of hoists: nothing too heavy goes up, and each signal does what its
// State lets it.

func checkSignal(t *testing.T, h impl.Hoist, s impl.Signal, want impl.Hoist) {
	t.Helper()
	if got, ok := impl.DoSignal(h, s); !ok || got != want {
		t.Error(h, s, "got", got, ok, "not", want)
	}
}

// checkNoSignal is a signal that is refused, which leaves the hoist as it was.
func checkNoSignal(t *testing.T, h impl.Hoist, s impl.Signal) {
	t.Helper()
	if got, ok := impl.DoSignal(h, s); ok || got != h {
		t.Error(h, s, "got", got, ok)
	}
}

// checkAsTold holds an answer against the chapter's words.
func checkAsTold(t *testing.T, h impl.Hoist, s impl.Signal) bool {
	t.Helper()
	want, ok := doSignalOf(h, s)
	if ok {
		checkSignal(t, h, s, want)
	} else {
		checkNoSignal(t, h, s)
	}
	return ok
}

func checkHoistOk(t *testing.T, h impl.Hoist, want bool) {
	t.Helper()
	if impl.HoistOk(h) != want {
		t.Error(h, "is", !want)
	}
}

func TestHoistOkAtItsLimits(t *testing.T) {
	for name, h := range map[string]impl.Hoist{
		"zero value": {}, "all heights 10000": {Lowest: 10000, Height: 10000, Highest: 10000}, "from end to end": {Height: 5000, Highest: 10000}, "at Lowest": hoistAt(0, 10), "one above Lowest": hoistAt(0, 11), "at Highest": hoistAt(0, 20), "one below Highest": hoistAt(0, 19),
		"Load 0": withLoad(hoistAt(0, 15), 0), "Load at Limit": withLoad(hoistAt(0, 15), 500), "Load above Limit": withLoad(hoistAt(0, 15), 501), "Load 10^6": withLoad(hoistAt(0, 15), 1000000), "Limit 10^6": {Limit: 1000000}, "Limit 0": {Load: 7},
	} {
		for state := range 4 {
			for reset := range 2 {
				if !impl.HoistOk(withReset(withState(h, state), reset)) {
					t.Error(name, "is not ok in State", state, reset)
				}
			}
		}
	}
	for name, h := range wrongHoists() {
		if impl.HoistOk(h) {
			t.Error(name, "is ok")
		}
	}
}

// Each bound, and one beyond it.
func TestHoistOkByItsBounds(t *testing.T) {
	for _, n := range []int{-2, -1, 0, 1, 2, 3, 4, 5, 9999, 10000, 10001, 999999, 1000000, 1000001} {
		checkHoistOk(t, impl.Hoist{State: n}, n >= 0 && n <= 3)
		checkHoistOk(t, impl.Hoist{Load: n}, n >= 0 && n <= 1000000)
		checkHoistOk(t, impl.Hoist{Limit: n}, n >= 0 && n <= 1000000)
		checkHoistOk(t, impl.Hoist{Reset: n}, n == 0 || n == 1)
		checkHoistOk(t, impl.Hoist{Highest: n}, n >= 0 && n <= 10000)
		checkHoistOk(t, impl.Hoist{Height: n, Highest: 10000}, n >= 0 && n <= 10000)
		checkHoistOk(t, impl.Hoist{Height: n, Highest: n}, n >= 0 && n <= 10000)
		checkHoistOk(t, impl.Hoist{Lowest: n, Height: 10000, Highest: 10000}, n >= 0 && n <= 10000)
		checkHoistOk(t, impl.Hoist{Lowest: n, Height: n, Highest: n}, n >= 0 && n <= 10000)
		checkHoistOk(t, impl.Hoist{Lowest: 2, Height: n, Highest: 4}, n >= 2 && n <= 4)
	}
	for low := -1; low <= 3; low++ {
		for height := -1; height <= 3; height++ {
			for high := -1; high <= 3; high++ {
				checkHoistOk(t, impl.Hoist{Lowest: low, Height: height, Highest: high}, low >= 0 && low <= height && height <= high)
			}
		}
	}
}

// Each Kind in each State, of a hoist between its ends with a load it may lift.
func TestEachSignalInEachState(t *testing.T) {
	for _, reset := range []int{0, 1} {
		idle, up, down := withReset(hoistAt(0, 15), reset), withReset(hoistAt(1, 15), reset), withReset(hoistAt(2, 15), reset)
		for _, h := range []impl.Hoist{idle, up, down} {
			checkSignal(t, h, given(impl.SigHold), idle)
			checkSignal(t, h, given(impl.SigStop), hoistAt(3, 15))
			checkNoSignal(t, h, given(impl.SigReset))
			checkSignal(t, h, loading(7), withLoad(h, 7))
		}
		checkSignal(t, idle, given(impl.SigUp), up)
		checkSignal(t, up, given(impl.SigUp), up)
		checkNoSignal(t, down, given(impl.SigUp))
		checkSignal(t, idle, given(impl.SigDown), down)
		checkNoSignal(t, up, given(impl.SigDown))
		checkSignal(t, down, given(impl.SigDown), down)
		checkSignal(t, idle, given(impl.SigTick), idle)
		checkSignal(t, up, given(impl.SigTick), withHeight(up, 16))
		checkSignal(t, down, given(impl.SigTick), withHeight(down, 14))
	}
}

// In a stop nothing is taken but another stop, a load, the reset and then the
// letting go.
func TestEachSignalInAStop(t *testing.T) {
	for height := 10; height <= 20; height++ {
		stop, reset := hoistAt(3, height), withReset(hoistAt(3, height), 1)
		for _, h := range []impl.Hoist{stop, reset} {
			checkSignal(t, h, given(impl.SigStop), stop)
			checkSignal(t, h, loading(500), withLoad(h, 500))
			checkSignal(t, h, loading(501), withLoad(h, 501))
			for _, kind := range []int{impl.SigUp, impl.SigDown, impl.SigTick} {
				checkNoSignal(t, h, given(kind))
			}
		}
		checkSignal(t, stop, given(impl.SigReset), reset)
		checkNoSignal(t, reset, given(impl.SigReset))
		checkNoSignal(t, stop, given(impl.SigHold))
		checkSignal(t, reset, given(impl.SigHold), hoistAt(0, height))
	}
}

func TestUpByItsLoad(t *testing.T) {
	for _, limit := range []int{0, 1, 500, 999999, 1000000} {
		for _, over := range []int{-500, -1, 0, 1, 2} {
			h := impl.Hoist{Load: limit + over, Limit: limit, Height: 3, Lowest: 1, Highest: 5}
			if h.Load < 0 || h.Load > 1000000 {
				continue
			}
			for _, state := range []int{impl.HoistIdle, impl.HoistUp} {
				if over <= 0 {
					checkSignal(t, withState(h, state), given(impl.SigUp), withState(h, impl.HoistUp))
				} else {
					checkNoSignal(t, withState(h, state), given(impl.SigUp))
				}
			}
			checkNoSignal(t, withState(h, impl.HoistDown), given(impl.SigUp))
			// What is too heavy may still go down.
			checkSignal(t, h, given(impl.SigDown), withState(h, impl.HoistDown))
			checkSignal(t, withState(h, impl.HoistDown), given(impl.SigTick), withState(withHeight(h, 2), impl.HoistDown))
		}
	}
}

func TestUpAndDownAtTheEnds(t *testing.T) {
	for _, state := range []int{impl.HoistIdle, impl.HoistUp} {
		checkNoSignal(t, hoistAt(state, 20), given(impl.SigUp))
		checkSignal(t, hoistAt(state, 19), given(impl.SigUp), hoistAt(1, 19))
		checkSignal(t, hoistAt(state, 10), given(impl.SigUp), hoistAt(1, 10))
	}
	for _, state := range []int{impl.HoistIdle, impl.HoistDown} {
		checkNoSignal(t, hoistAt(state, 10), given(impl.SigDown))
		checkSignal(t, hoistAt(state, 11), given(impl.SigDown), hoistAt(2, 11))
		checkSignal(t, hoistAt(state, 20), given(impl.SigDown), hoistAt(2, 20))
	}
	// There is no way at all where both ends are one.
	for _, height := range []int{0, 7, 10000} {
		for state := range 3 {
			flat := impl.Hoist{State: state, Height: height, Lowest: height, Highest: height}
			checkNoSignal(t, flat, given(impl.SigUp))
			checkNoSignal(t, flat, given(impl.SigDown))
			checkSignal(t, flat, given(impl.SigTick), withState(flat, impl.HoistIdle))
		}
	}
}

// A tick that comes to an end, or stands at it, makes the hoist idle.
func TestTicksAtTheEnds(t *testing.T) {
	tick := given(impl.SigTick)
	checkSignal(t, hoistAt(1, 10), tick, hoistAt(1, 11))
	checkSignal(t, hoistAt(1, 18), tick, hoistAt(1, 19))
	checkSignal(t, hoistAt(1, 19), tick, hoistAt(0, 20))
	checkSignal(t, hoistAt(1, 20), tick, hoistAt(0, 20))
	checkSignal(t, hoistAt(2, 20), tick, hoistAt(2, 19))
	checkSignal(t, hoistAt(2, 12), tick, hoistAt(2, 11))
	checkSignal(t, hoistAt(2, 11), tick, hoistAt(0, 10))
	checkSignal(t, hoistAt(2, 10), tick, hoistAt(0, 10))
	for height := 10; height <= 20; height++ {
		checkSignal(t, hoistAt(0, height), tick, hoistAt(0, height))
		checkNoSignal(t, hoistAt(3, height), tick)
	}
	top := impl.Hoist{State: 1, Height: 9999, Highest: 10000}
	checkSignal(t, top, tick, impl.Hoist{Height: 10000, Highest: 10000})
	ground := impl.Hoist{State: 2, Height: 1, Highest: 10000}
	checkSignal(t, ground, tick, impl.Hoist{Highest: 10000})
}

// Many of a load at its bounds, and just at the hoist's Limit, in each State.
func TestLoadsInEachState(t *testing.T) {
	for state := range 4 {
		for reset := range 2 {
			h := withReset(hoistAt(state, 15), reset)
			for _, many := range []int{0, 1, 299, 300, 301, 499, 500} {
				checkSignal(t, h, loading(many), withLoad(h, many))
			}
			for _, many := range []int{501, 502, 999999, 1000000} {
				want := withLoad(h, many)
				if state == impl.HoistUp {
					want.State = impl.HoistIdle
				}
				checkSignal(t, h, loading(many), want)
			}
			for _, many := range []int{-1, -2, 1000001, 1000002} {
				checkNoSignal(t, h, loading(many))
			}
		}
	}
	// A Limit of 0 lets nothing up, one of 10^6 all.
	none := impl.Hoist{State: 1, Highest: 5}
	checkSignal(t, none, loading(0), none)
	checkSignal(t, none, loading(1), impl.Hoist{Load: 1, Highest: 5})
	all := impl.Hoist{State: 1, Highest: 5, Limit: 1000000}
	checkSignal(t, all, loading(1000000), withLoad(all, 1000000))
}

// Many is looked at with SigLoad alone.
func TestManyOfOtherKinds(t *testing.T) {
	for kind := 1; kind <= 7; kind++ {
		if kind == impl.SigLoad {
			continue
		}
		for state := range 4 {
			for reset := range 2 {
				h := withReset(hoistAt(state, 15), reset)
				want, ok := impl.DoSignal(h, given(kind))
				for _, many := range []int{-1 << 63, -1, 1, 501, 1000000, 1000001, 1<<63 - 1} {
					if got, told := impl.DoSignal(h, impl.Signal{Kind: kind, Many: many}); got != want || told != ok {
						t.Error(h, kind, many, "got", got, told, "not", want, ok)
					}
				}
			}
		}
	}
}

func TestKindsThatAreNone(t *testing.T) {
	for state := range 4 {
		for _, reset := range []int{0, 1} {
			for _, s := range wrongSignals() {
				checkNoSignal(t, withReset(hoistAt(state, 15), reset), s)
			}
		}
	}
}

// All signals on all small hoists.
func TestAllSignalsOnSmallHoists(t *testing.T) {
	count := map[bool]int{}
	for _, h := range smallHoists() {
		for kind := -1; kind <= 8; kind++ {
			for _, many := range []int{-1, 0, 1, 2, 3, 1000000, 1000001} {
				count[checkAsTold(t, h, impl.Signal{Kind: kind, Many: many})]++
			}
		}
	}
	if min(count[true], count[false]) < 10000 {
		t.Error("few of a kind", count)
	}
}

func TestSignalsOfDrawnHoists(t *testing.T) {
	d := &draws{state: 310}
	count := map[bool]int{}
	for range 20000 {
		h := drawnHoist(d)
		if d.below(8) == 0 {
			spoilHoist(d, &h)
		}
		checkHoistOk(t, h, hoistOkOf(h))
		count[checkAsTold(t, h, drawnSignal(d, h))]++
	}
	if min(count[true], count[false]) < 3000 {
		t.Error("few drawn of a kind", count)
	}
}

// walkHoist gives drawn signals to drawn hoists that begin at rest, each to what
// the ones ahead left.
func walkHoist(t *testing.T, state uint64, look func(was impl.Hoist, s impl.Signal, now impl.Hoist, isDone bool)) {
	t.Helper()
	d := &draws{state: state}
	count := map[bool]int{}
	for range 1500 {
		h := withReset(withState(drawnHoist(d), impl.HoistIdle), 0)
		for range 60 {
			s := livelySignal(d, h)
			now, isDone := impl.DoSignal(h, s)
			look(h, s, now, isDone)
			count[isDone]++
			h = now
		}
	}
	if min(count[true], count[false]) < 10000 {
		t.Error("few drawn of a kind", count)
	}
}

func TestNothingTooHeavyGoesUp(t *testing.T) {
	raised, heavy := 0, 0
	walkHoist(t, 311, func(was impl.Hoist, s impl.Signal, now impl.Hoist, _ bool) {
		if now.Load > now.Limit {
			heavy++
			if now.State == impl.HoistUp || now.Height > was.Height {
				t.Fatal("it goes up", was, s, now)
			}
		}
		if now.Height > was.Height {
			raised++
			if was.State != impl.HoistUp || was.Load > was.Limit || s.Kind != impl.SigTick {
				t.Fatal("it went up", was, s, now)
			}
		}
	})
	if raised < 1000 || heavy < 1000 {
		t.Error("few that go up or are too heavy:", raised, heavy)
	}
}

// What is refused changes nothing, a right hoist stays one, and only ticks move it:
// by one, and the way that its State says.
func TestHoistsStayInOrder(t *testing.T) {
	moved := map[int]int{}
	walkHoist(t, 312, func(was impl.Hoist, s impl.Signal, now impl.Hoist, isDone bool) {
		if !isDone && was != now {
			t.Fatal("changed", was, s, now)
		}
		if !impl.HoistOk(now) || now.Lowest != was.Lowest || now.Highest != was.Highest || now.Limit != was.Limit {
			t.Fatal("not a right hoist", was, s, now)
		}
		if s.Kind != impl.SigLoad && was.Load != now.Load {
			t.Fatal("another load", was, s, now)
		}
		step := now.Height - was.Height
		moved[step]++
		if step != 0 && (s.Kind != impl.SigTick || step != map[int]int{1: 1, 2: -1}[was.State]) {
			t.Fatal("moved", was, s, now)
		}
	})
	if min(moved[1], moved[-1]) < 500 || len(moved) != 3 {
		t.Error("few that move", moved)
	}
}

// A hoist goes from up to down and back only by way of rest.
func TestHoistsTurnAtRest(t *testing.T) {
	ways := map[[2]int]int{}
	walkHoist(t, 313, func(was impl.Hoist, s impl.Signal, now impl.Hoist, _ bool) {
		ways[[2]int{was.State, now.State}]++
	})
	for _, way := range [][2]int{{1, 2}, {2, 1}, {3, 1}, {3, 2}} {
		if ways[way] > 0 {
			t.Error("it goes over from", way)
		}
	}
	wanted := [][2]int{{0, 0}, {0, 1}, {0, 2}, {0, 3}, {1, 0}, {1, 1}, {1, 3}, {2, 0}, {2, 2}, {2, 3}, {3, 0}, {3, 3}}
	if few := slices.ContainsFunc(wanted, func(way [2]int) bool { return ways[way] < 200 }); few {
		t.Error("few drawn of a way", ways)
	}
}
