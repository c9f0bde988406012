package tests

import (
	"slices"
	"testing"

	"loop.example/g00059/impl"
)

// Promise 20, of what swings: sways beat by beat.

func TestHoistConstants(t *testing.T) {
	got := []int{impl.MaxPulses, impl.MaxSignals, impl.HoistIdle, impl.HoistUp, impl.HoistDown, impl.HoistStop,
		impl.SigUp, impl.SigDown, impl.SigHold, impl.SigStop, impl.SigReset, impl.SigLoad, impl.SigTick}
	if want := []int{40, 200, 0, 1, 2, 3, 1, 2, 3, 4, 5, 6, 7}; !slices.Equal(got, want) {
		t.Error(got, "not", want)
	}
}

func checkSwing(t *testing.T, s impl.Sway, push int, want impl.Sway) {
	t.Helper()
	if got, ok := impl.Swing1(s, push); !ok || got != want {
		t.Error(s, push, "got", got, ok, "not", want)
	}
}

func checkNoSwing(t *testing.T, s impl.Sway, push int) {
	t.Helper()
	if got, ok := impl.Swing1(s, push); ok || got != (impl.Sway{}) {
		t.Error(s, push, "got", got, ok)
	}
}

func checkBeats(t *testing.T, s impl.Sway, pushes []int, want impl.Sway) {
	t.Helper()
	if got, ok := impl.Beats(s, pushes); !ok || got != want {
		t.Error(s, pushes, "got", got, ok, "not", want)
	}
}

func checkNoBeats(t *testing.T, s impl.Sway, pushes []int) {
	t.Helper()
	if got, ok := impl.Beats(s, pushes); ok || got != (impl.Sway{}) {
		t.Error(s, pushes, "got", got, ok)
	}
}

func TestSwayOkAtItsLimits(t *testing.T) {
	for _, n := range []int{-1000000, -999999, -1, 0, 1, 999999, 1000000} {
		for _, s := range []impl.Sway{sway(n, 0, 0), sway(0, n, 0), sway(0, 0, n), sway(n, n, n), sway(n, -n, n)} {
			if !impl.SwayOk(s) {
				t.Error(s, "is not ok")
			}
		}
	}
	for name, s := range wrongSways() {
		if impl.SwayOk(s) {
			t.Error(name, "is ok")
		}
	}
}

func TestSwing1ByHand(t *testing.T) {
	checkSwing(t, sway(0, 2, 5), 4, sway(4, 5, 2))
	checkSwing(t, sway(10, 2, 5), 0, sway(10, 5, -2))
	checkSwing(t, sway(10, 2, 5), -4, sway(6, 5, -6))
	checkSwing(t, sway(-10, -2, -5), -4, sway(-14, -5, -2))
	checkSwing(t, sway(-3, 7, 0), 7, sway(4, 0, 0))
	checkSwing(t, hanging(0), 0, hanging(0))
	checkSwing(t, hanging(8), 1, sway(9, 0, 1))
	checkSwing(t, hanging(8), -1, sway(7, 0, -1))
}

func TestSwing1OfGreatPushes(t *testing.T) {
	for _, push := range []int{-1000, -999, -1, 0, 1, 999, 1000} {
		checkSwing(t, sway(5, 7, 9), push, sway(5+push, 9, push-7))
	}
	for _, push := range wrongPushes() {
		checkNoSwing(t, sway(5, 7, 9), push)
		checkNoSwing(t, hanging(0), push)
	}
}

// What comes is just right, and one beyond. (What comes of Off is the Slip that was
// there, so it is right wherever that was.)
func TestSwing1OfOutcomesAtTheirLimits(t *testing.T) {
	for _, push := range []int{1, 2, 500, 1000} {
		checkSwing(t, sway(1000000-push, 0, 0), push, sway(1000000, 0, push))
		checkNoSwing(t, sway(1000001-push, 0, 0), push)
		checkNoSwing(t, sway(1000000, 0, 0), push)
		checkSwing(t, sway(push-1000000, 0, 0), -push, sway(-1000000, 0, -push))
		checkNoSwing(t, sway(push-1000001, 0, 0), -push)
		checkSwing(t, sway(0, push-1000000, 3), push, sway(push, 3, 1000000))
		checkNoSwing(t, sway(0, push-1000001, 3), push)
		checkNoSwing(t, sway(0, -1000000, 3), push)
		checkSwing(t, sway(0, 1000000-push, 3), -push, sway(-push, 3, -1000000))
		checkNoSwing(t, sway(0, 1000001-push, 3), -push)
	}
	for _, slip := range []int{-1000000, 1000000} {
		checkSwing(t, sway(0, 0, slip), 0, sway(0, slip, 0))
		checkSwing(t, sway(0, slip, 0), 0, sway(0, 0, -slip))
		checkSwing(t, sway(slip, 0, 0), 0, sway(slip, 0, 0))
		checkNoSwing(t, sway(0, 0, slip+slip/1000000), 0)
	}
	// Within the bounds again is not enough where the sway itself is beyond them.
	checkNoSwing(t, sway(1000001, 0, 0), -1)
	checkNoSwing(t, sway(-1000001, 0, 0), 1)
	checkNoSwing(t, sway(0, 1000001, 0), 1)
	checkNoSwing(t, sway(0, -1000001, 0), -1)
}

func TestSwing1OfSwaysThatAreNotSo(t *testing.T) {
	for _, s := range wrongSways() {
		for _, push := range append(wrongPushes(), -1000, -1, 0, 1, 1000) {
			checkNoSwing(t, s, push)
		}
	}
}

func TestSwing1OfDrawnOnes(t *testing.T) {
	d := &draws{state: 300}
	count := map[bool]int{}
	for range 20000 {
		s, push := drawnSway(d), d.between(-1002, 1002)
		want, ok := swingOf(s, push)
		count[ok]++
		if got, told := impl.Swing1(s, push); told != ok || got != want {
			t.Fatal(s, push, "got", got, told, "not", want, ok)
		}
	}
	if min(count[true], count[false]) < 1000 {
		t.Error("few drawn of a kind", count)
	}
}

func TestBeatsByHand(t *testing.T) {
	checkBeats(t, sway(3, 2, 5), nil, sway(3, 2, 5))
	checkBeats(t, sway(3, 2, 5), []int{}, sway(3, 2, 5))
	checkBeats(t, sway(0, 2, 5), []int{4}, sway(4, 5, 2))
	checkBeats(t, sway(0, 2, 5), []int{4, 1}, sway(5, 2, -4))
	checkBeats(t, sway(0, 2, 5), []int{4, 1, -3}, sway(2, -4, -5))
	checkBeats(t, sway(0, 2, 5), []int{4, 1, -3, 0}, sway(2, -5, 4))
	checkBeats(t, hanging(0), []int{1, 0}, sway(1, 1, 0))
	checkBeats(t, hanging(0), []int{1, 0, 1}, hanging(2))
}

// A rope swings in four beats: so many without a push leave all as it was.
func TestBeatsInFour(t *testing.T) {
	d := &draws{state: 301}
	for range 1000 {
		s := drawnSway(d)
		checkBeats(t, s, make([]int, 1), sway(s.At, s.Slip, -s.Off))
		checkBeats(t, s, make([]int, 2), sway(s.At, -s.Off, -s.Slip))
		checkBeats(t, s, make([]int, 3), sway(s.At, -s.Slip, s.Off))
		checkBeats(t, s, make([]int, 4), s)
		checkBeats(t, s, make([]int, 40), s)
	}
}

func TestBeatsAtTheirLimit(t *testing.T) {
	most := slices.Repeat([]int{1000, -1000, -1000, 1000}, 10)
	for _, count := range []int{1, 38, 39, 40} {
		want, _ := beatsOf(sway(7, 1, 2), most[:count])
		checkBeats(t, sway(7, 1, 2), most[:count], want)
		checkBeats(t, hanging(4), make([]int, count), hanging(4))
	}
	checkNoBeats(t, sway(7, 1, 2), append(slices.Clone(most), 0))
	checkNoBeats(t, sway(7, 1, 2), append([]int{0}, most...))
	for _, count := range []int{41, 42, 80, 1000} {
		checkNoBeats(t, hanging(4), make([]int, count))
	}
}

// One push that is not so makes all of them so, wherever it stands.
func TestBeatsWithAPushThatIsNotSo(t *testing.T) {
	right := []int{4, -9, 0, 1000, -1000, 7}
	for _, wrong := range wrongPushes() {
		for at := range len(right) + 1 {
			checkNoBeats(t, sway(1, 2, 3), slices.Insert(slices.Clone(right), at, wrong))
		}
		checkNoBeats(t, sway(1, 2, 3), []int{wrong})
		checkNoBeats(t, sway(1, 2, 3), append(make([]int, 39), wrong))
	}
}

// A sway that goes beyond on the way is not so, though it would come back.
func TestBeatsThatGoBeyondOnTheWay(t *testing.T) {
	checkBeats(t, hanging(999999), []int{0, 1, -1}, sway(999999, 1, -1))
	checkNoBeats(t, hanging(999999), []int{0, 2, -2})
	checkNoBeats(t, hanging(-999999), []int{0, -2, 2})
	checkBeats(t, sway(0, 0, -1000000), []int{0, 0, 0}, sway(0, 1000000, 0))
	checkNoBeats(t, sway(0, 0, -1000000), []int{0, 1, 0})
	checkBeats(t, sway(0, 0, -1000000), []int{0, -1, 0}, sway(-1, 999999, 0))
}

// A sway that is not so has one answer, with no push as with some.
func TestBeatsOfSwaysThatAreNotSo(t *testing.T) {
	for _, s := range wrongSways() {
		checkNoBeats(t, s, nil)
		checkNoBeats(t, s, []int{})
		checkNoBeats(t, s, []int{0})
		checkNoBeats(t, s, []int{-1, 1})
		checkNoBeats(t, s, make([]int, 40))
		checkNoBeats(t, s, make([]int, 41))
	}
}

// With no push nothing moves: at each bound the sway comes back, and one beyond it,
// up or down, there is none.
func TestBeatsOfNoPushAtEachBound(t *testing.T) {
	for _, side := range []int{-1, 1} {
		for _, unit := range []impl.Sway{sway(side, 0, 0), sway(0, side, 0), sway(0, 0, side)} {
			at := sway(unit.At*1000000, unit.Off*1000000, unit.Slip*1000000)
			beyond := sway(unit.At*1000001, unit.Off*1000001, unit.Slip*1000001)
			for _, none := range [][]int{nil, {}, make([]int, 0, 4)} {
				checkBeats(t, at, none, at)
				checkNoBeats(t, beyond, none)
			}
		}
	}
}

func TestBeatsOfDrawnOnes(t *testing.T) {
	d := &draws{state: 302}
	count := map[bool]int{}
	for range 5000 {
		s, pushes := drawnSway(d), drawnPushes(d, 42)
		want, ok := beatsOf(s, pushes)
		count[ok]++
		if got, told := impl.Beats(s, pushes); told != ok || got != want {
			t.Fatal(s, pushes, "got", got, told, "not", want, ok)
		}
	}
	if min(count[true], count[false]) < 500 {
		t.Error("few drawn of a kind", count)
	}
}

// Beats are the beats of a beginning, and those of the rest behind them.
func TestBeatsInParts(t *testing.T) {
	d := &draws{state: 303}
	for range 2000 {
		s, pushes := drawnSway(d), drawnPushes(d, 40)
		at := d.below(len(pushes) + 1)
		mid, ok := impl.Beats(s, pushes[:at])
		if ok {
			mid, ok = impl.Beats(mid, pushes[at:])
		}
		if want, isSo := impl.Beats(s, pushes); isSo != ok || isSo && want != mid {
			t.Fatal(s, pushes, at, "got", mid, ok, "not", want, isSo)
		}
	}
}
