package tests

import (
	"math"
	"slices"
	"testing"

	"loop.example/g00059/impl"
)

// Promise 17, of cranes: they stay in order, whatever is asked; a push moves none
// it need not.

func checkCranesOk(t *testing.T, list cranes, gap int, want bool) {
	t.Helper()
	if impl.CranesOk(list, gap) != want {
		t.Error(list, gap, "is", !want)
	}
}

func checkMove(t *testing.T, list cranes, gap int, m impl.Move, want cranes, code int) {
	t.Helper()
	if got, told := impl.DoMove(list, gap, m); !slices.Equal(got, want) || told != code {
		t.Error(list, gap, m, "got", got, told, "not", want, code)
	}
}

func checkMoveNot(t *testing.T, list cranes, gap int, m impl.Move, code int) {
	t.Helper()
	checkMove(t, list, gap, m, list, code)
}

// checkMoved is a move that is done, and changes only where the crane is.
func checkMoved(t *testing.T, list cranes, gap int, m impl.Move) {
	t.Helper()
	own := list[m.Crane]
	own.At = m.To
	checkMove(t, list, gap, m, withCrane(list, m.Crane, own), impl.MoveDone)
}

func checkPush(t *testing.T, list cranes, gap int, m impl.Move, want cranes, ok bool) {
	t.Helper()
	if got, told := impl.PushMove(list, gap, m); !slices.Equal(got, want) || told != ok {
		t.Error(list, gap, m, "got", got, told, "not", want, ok)
	}
}

func checkPushNot(t *testing.T, list cranes, gap int, m impl.Move) {
	t.Helper()
	checkPush(t, list, gap, m, list, false)
}

// checkPushed tells where the cranes are then.
func checkPushed(t *testing.T, list cranes, gap int, m impl.Move, places ...int) {
	t.Helper()
	want := slices.Clone(list)
	for i := range want {
		want[i].At = places[i]
	}
	checkPush(t, list, gap, m, want, true)
}

func TestCranesOkAtTheirLimits(t *testing.T) {
	eight := along(0, 20, 40, 60, 80, 100, 120, 140)
	for gap, want := range map[int]bool{math.MinInt: false, -1: false, 0: false, 1: true, 2: true, 19: true, 20: true, 21: false, math.MaxInt: false} {
		checkCranesOk(t, along(50), gap, want)
		checkCranesOk(t, along(0, 1000), gap, want)
		checkCranesOk(t, along(50, 500, 950), gap, want)
		checkCranesOk(t, eight, gap, want)
		checkCranesOk(t, nil, gap, false)
		checkCranesOk(t, cranes{}, gap, false)
		checkCranesOk(t, append(slices.Clone(eight), along(900)...), gap, false)
	}
	for name, list := range map[string]cranes{
		"all at 0": {crane(0, 0, 0)}, "all at 1000": {crane(1000, 1000, 1000)}, "all at one place": {crane(50, 50, 50)}, "At at Low": {crane(50, 50, 60)}, "At at High": {crane(60, 50, 60)}, "from end to end": along(0, 1000),
		"Low and High that cross": {crane(50, 0, 1000), crane(70, 0, 70)}, "Lows behind": {crane(50, 50, 1000), crane(70, 0, 70)}, "8 of them": eight, "7 of them": eight[:7], "an empty one": {{}}, "eight at the end": along(860, 880, 900, 920, 940, 960, 980, 1000),
	} {
		if !impl.CranesOk(list, 20) {
			t.Error(name, "is not ok")
		}
	}
	for name, list := range wrongRails() {
		for gap := 1; gap <= 20; gap++ {
			if impl.CranesOk(list, gap) {
				t.Error(name, "is ok")
			}
		}
	}
}

// Neighbours just gap apart, one less and one more, at either end of a row.
func TestCranesOkByTheirGap(t *testing.T) {
	for gap := 1; gap <= 20; gap++ {
		for apart := -2; apart <= 42; apart++ {
			want := apart >= gap
			checkCranesOk(t, along(500, 500+apart), gap, want)
			checkCranesOk(t, along(500, 500+apart, 900), gap, want)
			checkCranesOk(t, along(100, 500, 500+apart), gap, want)
			checkCranesOk(t, along(100, 200, 500, 500+apart, 700), gap, want)
			checkCranesOk(t, along(500, 500+gap, 500+gap+apart), gap, want)
		}
	}
	// The one next but one may not stand for the one ahead.
	checkCranesOk(t, along(10, 30, 20), 5, false)
	checkCranesOk(t, along(10, 5, 30), 5, false)
}

func TestCranesOkByTheirBounds(t *testing.T) {
	for _, low := range []int{-1, 0, 1, 499, 500, 501, 999, 1000, 1001} {
		for _, at := range []int{-1, 0, 1, 499, 500, 501, 999, 1000, 1001} {
			for _, high := range []int{-1, 0, 1, 499, 500, 501, 999, 1000, 1001} {
				want := low >= 0 && low <= at && at <= high && high <= 1000
				checkCranesOk(t, cranes{crane(at, low, high)}, 3, want)
			}
		}
	}
}

func TestMovesByHand(t *testing.T) {
	two := cranes{crane(5, 0, 20), crane(9, 0, 20)}
	checkMoveNot(t, two, 3, move(0, 7), impl.MoveBlocked)
	checkMoved(t, two, 3, move(0, 6))
	checkMoved(t, two, 3, move(0, 5))
	checkMoved(t, two, 3, move(0, 0))
	checkMoved(t, two, 3, move(1, 20))
	checkMoved(t, two, 3, move(1, 8))
	checkMoveNot(t, two, 3, move(1, 7), impl.MoveBlocked)
	checkMoveNot(t, two, 3, move(1, 21), impl.MoveLimit)
	checkMoveNot(t, two, 3, move(0, -1), impl.MoveLimit)
	checkMoveNot(t, two, 3, move(2, 5), impl.MoveBad)
	checkMoveNot(t, two, 3, move(-1, 5), impl.MoveBad)
	checkMoveNot(t, two, 5, move(0, 0), impl.MoveBad)
}

// A crane in the middle goes just up to gap away from both neighbours, and not
// past either.
func TestMovesBetweenNeighbours(t *testing.T) {
	for gap := 1; gap <= 20; gap++ {
		three := along(100, 150, 210)
		for to := 0; to <= 300; to++ {
			if to >= 100+gap && to <= 210-gap {
				checkMoved(t, three, gap, move(1, to))
			} else {
				checkMoveNot(t, three, gap, move(1, to), impl.MoveBlocked)
			}
			if to <= 150-gap {
				checkMoved(t, three, gap, move(0, to))
			} else {
				checkMoveNot(t, three, gap, move(0, to), impl.MoveBlocked)
			}
			if to >= 150+gap {
				checkMoved(t, three, gap, move(2, to))
			} else {
				checkMoveNot(t, three, gap, move(2, to), impl.MoveBlocked)
			}
		}
	}
}

// Its own bounds count ahead of its neighbours, and what is wrong ahead of both.
func TestMovesAtTheirLimits(t *testing.T) {
	three := cranes{crane(100, 90, 130), crane(150, 120, 180), crane(200, 170, 240)}
	for _, m := range (moves{move(1, 120), move(1, 180), move(0, 90), move(0, 130), move(2, 170), move(2, 240), move(1, 150), move(0, 100)}) {
		checkMoved(t, three, 20, m)
	}
	for _, m := range (moves{move(1, 119), move(1, 181), move(0, 89), move(0, 131), move(2, 169), move(2, 241), move(0, 200), move(2, 0), move(1, -1), move(1, 1001), move(1, math.MinInt), move(1, math.MaxInt)}) {
		checkMoveNot(t, three, 20, m, impl.MoveLimit)
		checkPushNot(t, three, 20, m)
	}
	near := cranes{crane(100, 90, 200), crane(150, 100, 180), crane(200, 170, 240)}
	checkMoveNot(t, near, 20, move(0, 200), impl.MoveBlocked)
	checkMoveNot(t, near, 20, move(0, 201), impl.MoveLimit)
	checkMoveNot(t, near, 20, move(1, 119), impl.MoveBlocked)
	checkMoveNot(t, near, 20, move(1, 99), impl.MoveLimit)
	checkMoveNot(t, near, 20, move(3, 99), impl.MoveBad)
}

func TestMovesOfNoCrane(t *testing.T) {
	for count := 1; count <= 8; count++ {
		list := along(0, 100, 200, 300, 400, 500, 600, 700)[:count]
		checkMoved(t, list, 20, move(count-1, 900))
		checkPushed(t, list, 20, move(count-1, 900), append(placesIn(list[:count-1]), 900)...)
		for _, at := range []int{math.MinInt, -2, -1, count, count + 1, 8, 9, math.MaxInt} {
			if at < 0 || at >= count {
				checkMoveNot(t, list, 20, move(at, 900), impl.MoveBad)
				checkPushNot(t, list, 20, move(at, 900))
			}
		}
	}
}

// A crane that may be beyond a neighbour's place never goes past it.
func TestMovesNeverGoBeyond(t *testing.T) {
	list := along(100, 200, 300)
	for _, m := range (moves{move(0, 200), move(0, 250), move(0, 299), move(0, 300), move(0, 400), move(0, 1000), move(1, 100), move(1, 50), move(1, 0), move(1, 300), move(1, 301), move(1, 1000), move(2, 200), move(2, 150), move(2, 100), move(2, 0)}) {
		checkMoveNot(t, list, 1, m, impl.MoveBlocked)
	}
}

func TestPushesByHand(t *testing.T) {
	two := cranes{crane(5, 0, 20), crane(9, 0, 20)}
	checkPushed(t, two, 3, move(0, 7), 7, 10)
	checkPushed(t, two, 3, move(0, 6), 6, 9)
	checkPushed(t, two, 3, move(0, 5), 5, 9)
	checkPushed(t, two, 3, move(0, 0), 0, 9)
	checkPushed(t, two, 3, move(0, 17), 17, 20)
	checkPushNot(t, two, 3, move(0, 18))
	checkPushed(t, two, 3, move(1, 7), 4, 7)
	checkPushed(t, two, 3, move(1, 3), 0, 3)
	checkPushNot(t, two, 3, move(1, 2))
	checkPushed(t, two, 3, move(1, 20), 5, 20)
	checkPushNot(t, two, 3, move(1, 21))
	checkPushNot(t, two, 3, move(0, -1))
	checkPushNot(t, two, 5, move(0, 5))
}

// Pushes upward and downward that move none, one and all of the others.
func TestPushesToBothSides(t *testing.T) {
	list := along(100, 200, 300, 400)
	for to, places := range map[int][]int{
		100: {100, 200, 300, 400}, 190: {190, 200, 300, 400}, 191: {191, 201, 300, 400}, 280: {280, 290, 300, 400}, 281: {281, 291, 301, 400}, 370: {370, 380, 390, 400}, 371: {371, 381, 391, 401}, 970: {970, 980, 990, 1000}, 0: {0, 200, 300, 400},
	} {
		checkPushed(t, list, 10, move(0, to), places...)
	}
	for to, places := range map[int][]int{
		400: {100, 200, 300, 400}, 310: {100, 200, 300, 310}, 309: {100, 200, 299, 309}, 220: {100, 200, 210, 220}, 219: {100, 199, 209, 219}, 130: {100, 110, 120, 130}, 129: {99, 109, 119, 129}, 30: {0, 10, 20, 30}, 1000: {100, 200, 300, 1000},
	} {
		checkPushed(t, list, 10, move(3, to), places...)
	}
	for to, places := range map[int][]int{
		200: {100, 200, 300, 400}, 210: {100, 210, 300, 400}, 291: {100, 291, 301, 400}, 391: {100, 391, 401, 411}, 980: {100, 980, 990, 1000}, 190: {100, 190, 300, 400}, 110: {100, 110, 300, 400}, 109: {99, 109, 300, 400}, 10: {0, 10, 300, 400},
	} {
		checkPushed(t, list, 10, move(1, to), places...)
	}
	for _, m := range (moves{move(0, 971), move(0, 1000), move(3, 29), move(3, 0), move(1, 981), move(1, 9), move(1, 0), move(2, 991), move(2, 19)}) {
		checkPushNot(t, list, 10, m)
	}
}

// One that is pushed stops just at its own bound, and the push is refused that
// would take it one beyond, wherever in the row it stands.
func TestPushesUpToABound(t *testing.T) {
	for which := 1; which <= 3; which++ {
		up := along(100, 110, 120, 130)
		down := along(800, 810, 820, 830)
		up[which].High = up[which].At + 7
		down[3-which].Low = down[3-which].At - 7
		for by := 0; by <= 12; by++ {
			if by <= 7 {
				checkPushed(t, up, 10, move(0, 100+by), 100+by, 110+by, 120+by, 130+by)
				checkPushed(t, down, 10, move(3, 830-by), 800-by, 810-by, 820-by, 830-by)
			} else {
				checkPushNot(t, up, 10, move(0, 100+by))
				checkPushNot(t, down, 10, move(3, 830-by))
			}
		}
	}
	// One that need not go may stand at its bounds.
	still := cranes{crane(100, 0, 1000), crane(120, 120, 120), crane(140, 0, 1000)}
	checkPushed(t, still, 10, move(0, 110), 110, 120, 140)
	checkPushNot(t, still, 10, move(0, 111))
	checkPushed(t, still, 10, move(2, 130), 100, 120, 130)
	checkPushNot(t, still, 10, move(2, 129))
	checkPushed(t, still, 10, move(1, 120), 100, 120, 140)
}

// A move to where the crane stands does nothing, by either.
func TestMovesToWhereItStands(t *testing.T) {
	d := &draws{state: 220}
	for range 2000 {
		list, gap := drawnCranes(d)
		for i, c := range list {
			checkMove(t, list, gap, move(i, c.At), list, impl.MoveDone)
			checkPush(t, list, gap, move(i, c.At), list, true)
		}
	}
}

// smallRails are all rails of three on eight places, by where they stand.
func smallRails(gap int) []cranes {
	var all []cranes
	for a := range 8 {
		for b := a + gap; b < 8; b++ {
			for c := b + gap; c < 8; c++ {
				all = append(all, cranes{crane(a, 0, 7), crane(b, 0, 7), crane(c, 0, 7)})
			}
		}
	}
	return all
}

// All moves on all short rails, with all bounds of one of the cranes.
func TestAllMovesOnShortRails(t *testing.T) {
	for gap := 1; gap <= 3; gap++ {
		for _, list := range smallRails(gap) {
			for which, own := range list {
				for low := 0; low <= own.At; low++ {
					for high := own.At; high < 8; high++ {
						rail := withCrane(list, which, crane(own.At, low, high))
						checkAllMoves(t, rail, gap)
					}
				}
			}
		}
	}
}

func checkAllMoves(t *testing.T, list cranes, gap int) {
	t.Helper()
	for at := range list {
		for to := -1; to <= 8; to++ {
			want, code := doMoveOf(list, gap, move(at, to))
			checkMove(t, list, gap, move(at, to), want, code)
			want, ok := pushOf(list, gap, move(at, to))
			checkPush(t, list, gap, move(at, to), want, ok)
		}
	}
}

func TestMovesOfDrawnOnes(t *testing.T) {
	d := &draws{state: 221}
	codes, pushed := [4]int{}, map[bool]int{}
	for range 30000 {
		list, gap := drawnCranes(d)
		m := drawnMove(d, list, gap)
		want, code := doMoveOf(list, gap, m)
		checkMove(t, list, gap, m, want, code)
		codes[code]++
		want, ok := pushOf(list, gap, m)
		checkPush(t, list, gap, m, want, ok)
		if code == impl.MoveBlocked {
			pushed[ok]++
		}
	}
	if slices.Min(codes[:]) < 500 || min(pushed[true], pushed[false]) < 1000 {
		t.Error("few drawn", codes, pushed)
	}
}

// walkCranes tells each step of many walks, by moves and by pushes.
func walkCranes(t *testing.T, state uint64, look func(was cranes, gap int, m impl.Move, now cranes, isPush, isDone bool)) {
	t.Helper()
	d := &draws{state: state}
	done := map[[2]bool]int{}
	for range 500 {
		now, gap := drawnCranes(d)
		for range 60 {
			m := drawnMove(d, now, gap)
			next, code := impl.DoMove(now, gap, m)
			isPush, isDone := d.below(2) == 0, code == impl.MoveDone
			if isPush {
				next, isDone = impl.PushMove(now, gap, m)
			}
			look(now, gap, m, next, isPush, isDone)
			done[[2]bool{isPush, isDone}]++
			now = next
		}
	}
	if len(done) != 4 || min(done[[2]bool{true, true}], done[[2]bool{true, false}], done[[2]bool{false, true}], done[[2]bool{false, false}]) < 2000 {
		t.Error("few of a kind", done)
	}
}

// Whatever is asked, each crane is within its bounds, which stay, and none is too
// near to the next.
func TestCranesStayInOrder(t *testing.T) {
	walkCranes(t, 222, func(was cranes, gap int, m impl.Move, now cranes, _, _ bool) {
		if !impl.CranesOk(now, gap) || !cranesOkOf(now, gap) || len(now) != len(was) {
			t.Fatal(was, gap, m, now)
		}
		for i := range was {
			if was[i].Low != now[i].Low || was[i].High != now[i].High {
				t.Fatal("other bounds", was, gap, m, now)
			}
		}
	})
}

// What is refused changes nothing; what is done has the crane where it should be.
func TestRefusedMovesChangeNothing(t *testing.T) {
	walkCranes(t, 223, func(was cranes, gap int, m impl.Move, now cranes, isPush, isDone bool) {
		if !isDone && !slices.Equal(was, now) || isDone && now[m.Crane].At != m.To {
			t.Fatal(was, gap, m, now, isPush, isDone)
		}
	})
}

// A move has one crane go. A push has none go that would be far enough where it
// stands, none against the push, and each that goes is just gap away from the
// one that pushes it.
func TestAPushMovesNoneItNeedNot(t *testing.T) {
	far := [8]int{}
	walkCranes(t, 224, func(was cranes, gap int, m impl.Move, now cranes, isPush, isDone bool) {
		if !isDone {
			return
		}
		gone := 0
		for i := range was {
			if i == m.Crane || was[i].At == now[i].At {
				continue
			}
			gone++
			side := 1
			if m.To < was[m.Crane].At {
				side = -1
			}
			if !isPush || (i-m.Crane)*side < 0 || (now[i].At-was[i].At)*side < 0 {
				t.Fatal("on the wrong side", was, gap, m, now)
			}
			if now[i].At-now[i-side].At != side*gap || (was[i].At-now[i-side].At)*side >= gap {
				t.Fatal("needlessly or too far", was, gap, m, now)
			}
		}
		if isPush {
			far[gone]++
		}
	})
	if slices.Min(far[:4]) < 50 {
		t.Error("few pushed so many", far)
	}
}

// A push does what a move does where that one is done, and is refused where the
// move is wrong or beyond the crane's own bounds.
func TestPushesDoWhatMovesDo(t *testing.T) {
	d := &draws{state: 225}
	for range 10000 {
		list, gap := drawnCranes(d)
		m := drawnMove(d, list, gap)
		moved, code := impl.DoMove(list, gap, m)
		pushed, ok := impl.PushMove(list, gap, m)
		switch code {
		case impl.MoveDone:
			if !ok || !slices.Equal(moved, pushed) {
				t.Fatal(list, gap, m, pushed, ok)
			}
		case impl.MoveBad, impl.MoveLimit:
			if ok {
				t.Fatal(list, gap, m, pushed)
			}
		}
	}
}

// The rail turned about has the same answers, turned about.
func TestMovesAreTheSameTurnedAbout(t *testing.T) {
	turned := func(list cranes) cranes {
		var other cranes
		for _, c := range slices.Backward(list) {
			other = append(other, crane(1000-c.At, 1000-c.High, 1000-c.Low))
		}
		return other
	}
	d := &draws{state: 226}
	for range 10000 {
		list, gap := drawnCranes(d)
		m := drawnMove(d, list, gap)
		other := move(len(list)-1-m.Crane, 1000-m.To)
		moved, code := impl.DoMove(list, gap, m)
		checkMove(t, turned(list), gap, other, turned(moved), code)
		pushed, ok := impl.PushMove(list, gap, m)
		checkPush(t, turned(list), gap, other, turned(pushed), ok)
	}
}
