package tests

import (
	"slices"
	"testing"

	"loop.example/g00059/impl"
)

func checkMoveRun(t *testing.T, list cranes, gap int, all moves, want cranes, codes []int) {
	t.Helper()
	if got, told := impl.RunMoves(list, gap, all); !slices.Equal(got, want) || !slices.Equal(told, codes) {
		t.Error(list, gap, all, "got", got, told, "not", want, codes)
	}
}

func TestRunMovesByHand(t *testing.T) {
	list := along(100, 200, 300)
	all := moves{move(0, 195), move(1, 205), move(0, 195), move(2, 210), move(2, 215), move(1, 204), move(3, 0), move(1, -1), move(0, 0), move(1, 10), move(2, 20)}
	codes := []int{3, 0, 0, 3, 0, 3, 1, 2, 0, 0, 0}
	checkMoveRun(t, list, 10, all[:2], along(100, 205, 300), codes[:2])
	checkMoveRun(t, list, 10, all[:5], along(195, 205, 215), codes[:5])
	checkMoveRun(t, list, 10, all[:8], along(195, 205, 215), codes[:8])
	checkMoveRun(t, list, 10, all, along(0, 10, 20), codes)
}

// A move works on what the ones ahead left, also behind one that is refused.
func TestRunMovesWithSomeThatAreRefused(t *testing.T) {
	list := cranes{crane(10, 0, 500), crane(100, 0, 400), crane(200, 150, 500)}
	done := moves{move(2, 500), move(1, 400), move(0, 380), move(0, 20)}
	want := cranes{crane(20, 0, 500), crane(400, 0, 400), crane(500, 150, 500)}
	checkMoveRun(t, list, 20, done, want, []int{0, 0, 0, 0})
	for refused, code := range map[impl.Move]int{
		move(-1, 20): impl.MoveBad, move(3, 20): impl.MoveBad, move(0, -1): impl.MoveLimit, move(0, 501): impl.MoveLimit, move(1, 401): impl.MoveLimit, move(2, 149): impl.MoveLimit,
		move(0, 500): impl.MoveBlocked, move(1, 5): impl.MoveBlocked, move(1, 29): impl.MoveBlocked,
	} {
		for at := range 5 {
			checkMoveRun(t, list, 20, slices.Insert(slices.Clone(done), at, refused), want, slices.Insert([]int{0, 0, 0, 0}, at, code))
		}
	}
}

func TestRunMovesAtTheirLimit(t *testing.T) {
	list, there := along(100, 300), along(150, 300)
	most := slices.Repeat(moves{move(0, 150), move(0, 100)}, 30)
	checkMoveRun(t, list, 20, nil, list, nil)
	checkMoveRun(t, list, 20, moves{}, list, nil)
	checkMoveRun(t, list, 20, most[:1], there, []int{0})
	checkMoveRun(t, list, 20, most[:59], there, make([]int, 59))
	checkMoveRun(t, list, 20, most, list, make([]int, 60))
	checkMoveRun(t, list, 20, append(most[:59:59], move(0, 290)), there, append(make([]int, 59), impl.MoveBlocked))
	checkMoveRun(t, list, 20, append(slices.Clone(most), move(0, 150)), list, nil)
	checkMoveRun(t, list, 20, append(moves{move(0, 150)}, most...), list, nil)
	checkMoveRun(t, list, 20, make(moves, 61), list, nil)
	checkMoveRun(t, list, 20, make(moves, 3000), list, nil)
	checkMoveRun(t, list, 20, slices.Repeat(moves{move(9, 9)}, 60), list, slices.Repeat([]int{impl.MoveBad}, 60))
}

func TestRunMovesOfDrawnOnes(t *testing.T) {
	d := &draws{state: 227}
	seen := [4]int{}
	for range 1000 {
		list, gap := drawnCranes(d)
		all := drawnMoves(d, list, gap)
		want, codes := runMovesOf(list, gap, all)
		checkMoveRun(t, list, gap, all, want, codes)
		for _, code := range codes {
			seen[code]++
		}
	}
	if slices.Min(seen[:]) < 500 {
		t.Error("few drawn of a code", seen)
	}
}

// A run is its moves, one behind the other.
func TestRunMovesIsEachStep(t *testing.T) {
	d := &draws{state: 228}
	for range 500 {
		list, gap := drawnCranes(d)
		all := drawnMoves(d, list, gap)
		now := list
		var codes []int
		for _, m := range all {
			var code int
			now, code = impl.DoMove(now, gap, m)
			codes = append(codes, code)
		}
		checkMoveRun(t, list, gap, all, now, codes)
		if !impl.CranesOk(now, gap) {
			t.Fatal("out of order", list, gap, all, now)
		}
	}
}

// All short rows of moves on a short rail.
func TestAllShortRowsOfMoves(t *testing.T) {
	var all moves
	for at := range 3 {
		for to := range 6 {
			all = append(all, move(at, to))
		}
	}
	for _, list := range []cranes{{crane(0, 0, 5), crane(2, 0, 5), crane(5, 1, 5)}, {crane(0, 0, 3), crane(3, 2, 4), crane(5, 0, 5)}} {
		for _, a := range all {
			for _, b := range all {
				for _, c := range all {
					want, codes := runMovesOf(list, 2, moves{a, b, c})
					checkMoveRun(t, list, 2, moves{a, b, c}, want, codes)
				}
			}
		}
	}
}

// Cranes that are wrong are not mended by a move that would put them right.
func TestMovesMendNoRail(t *testing.T) {
	near := along(100, 105)
	checkMoveNot(t, near, 10, move(0, 50), impl.MoveBad)
	checkPushNot(t, near, 10, move(0, 50))
	checkPushNot(t, near, 10, move(0, 101))
	checkMoveRun(t, near, 10, moves{move(0, 50), move(1, 500)}, near, []int{1, 1})
	out := cranes{crane(70, 50, 60)}
	checkMoveNot(t, out, 10, move(0, 55), impl.MoveBad)
	checkPushNot(t, out, 10, move(0, 55))
}
