package tests

import (
	"fmt"
	"math"
	"slices"
	"testing"

	"loop.example/g00059/impl"
)

// Promise 24: each function of berths and cranes answers, and writes into nothing
// that it is given.

func TestQuaysThatAreNotSo(t *testing.T) {
	for _, long := range []int{math.MinInt, math.MinInt + 1, -1000, -1, 0, 1001, 1002, math.MaxInt - 1, math.MaxInt} {
		for _, list := range []calls{nil, {}, {waiting(7, 5, 0, 9)}, {calling(7, 5, 0, 9, 0)}, {calling(7, 1, 0, 1, 0), waiting(9, 1, 0, 1)}, roadstead(24), roadstead(25)} {
			checkCallsOk(t, long, list, false)
			checkClear(t, long, list, false)
			checkBerthAll(t, long, list, nil, false)
			checkBound(t, long, list, 0, false)
			for _, id := range []int{math.MinInt, -1, 0, 1, 7, 9, 24, 25, math.MaxInt} {
				checkBerth(t, long, list, id, -1)
			}
		}
	}
}

func TestIdsThatNoCallHas(t *testing.T) {
	list := calls{calling(3, 5, 0, 9, 0), waiting(7, 5, 0, 9), waiting(1000000, 5, 0, 9)}
	for _, id := range []int{3, 7, 1000000} {
		if _, ok := impl.Berth(20, list, id); !ok {
			t.Error(id, "is not there")
		}
	}
	for _, id := range []int{math.MinInt, -7, -1, 0, 1, 2, 4, 6, 8, 999999, 1000001, math.MaxInt} {
		checkBerth(t, 20, list, id, -1)
		checkBerth(t, 20, nil, id, -1)
	}
}

// The calls are asked for ahead of the Id, and the quay's length counts for those
// with berth alone.
func TestBerthOnShorterQuays(t *testing.T) {
	list := calls{calling(3, 5, 0, 9, 4), waiting(7, 4, 0, 9), waiting(9, 5, 0, 9)}
	for long := 1; long <= 20; long++ {
		isOk := long >= 9
		checkCallsOk(t, long, list, isOk)
		checkClear(t, long, list, isOk)
		want := map[int]int{3: -1, 7: -1, 9: -1}
		if isOk {
			want[3], want[7] = 0, 0
		}
		if long >= 14 {
			want[9] = 9
		}
		for id, at := range want {
			checkBerth(t, long, list, id, at)
		}
	}
}

func TestRailsThatAreNotSo(t *testing.T) {
	for name, list := range wrongRails() {
		for _, gap := range []int{math.MinInt, -1, 0, 1, 10, 20, 21, math.MaxInt} {
			for _, m := range []impl.Move{{}, move(0, 50), move(0, 500), move(1, 900), move(-1, 5), move(8, 5), move(999, 5)} {
				if got, code := impl.DoMove(list, gap, m); !slices.Equal(got, list) || code != impl.MoveBad {
					t.Error(name, gap, m, got, code)
				}
				if got, ok := impl.PushMove(list, gap, m); !slices.Equal(got, list) || ok {
					t.Error(name, gap, m, got, ok)
				}
			}
			checkMoveRun(t, list, gap, moves{move(0, 50), {}, move(1, 900)}, list, []int{1, 1, 1})
			checkMoveRun(t, list, gap, nil, list, nil)
			checkMoveRun(t, list, gap, make(moves, 61), list, nil)
		}
	}
}

func TestGapsThatAreNotSo(t *testing.T) {
	list := along(100, 300)
	for _, gap := range []int{math.MinInt, math.MinInt + 1, -20, -1, 0, 21, 22, 200, math.MaxInt - 1, math.MaxInt} {
		for _, m := range []impl.Move{{}, move(0, 100), move(0, 50), move(1, 900), move(1, 2000), move(2, 9)} {
			checkMoveNot(t, list, gap, m, impl.MoveBad)
			checkPushNot(t, list, gap, m)
			checkMoveRun(t, list, gap, moves{m}, list, []int{impl.MoveBad})
		}
	}
}

func TestBerthsOfGreatNumbers(t *testing.T) {
	numbers := []int{math.MinInt, math.MinInt + 1, -2, -1, 0, 1, 7, 20, 1000, 1000000, 100000000, math.MaxInt - 1, math.MaxInt}
	for _, n := range numbers {
		for _, m := range numbers {
			for _, c := range []impl.Call{calling(7, 5, n, m, 3), calling(7, n, 3, 9, m), calling(n, m, 3, 9, -1), calling(n, 5, 3, m, n), calling(m, m, m, n, n)} {
				for _, list := range []calls{{c}, {calling(1, 5, 0, 9, 0), c}, {c, calling(1000000, 5, 0, 9, 0)}} {
					for _, long := range []int{20, n} {
						checkCallsOk(t, long, list, callsOkOf(long, list))
						checkClear(t, long, list, clearOf(long, list))
						at, _ := berthOf(long, list, c.Id)
						checkBerth(t, long, list, c.Id, at)
						all, ok := berthAllOf(long, list)
						checkBerthAll(t, long, list, all, ok)
						sum, ok := boundOf(long, list)
						checkBound(t, long, list, sum, ok)
					}
				}
			}
		}
	}
}

func TestCranesOfGreatNumbers(t *testing.T) {
	numbers := []int{math.MinInt, math.MinInt + 1, -1, 0, 1, 7, 20, 500, 1000, 1001, math.MaxInt - 1, math.MaxInt}
	for _, n := range numbers {
		for _, m := range numbers {
			for _, k := range numbers {
				for _, list := range []cranes{along(0, 500), {crane(n, m, k)}, {crane(0, 0, 9), crane(n, m, k)}, {crane(n, m, k), crane(1000, 0, 1000)}, {crane(n, m, k), crane(k, m, n), crane(m, n, k)}} {
					for _, gap := range []int{1, 20, n} {
						checkCranesOk(t, list, gap, cranesOkOf(list, gap))
						for _, own := range []impl.Move{move(0, m), move(n, k), move(1, n)} {
							want, code := doMoveOf(list, gap, own)
							checkMove(t, list, gap, own, want, code)
							want, ok := pushOf(list, gap, own)
							checkPush(t, list, gap, own, want, ok)
						}
					}
				}
			}
		}
	}
}

// pier is all that the functions of the chapter take.
type pier struct {
	long  int
	calls calls
	rail  cranes
	gap   int
	moves moves
}

func piersOfAllKinds() []pier {
	d := &draws{state: 230}
	all := []pier{{}, {20, roadstead(24), along(0, 100, 200, 300, 400, 500, 600, 700), 20, make(moves, 60)}, {20, roadstead(25), make(cranes, 9), 20, make(moves, 61)}}
	for range 200 {
		long := min(drawnQuay(d), 60)
		list, gap := drawnCranes(d)
		all = append(all, pier{long, drawnCalls(d, long), list, gap, drawnMoves(d, list, gap)})
	}
	for _, list := range wrongCallLists() {
		all = append(all, pier{20, list, along(100, 300), 10, moves{move(0, 295), move(1, 310)}})
	}
	for _, list := range unclearLists() {
		all = append(all, pier{20, list, along(100, 300), 21, moves{move(0, 295), move(1, 310)}})
	}
	for _, list := range wrongRails() {
		all = append(all, pier{20, calls{waiting(7, 5, 0, 9), waiting(9, 5, 0, 9)}, list, 10, moves{move(0, 295), move(1, 310)}})
	}
	return all
}

// roomyPier has right things behind each list, that would make a difference.
func roomyPier(p pier) pier {
	return pier{p.long, spare(p.calls, calling(1000000, 1, 0, 100000000, 0)), spare(p.rail, crane(1000, 0, 1000)), p.gap, spare(p.moves, move(0, 1))}
}

func clippedPier(p pier) pier {
	return pier{p.long, slices.Clip(slices.Clone(p.calls)), slices.Clip(slices.Clone(p.rail)), p.gap, slices.Clip(slices.Clone(p.moves))}
}

// wholePier tells all of it, and what lies behind each list.
func wholePier(p pier) string {
	return fmt.Sprint(p.calls[:cap(p.calls)], len(p.calls), p.rail[:cap(p.rail)], len(p.rail), p.moves[:cap(p.moves)], len(p.moves))
}

// idsFor and movesFor are some of the pier's own, and some that are none.
func idsFor(p pier) []int {
	ids := []int{0, 7, 1000000}
	for _, c := range p.calls[:min(len(p.calls), 24)] {
		ids = append(ids, c.Id)
	}
	return ids
}

func movesFor(p pier) moves {
	list := append(slices.Clone(p.moves[:min(len(p.moves), 8)]), move(-1, 5), move(0, 0), move(0, 1000), move(len(p.rail)-1, 0))
	for i, c := range p.rail[:min(len(p.rail), 8)] {
		list = append(list, move(i, c.At), move(i, c.At+2), move(i, c.At-2))
	}
	return list
}

// allOfPier are the answers of all functions, as texts.
func allOfPier(p pier) []string {
	most, isSo := impl.Bound17(p.long, p.calls)
	lie, isClear := impl.BerthAll(p.long, p.calls)
	rail, codes := impl.RunMoves(p.rail, p.gap, p.moves)
	all := []string{fmt.Sprint(impl.CallsOk(p.long, p.calls), impl.Clear17(p.long, p.calls), impl.CranesOk(p.rail, p.gap), most, isSo, lie, isClear, rail, codes)}
	for _, id := range idsFor(p) {
		at, ok := impl.Berth(p.long, p.calls, id)
		all = append(all, fmt.Sprint(at, ok))
	}
	for _, m := range movesFor(p) {
		moved, code := impl.DoMove(p.rail, p.gap, m)
		pushed, ok := impl.PushMove(p.rail, p.gap, m)
		all = append(all, fmt.Sprint(moved, code, pushed, ok))
	}
	return all
}

func TestBerthArgumentsAreNotChanged(t *testing.T) {
	for _, plain := range piersOfAllKinds() {
		p := roomyPier(plain)
		before := wholePier(p)
		got := allOfPier(p)
		if wholePier(p) != before {
			t.Fatal("written into", plain)
		}
		if !slices.Equal(got, allOfPier(clippedPier(plain))) {
			t.Fatal("what lies behind a list is looked at", plain)
		}
	}
}

func overwriteAll[T any](list []T, with T) {
	for i := range list[:cap(list)] {
		list[:cap(list)][i] = with
	}
}

// checkPierNew writes over an answer: neither what was handed in nor another
// answer may change by it.
func checkPierNew[T comparable](t *testing.T, name string, plain pier, other T, ask func(pier) []T) {
	t.Helper()
	p := roomyPier(plain)
	before := wholePier(p)
	earlier, got := ask(p), ask(p)
	want := slices.Clone(got)
	overwriteAll(got, other)
	if wholePier(p) != before {
		t.Fatal(name, "shares memory with what was handed in", plain)
	}
	if !slices.Equal(earlier, want) || !slices.Equal(ask(p), want) {
		t.Fatal(name, "shares memory with another answer", plain)
	}
	overwriteAll(p.calls, impl.Call{Id: -99})
	overwriteAll(p.rail, crane(-99, -99, -99))
	overwriteAll(p.moves, move(-99, -99))
	if !slices.Equal(earlier, want) {
		t.Fatal(name, "keeps the memory of what was handed in", plain)
	}
}

func TestBerthAnswersAreNewMemory(t *testing.T) {
	gone := crane(-99, -99, -99)
	for _, plain := range piersOfAllKinds() {
		checkPierNew(t, "BerthAll", plain, impl.Call{Id: -99}, func(p pier) calls {
			list, _ := impl.BerthAll(p.long, p.calls)
			return list
		})
		for _, m := range movesFor(plain) {
			checkPierNew(t, "DoMove", plain, gone, func(p pier) cranes {
				list, _ := impl.DoMove(p.rail, p.gap, m)
				return list
			})
			checkPierNew(t, "PushMove", plain, gone, func(p pier) cranes {
				list, _ := impl.PushMove(p.rail, p.gap, m)
				return list
			})
		}
		checkPierNew(t, "RunMoves", plain, gone, func(p pier) cranes {
			list, _ := impl.RunMoves(p.rail, p.gap, p.moves)
			return list
		})
		checkPierNew(t, "RunMoves, its codes", plain, -99, func(p pier) []int {
			_, codes := impl.RunMoves(p.rail, p.gap, p.moves)
			return codes
		})
	}
}

func TestBerthsAnswerAgainAndTogether(t *testing.T) {
	piers := piersOfAllKinds()[:100]
	ask := func() string {
		told := ""
		for _, p := range piers {
			told += fmt.Sprintln(allOfPier(p))
		}
		return told
	}
	want := ask()
	told := make(chan string)
	for range 8 {
		go func() { told <- ask() }()
	}
	for range 8 {
		if got := <-told; got != want {
			t.Error("answers hang on earlier calls")
		}
	}
}
