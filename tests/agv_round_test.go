package tests

import (
	"slices"
	"testing"

	"loop.example/g00059/impl"
)

// Promise 19: no two carts are at one place, no two change places, and each that
// moves is nearer.

func checkRound(t *testing.T, f impl.Floor, list, want carts, moved []int) {
	t.Helper()
	if got, told, ok := impl.Round(f, list); !ok || !slices.Equal(got, want) || !slices.Equal(told, moved) {
		t.Error(f, list, "got", got, told, ok, "not", want, moved)
	}
}

// checkMovesTo tells where each cart is behind a round, and so which moved.
func checkMovesTo(t *testing.T, f impl.Floor, list carts, places ...int) {
	t.Helper()
	var moved []int
	for i, at := range places {
		if list[i].At != at {
			moved = append(moved, i)
		}
	}
	checkRound(t, f, list, standAt(list, places...), moved)
}

func checkNoneMoves(t *testing.T, f impl.Floor, list carts) {
	t.Helper()
	checkRound(t, f, list, list, nil)
}

func checkStuck(t *testing.T, f impl.Floor, list carts, want ...int) {
	t.Helper()
	if got, ok := impl.Stuck(f, list); !ok || !slices.Equal(got, want) {
		t.Error(f, list, "got", got, ok, "not", want)
	}
}

func TestRoundOfOneCart(t *testing.T) {
	line := lanes(">>>")
	checkMovesTo(t, line, carts{going19(0, 2)}, 1)
	checkMovesTo(t, line, carts{going19(0, 1)}, 1)
	checkMovesTo(t, line, carts{going19(1, 2)}, 2)
	for name, c := range map[string]impl.Cart{"at its Goal, the first": going19(0, 0), "at its Goal": going19(1, 1), "at its Goal, the last": going19(2, 2), "without Goal": parked(1), "no steps back": going19(2, 0), "no step back": going19(1, 0)} {
		if got, moved, ok := impl.Round(line, carts{c}); !ok || !slices.Equal(got, carts{c}) || len(moved) != 0 {
			t.Error(name, got, moved, ok)
		}
		checkStuck(t, line, carts{c})
	}
	checkNoneMoves(t, lanes("."), carts{going19(0, 0)})
	checkNoneMoves(t, lanes("+"), carts{parked(0)})
	checkNoneMoves(t, line, nil)
	checkNoneMoves(t, line, carts{})
}

// A place from which no steps lead to the Goal is no nearer, also where the cart
// is one step away or there.
func TestRoundPastDeadEnds(t *testing.T) {
	f := lanes("+.", "..")
	checkMovesTo(t, f, carts{going19(0, 2)}, 2)
	checkMovesTo(t, f, carts{going19(0, 1)}, 1)
	checkNoneMoves(t, f, carts{going19(0, 0)})
	checkNoneMoves(t, f, carts{going19(0, 3)})
	round := lanes("+>.", "v..", ">>^")
	checkMovesTo(t, round, carts{going19(0, 8)}, 3)
	checkMovesTo(t, round, carts{going19(0, 5)}, 3)
	checkMovesTo(t, round, carts{going19(0, 2)}, 1)
}

// Each of the four sides may be the only one that is nearer, with all ways there.
func TestRoundToEachSide(t *testing.T) {
	open := evenFloor(3, 3, 15)
	for _, to := range []int{1, 3, 5, 7} {
		checkMovesTo(t, open, carts{going19(4, to)}, to)
	}
	checkMovesTo(t, evenFloor(5, 5, 15), carts{going19(12, 14), going19(13, 3), going19(11, 10), going19(17, 22)}, 13, 8, 10, 22)
}

// Of two ways that are as near, the first by bit: x one more, y one more, x one
// less, y one less.
func TestRoundTakesTheFirstWay(t *testing.T) {
	open := evenFloor(3, 3, 15)
	for _, c := range []struct{ from, goal, to int }{{0, 8, 1}, {6, 2, 7}, {2, 6, 5}, {8, 0, 7}, {4, 8, 5}, {4, 2, 5}, {4, 6, 7}, {4, 0, 3}, {0, 4, 1}, {8, 4, 7}} {
		checkMovesTo(t, open, carts{going19(c.from, c.goal)}, c.to)
	}
	// Round the closed middle both ways are as long.
	block := lanes("---", "|.|", "---")
	block = withWays(withWays(withWays(withWays(block, 0, 3), 2, 6), 6, 9), 8, 12)
	checkMovesTo(t, block, carts{going19(1, 7)}, 2)
	checkMovesTo(t, block, carts{going19(7, 1)}, 8)
	checkMovesTo(t, block, carts{going19(3, 5)}, 6)
	checkMovesTo(t, block, carts{going19(5, 3)}, 8)
	// One way fewer: the next by bit, or the one that is left.
	checkMovesTo(t, withWays(open, 0, 14), carts{going19(0, 8)}, 3)
	checkMovesTo(t, withWays(open, 8, 11), carts{going19(8, 0)}, 5)
}

// Who has no better way than one that is taken stays, though another is as near.
func TestRoundWantsOnePlaceOnly(t *testing.T) {
	open := evenFloor(3, 3, 15)
	checkMovesTo(t, open, carts{going19(0, 8), parked(1)}, 0, 1)
	checkMovesTo(t, open, carts{going19(0, 8), going19(1, 2)}, 1, 2)
	checkStuck(t, open, carts{going19(0, 8), parked(1)}, 0)
}

// Of those that want one place, the one ahead in order gets it.
func TestRoundOfCartsThatWantOnePlace(t *testing.T) {
	line := lanes("---")
	checkMovesTo(t, line, carts{going19(0, 1), going19(2, 1)}, 1, 2)
	checkMovesTo(t, line, carts{going19(2, 1), going19(0, 1)}, 1, 0)
	checkMovesTo(t, line, carts{going19(0, 2), going19(2, 0)}, 1, 2)
	checkMovesTo(t, line, carts{going19(2, 0), going19(0, 2)}, 1, 0)
	open, sides := evenFloor(3, 3, 15), []int{1, 3, 5, 7}
	for _, order := range [][]int{{0, 1, 2, 3}, {3, 2, 1, 0}, {1, 3, 0, 2}, {2, 0, 3, 1}} {
		for count := 1; count <= 4; count++ {
			var list carts
			for _, i := range order[:count] {
				list = append(list, going19(sides[i], 4))
			}
			want := placesOf(list)
			want[0] = 4
			checkMovesTo(t, open, list, want...)
			checkStuck(t, open, list, upTo(count)[1:]...)
			checkNoneMoves(t, open, append(carts{parked(4)}, list...))
			if count < 4 {
				checkMovesTo(t, open, append(list, going19(4, sides[order[3]])), append(want, sides[order[3]])...)
			}
		}
	}
}

// Two that want each other's places both stay, whoever is ahead, and so do those
// behind them.
func TestRoundOfTwoThatWouldChangePlaces(t *testing.T) {
	for _, f := range []impl.Floor{lanes("----"), lanes("++++")} {
		checkNoneMoves(t, f, carts{going19(1, 3), going19(2, 0)})
		checkNoneMoves(t, f, carts{going19(2, 0), going19(1, 3)})
		checkNoneMoves(t, f, carts{going19(1, 2), going19(2, 1)})
		checkNoneMoves(t, f, carts{going19(0, 3), going19(1, 3), going19(2, 0), going19(3, 0)})
		checkNoneMoves(t, f, carts{going19(3, 0), going19(2, 0), going19(1, 3), going19(0, 3)})
		checkStuck(t, f, carts{going19(0, 3), going19(1, 3), going19(2, 0), going19(3, 0)}, 0, 1, 2, 3)
		checkMovesTo(t, f, carts{going19(1, 3), going19(2, 3)}, 2, 3)
		checkMovesTo(t, f, carts{going19(1, 3), going19(3, 0)}, 2, 3)
	}
	column := lanes("|", "|", "|")
	checkNoneMoves(t, column, carts{going19(0, 1), going19(1, 0)})
	checkNoneMoves(t, column, carts{going19(2, 0), going19(1, 2)})
}

// ringOf are all places of the edge of a floor, in the order in which it leads on.
func ringOf(f impl.Floor) []int {
	ring := []int{0}
	for place := leadsTo(f, 0)[0]; place != 0; place = leadsTo(f, place)[0] {
		ring = append(ring, place)
	}
	return ring
}

// A ring of carts that want each other's places all move, in whatever order they
// stand in the list.
func TestRoundOfRings(t *testing.T) {
	d := &draws{state: 272}
	for _, sizes := range [][2]int{{2, 2}, {3, 2}, {2, 3}, {3, 3}, {5, 2}, {2, 5}, {4, 4}, {3, 5}} {
		f, _ := impl.OneWay(sizes[0], sizes[1])
		ring := ringOf(f)
		for range 30 {
			var list carts
			var want []int
			for _, i := range shuffled(d, upTo(len(ring))) {
				list = append(list, going19(ring[i], ring[(i+d.between(1, len(ring)-1))%len(ring)]))
				want = append(want, ring[(i+1)%len(ring)])
			}
			checkMovesTo(t, f, list, want...)
			checkStuck(t, f, list)
			// One that stays holds all.
			held := withCart(list, d.below(len(list)), parked(0))
			i := slices.Index(held, parked(0))
			held[i].At = list[i].At
			checkNoneMoves(t, f, held)
			held[i].Goal = held[i].At
			checkNoneMoves(t, f, held)
			// Where one is not there, all others go on round.
			open := slices.Delete(slices.Clone(list), i, i+1)
			checkMovesTo(t, f, open, slices.Delete(slices.Clone(want), i, i+1)...)
		}
	}
}

// On a grid a ring has an even number of places, so three carts go round one of
// four with a place that is free.
func TestRoundOfThreeInARing(t *testing.T) {
	f, _ := impl.OneWay(2, 2)
	checkMovesTo(t, f, carts{going19(0, 2), going19(1, 2), going19(3, 1)}, 1, 3, 2)
	checkMovesTo(t, f, carts{going19(3, 1), going19(1, 2), going19(0, 2)}, 2, 3, 1)
	checkMovesTo(t, f, carts{going19(3, 1), parked(1), going19(0, 2)}, 2, 1, 0)
	checkMovesTo(t, f, carts{going19(3, 2), going19(1, 3), going19(0, 1)}, 2, 3, 1)
	both := evenFloor(2, 2, 15)
	checkMovesTo(t, both, carts{going19(0, 1), going19(1, 3), going19(3, 2), going19(2, 0)}, 1, 3, 2, 0)
	checkMovesTo(t, both, carts{going19(0, 2), going19(2, 3), going19(3, 1), going19(1, 0)}, 2, 3, 1, 0)
	checkNoneMoves(t, both, carts{going19(0, 1), going19(1, 0), going19(3, 2), going19(2, 3)})
	checkNoneMoves(t, both, carts{going19(0, 3), going19(1, 2), going19(2, 1), going19(3, 0)})
}

// Two rings that meet: who is not of a ring can't come in.
func TestRoundBesideARing(t *testing.T) {
	f := lanes(">v.", "^<<")
	ring := carts{going19(0, 1), going19(1, 4), going19(4, 3), going19(3, 0)}
	checkMovesTo(t, f, append(slices.Clone(ring), going19(5, 4)), 1, 4, 3, 0, 5)
	checkNoneMoves(t, f, append(carts{going19(5, 4)}, ring...))
	checkStuck(t, f, append(carts{going19(5, 4)}, ring...), 0, 1, 2, 3, 4)
}

// longRow are carts on a lane of so many, the foremost last, all to its end.
func longRow(count int) carts {
	var list carts
	for at := range count {
		list = append(list, going19(at, 9))
	}
	return list
}

func TestRoundOfRows(t *testing.T) {
	line := evenFloor(10, 1, 1)
	for count := 1; count <= 9; count++ {
		list := longRow(count)
		for _, order := range []carts{list, reversedCarts(list)} {
			var next []int
			for _, at := range placesOf(order) {
				next = append(next, at+1)
			}
			checkMovesTo(t, line, order, next...)
			checkStuck(t, line, order)
			for name, stands := range map[string]impl.Cart{"parked": parked(count), "at its Goal": going19(count, count), "without steps": going19(count, 0)} {
				if _, moved, ok := impl.Round(line, append(carts{stands}, order...)); !ok || len(moved) != 0 {
					t.Error(name, order, moved, ok)
				}
				checkNoneMoves(t, line, append(slices.Clone(order), stands))
				checkStuck(t, line, append(slices.Clone(order), stands), upTo(count)...)
			}
		}
	}
}

func reversedCarts(list carts) carts {
	list = slices.Clone(list)
	slices.Reverse(list)
	return list
}

// A row behind one that stands in its midst: those ahead of that one go on.
func TestRoundOfARowThatIsParted(t *testing.T) {
	line := evenFloor(10, 1, 1)
	for stands := range 6 {
		list := longRow(6)
		list[stands].Goal = -1
		want := placesOf(list)
		for i := stands + 1; i < 6; i++ {
			want[i]++
		}
		checkMovesTo(t, line, list, want...)
		checkStuck(t, line, list, upTo(stands)...)
	}
}

// Two rows meet: the whole row goes on whose head is ahead in order, wherever the
// others of both stand in the list; the other one is struck from its head on.
func TestRoundOfRowsThatMeet(t *testing.T) {
	f := lanes(">>>>>", "...^.", "...^.")
	all := carts{going19(0, 4), going19(1, 4), going19(2, 4), going19(8, 4), going19(13, 4)}
	next := map[int]int{0: 1, 1: 2, 2: 3, 8: 3, 13: 8}
	d := &draws{state: 273}
	for range 400 {
		list := shuffled(d, all)
		isRow := slices.Index(placesOf(list), 2) < slices.Index(placesOf(list), 8)
		var want []int
		for _, at := range placesOf(list) {
			if isRow == (at < 3) {
				at = next[at]
			}
			want = append(want, at)
		}
		checkMovesTo(t, f, list, want...)
	}
}

// The head's want is struck behind those of none, so that each of the row may go at
// first, and none in the end.
func TestRoundOfARowThatIsStruckLater(t *testing.T) {
	f := lanes(">>>>>", "...^.")
	list := carts{going19(8, 4), going19(0, 4), going19(1, 4), going19(2, 4)}
	checkMovesTo(t, f, list, 3, 0, 1, 2)
	checkStuck(t, f, list, 1, 2, 3)
	wants := wantsOf(f, list)
	if _, reasons := struckOf(list, wants); !slices.Equal(reasons, []int{strikeAhead, strikeStruck, strikeStruck}) {
		t.Error(reasons)
	}
	// What stands beyond holds the one that had the place, and so both.
	checkNoneMoves(t, f, append(list, parked(3)))
	checkMovesTo(t, f, append(list, going19(3, 4)), 3, 0, 1, 2, 4)
	checkNoneMoves(t, f, append(list, going19(3, 4), parked(4)))
}

// A want that one ahead barred is free again when that one is struck; it is then
// struck for who stands there.
func TestRoundOfAWantThatIsFreeAgain(t *testing.T) {
	open := evenFloor(3, 3, 15)
	list := carts{going19(3, 5), going19(1, 7), going19(4, 3)}
	for _, c := range []struct {
		order   [3]int
		reasons []int
	}{
		{[3]int{0, 1, 2}, []int{strikeSwaps, strikeStruck, strikeStruck}},
		{[3]int{1, 0, 2}, []int{strikeAhead, strikeStruck, strikeStruck}},
		{[3]int{2, 0, 1}, []int{strikeSwaps, strikeStruck, strikeStruck}},
	} {
		own := carts{list[c.order[0]], list[c.order[1]], list[c.order[2]]}
		if _, reasons := struckOf(own, wantsOf(open, own)); !slices.Equal(reasons, c.reasons) {
			t.Error(own, reasons)
		}
		checkNoneMoves(t, open, own)
		checkStuck(t, open, own, 0, 1, 2)
	}
}

func TestStuckByHand(t *testing.T) {
	line := lanes("--->")
	checkStuck(t, line, nil)
	checkStuck(t, line, carts{})
	checkStuck(t, line, carts{going19(0, 2), going19(1, 0)}, 0, 1)
	checkStuck(t, line, carts{going19(1, 0), going19(0, 2)}, 0, 1)
	checkStuck(t, line, carts{going19(0, 3)})
	checkStuck(t, line, carts{going19(0, 3), going19(1, 3), going19(2, 3)})
	checkStuck(t, line, carts{going19(0, 3), going19(1, 3), parked(2)}, 0, 1)
	checkStuck(t, line, carts{going19(0, 3), parked(1), going19(2, 3)}, 0)
	checkStuck(t, line, carts{going19(3, 0), going19(2, 3)}, 1)
	checkStuck(t, line, carts{going19(3, 0), going19(2, 2), parked(1), going19(0, 0)})
	checkStuck(t, line, carts{parked(3), going19(1, 0), going19(2, 3), going19(0, 1)}, 1, 2, 3)
	checkStuck(t, evenFloor(2, 2, 15), carts{going19(0, 1), going19(1, 0), going19(3, 2), going19(2, 3)}, 0, 1, 2, 3)
}

// checkNearer holds a round against what it must not do.
func checkNearer(t *testing.T, f impl.Floor, list, now carts, moved []int) {
	t.Helper()
	if !ascends(moved) || len(now) != len(list) || !impl.CartsOk(f, now) {
		t.Fatal(f, list, now, moved)
	}
	for i, c := range list {
		if now[i].Goal != c.Goal || (now[i].At != c.At) != slices.Contains(moved, i) {
			t.Fatal(f, list, now, moved)
		}
		for j := range i {
			if now[i].At == now[j].At || now[i].At == list[j].At && now[j].At == c.At {
				t.Fatal("one place for two, or changed places", f, list, now, i, j)
			}
		}
	}
	for _, i := range moved {
		hops, ok := impl.Hops(f, list[i].Goal)
		if !ok || hops[now[i].At] != hops[list[i].At]-1 || !slices.Contains(leadsTo(f, list[i].At), now[i].At) {
			t.Fatal("not nearer", f, list, now, i)
		}
	}
}

func TestRoundsOfDrawnTraffic(t *testing.T) {
	d := &draws{state: 274}
	seen, count := [4]int{}, map[bool]int{}
	for range 6000 {
		f, list := drawnTraffic(d)
		want, moved := roundOf(f, list)
		checkRound(t, f, list, want, moved)
		checkNearer(t, f, list, want, moved)
		checkStuck(t, f, list, stuckOf(f, list)...)
		wants := wantsOf(f, list)
		_, reasons := struckOf(list, wants)
		for _, why := range reasons {
			seen[why]++
		}
		for at := range list {
			moves := slices.Contains(moved, at)
			if moves != movesByChain(list, wants, at) {
				t.Fatal("not as the chain of those ahead tells", f, list, at)
			}
			count[moves]++
		}
	}
	if slices.Min(seen[:]) < 300 || min(count[true], count[false]) < 3000 {
		t.Error("few drawn", seen, count)
	}
}

// onSmall calls with all lists of so many carts on a floor, with all Goals.
func onSmall(f impl.Floor, count int, yield func(carts)) {
	var add func(list carts)
	add = func(list carts) {
		if len(list) == count {
			yield(slices.Clone(list))
			return
		}
		for at := range f.Ways {
			if slices.Contains(placesOf(list), at) {
				continue
			}
			for goal := -1; goal < len(f.Ways); goal++ {
				add(append(list, going19(at, goal)))
			}
		}
	}
	add(nil)
}

// All carts on all small floors.
func TestAllSmallTraffic(t *testing.T) {
	check := func(f impl.Floor) func(carts) {
		return func(list carts) {
			want, moved := roundOf(f, list)
			checkRound(t, f, list, want, moved)
		}
	}
	for ways := range 64 {
		row := impl.Floor{Wide: 3, High: 1, Ways: []int{[]int{0, 1, 4, 5}[ways%4], []int{0, 1, 4, 5}[ways/4%4], []int{0, 1, 4, 5}[ways/16]}}
		for count := range 3 {
			onSmall(row, count, check(row))
		}
	}
	for ways := range 256 {
		f := impl.Floor{Wide: 2, High: 2, Ways: []int{ways % 4, ways / 4 % 4 * 2, []int{0, 1, 8, 9}[ways/16%4], ways / 64 * 4}}
		onSmall(f, 1, check(f))
		if ways%5 == 0 {
			onSmall(f, 2, check(f))
		}
	}
	ring, _ := impl.OneWay(2, 2)
	onSmall(ring, 4, check(ring))
	onSmall(evenFloor(2, 2, 15), 3, check(evenFloor(2, 2, 15)))
	onSmall(evenFloor(2, 2, 15), 4, check(evenFloor(2, 2, 15)))
}
