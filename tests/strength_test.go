package tests

import (
	"math"
	"math/big"
	"reflect"
	"slices"
	"testing"

	"loop.example/g00059/impl"
)

// Promise 3: strength, ordinary inputs and the edges that the chapter names.

func checkBeam(t *testing.T, b beam, shear, bending []int, balanced bool) {
	t.Helper()
	if got, ok := impl.Shear2(b.weights, b.buoys2); !ok || !slices.Equal(got, shear) {
		t.Error("Shear2", b, got, ok)
	}
	if got, ok := impl.Bending4(b.weights, b.buoys2, b.step); !ok || !slices.Equal(got, bending) {
		t.Error("Bending4", b, got, ok)
	}
	if got := impl.Balanced(b.weights, b.buoys2, b.step); got != balanced {
		t.Error("Balanced", b, got)
	}
}

func TestBeamsByHand(t *testing.T) {
	for _, c := range []struct {
		b        beam
		shear    []int
		bending  []int
		balanced bool
	}{
		{beam{nil, nil, 1}, []int{0}, []int{0}, false},
		{beam{[]int{}, []int{}, 100}, []int{0}, []int{0}, false},
		{beam{[]int{0}, []int{0}, 1}, []int{0, 0}, []int{0, 0}, true},
		{beam{[]int{3}, []int{6}, 100}, []int{0, 0}, []int{0, 0}, true},
		{beam{[]int{3}, []int{5}, 1}, []int{0, 1}, []int{0, 1}, false},
		{beam{[]int{3}, []int{7}, 1}, []int{0, -1}, []int{0, -1}, false},
		{beam{[]int{5, 1}, []int{4, 8}, 2}, []int{0, 6, 0}, []int{0, 12, 24}, false},
		{beam{[]int{1, 5}, []int{8, 4}, 2}, []int{0, -6, 0}, []int{0, -12, -24}, false},
		{beam{[]int{5, 0, 5}, []int{0, 20, 0}, 1}, []int{0, 10, -10, 0}, []int{0, 10, 10, 0}, true},
		{beam{[]int{5, 0, 5}, []int{0, 20, 0}, 100}, []int{0, 10, -10, 0}, []int{0, 1000, 1000, 0}, true},
		{beam{[]int{0, 10, 0}, []int{10, 0, 10}, 3}, []int{0, -10, 10, 0}, []int{0, -30, -30, 0}, true},
		// Bending ends at 0 here, and shear does not.
		{beam{[]int{1, 0}, []int{0, 6}, 1}, []int{0, 2, -4}, []int{0, 2, 0}, false},
		{beam{[]int{1000000}, []int{0}, 100}, []int{0, 2000000}, []int{0, 200000000}, false},
		{beam{[]int{0}, []int{2000000}, 100}, []int{0, -2000000}, []int{0, -200000000}, false},
	} {
		checkBeam(t, c.b, c.shear, c.bending, c.balanced)
	}
}

func TestManyBeams(t *testing.T) {
	for _, b := range someBeams() {
		var shear, bending []int
		for station := range len(b.weights) + 1 {
			shear = append(shear, shearOf(b, station))
			bending = append(bending, bendingOf(b, station))
		}
		last := len(b.weights)
		checkBeam(t, b, shear, bending, last > 0 && shear[last] == 0 && bending[last] == 0)
	}
}

func TestBeamsAtAllLimits(t *testing.T) {
	shear, _ := impl.Shear2(evenBeam(40, 1000000, 0, 100).weights, make([]int, 40))
	bending, ok := impl.Bending4(slices.Repeat([]int{1000000}, 40), make([]int, 40), 100)
	if !ok || len(shear) != 41 || len(bending) != 41 || shear[40] != 80000000 || bending[40] != 320000000000 {
		t.Error(shear, bending)
	}
	bending, ok = impl.Bending4(make([]int, 40), slices.Repeat([]int{2000000}, 40), 100)
	if !ok || bending[40] != -320000000000 {
		t.Error(bending)
	}
}

// A beam that is the same from both ends, with as much weight as buoyancy, is
// balanced; with one more at an end it is not, nor when weight is moved.
func TestBalanced(t *testing.T) {
	d := &draws{state: 14}
	for range 300 {
		b := beam{step: d.between(1, 100)}
		for range d.between(1, 20) {
			b.weights = append(b.weights, d.below(1000))
		}
		b.weights = append(b.weights, backwards(b.weights)...)
		for s := range b.weights {
			b.buoys2 = append(b.buoys2, 2*b.weights[len(b.weights)-1-s])
		}
		if !impl.Balanced(b.weights, b.buoys2, b.step) {
			t.Fatal("the same from both ends", b)
		}
		shear, _ := impl.Shear2(b.weights, b.buoys2)
		bending, _ := impl.Bending4(b.weights, b.buoys2, b.step)
		if last := len(b.weights); shear[last] != 0 || bending[last] != 0 {
			t.Fatal("balanced does not end at 0", b, shear, bending)
		}
		b.weights[0]++
		if impl.Balanced(b.weights, b.buoys2, b.step) {
			t.Fatal("one more weight", b)
		}
		b.buoys2[len(b.buoys2)-1] += 2
		if impl.Balanced(b.weights, b.buoys2, b.step) {
			t.Fatal("weight at one end, buoyancy at the other", b)
		}
	}
}

func TestGreatest(t *testing.T) {
	const least, most = math.MinInt, math.MaxInt
	for _, c := range []struct {
		list  []int
		place int
		want  int
	}{
		{nil, -1, 0},
		{[]int{}, -1, 0},
		{[]int{0}, 0, 0},
		{[]int{0, 0}, 0, 0},
		{[]int{-4}, 0, -4},
		{[]int{least}, 0, least},
		{[]int{most}, 0, most},
		{[]int{3, -7, 7}, 1, -7},
		{[]int{3, 7, -7}, 1, 7},
		{[]int{0, -1, 1, -1}, 1, -1},
		{[]int{5, 4, 3}, 0, 5},
		{[]int{-3, -4, -5}, 2, -5},
		{[]int{-5, 4, 6, 6, -6}, 2, 6},
		{[]int{most, least}, 1, least},
		{[]int{least, most}, 0, least},
		{[]int{least, least}, 0, least},
		{[]int{-most, most}, 0, -most},
		{[]int{most, -most, least, least + 1, least}, 2, least},
		{[]int{0, most - 1, -most}, 2, -most},
	} {
		if place, got := impl.Greatest(c.list); place != c.place || got != c.want {
			t.Error(c.list, place, got)
		}
	}
}

// The list has no bound in length, and its numbers have none in size.
func TestGreatestOfManyLists(t *testing.T) {
	d := &draws{state: 15}
	for range 500 {
		list := make([]int, d.below(400))
		for i := range list {
			list[i] = (d.below(1<<30)<<33 | d.below(1<<30)<<3) * d.between(-1, 1) >> d.below(64)
		}
		place, most := -1, big.NewInt(-1)
		for i, n := range list {
			if size := new(big.Int).Abs(big.NewInt(int64(n))); size.Cmp(most) > 0 {
				place, most = i, size
			}
		}
		got, n := impl.Greatest(list)
		if got != place || place >= 0 && n != list[place] || place < 0 && n != 0 {
			t.Fatal(list, got, n)
		}
	}
}

func TestSectionByHand(t *testing.T) {
	const most = 1000
	for _, c := range []struct {
		list   []impl.Plate
		height impl.Frac
		want   int
	}{
		{[]impl.Plate{plate(1, 1, 0)}, frac(0, 1), 1},
		{[]impl.Plate{plate(1, 1, 10000)}, frac(10000, 1), 1},
		{[]impl.Plate{plate(3, 2, 7)}, frac(7, 1), 24},
		{[]impl.Plate{plate(most, 1, 5)}, frac(5, 1), 1000},
		{[]impl.Plate{plate(1, most, 5)}, frac(5, 1), 1000000000},
		{[]impl.Plate{plate(most, most, 10000)}, frac(10000, 1), 1000000000000},
		{[]impl.Plate{plate(1, 2, 1), plate(1, 2, 4)}, frac(5, 2), 124},
		{[]impl.Plate{plate(1, 1, 0), plate(1, 1, 0), plate(1, 1, 1)}, frac(1, 3), 11},
		{[]impl.Plate{plate(1, 1, 0), plate(1, 1, 1)}, frac(1, 2), 8},
		// 5 + 12 - 12/5 is 14 and 3/5: down from the whole, not from what is taken.
		{[]impl.Plate{plate(4, 1, 0), plate(1, 1, 1)}, frac(1, 5), 14},
		// 7 + 48 - 48/7 is 48 and 1/7.
		{[]impl.Plate{plate(6, 1, 0), plate(1, 1, 2)}, frac(2, 7), 48},
		// All upside down, the inertia stays.
		{[]impl.Plate{plate(4, 1, 10000), plate(1, 1, 9999)}, frac(49999, 5), 14},
		{[]impl.Plate{plate(6, 1, 10000), plate(1, 1, 9998)}, frac(69998, 7), 48},
		{slices.Repeat([]impl.Plate{plate(most, most, 10000)}, 20), frac(10000, 1), 20000000000000},
		{slices.Repeat([]impl.Plate{plate(most, most, 0), plate(most, most, 10000)}, 10), frac(5000, 1), 6020000000000000},
	} {
		if height, got, ok := impl.Section(c.list); !ok || height != c.height || got != c.want {
			t.Error(c.list, height, got, ok)
		}
	}
}

func TestSectionOfManyPlates(t *testing.T) {
	broken := 0
	for _, list := range somePlates() {
		height, got, ok := impl.Section(list)
		wantHeight, want := sectionOf(list)
		if !ok || height.Num != int(wantHeight.Num().Int64()) || height.Den != int(wantHeight.Denom().Int64()) {
			t.Fatal("height", list, height, wantHeight)
		}
		if big.NewInt(int64(got)).Cmp(floorOf(want)) != 0 {
			t.Fatal("inertia", list, got, want)
		}
		if got <= 0 {
			t.Fatal("inertia is not above 0", list, got)
		}
		if !want.IsInt() {
			broken++
		}
	}
	if broken < 500 {
		t.Error("too few inertias that A does not divide", broken)
	}
}

// How high the whole lies is not told by its inertia.
func TestSectionThatIsMovedUp(t *testing.T) {
	d := &draws{state: 16}
	for range 500 {
		list := drawnPlates(d)
		high, up := 0, slices.Clone(list)
		for _, p := range list {
			high = max(high, p.Height)
		}
		by := d.below(10001 - high)
		for i := range up {
			up[i].Height += by
		}
		height, inertia, _ := impl.Section(list)
		heightUp, inertiaUp, ok := impl.Section(up)
		if !ok || inertia != inertiaUp || ratio(heightUp).Cmp(new(big.Rat).Add(ratio(height), big.NewRat(int64(by), 1))) != 0 {
			t.Fatal(list, by, height, inertia, heightUp, inertiaUp)
		}
	}
}

func TestTurnsByHand(t *testing.T) {
	for _, c := range []struct{ list, want []int }{
		{nil, nil},
		{[]int{}, nil},
		{[]int{0}, []int{0}},
		{[]int{-level}, []int{-level}},
		{[]int{level}, []int{level}},
		{[]int{4, 4}, []int{4}},
		{slices.Repeat([]int{-9}, impl.MaxTurns), []int{-9}},
		{[]int{1, 2}, []int{1, 2}},
		{[]int{2, 1}, []int{2, 1}},
		{[]int{1, 1, 2, 2}, []int{1, 2}},
		{[]int{-level, level}, []int{-level, level}},
		{[]int{1, 2, 3}, []int{1, 3}},
		{[]int{3, 2, 1}, []int{3, 1}},
		{[]int{1, 2, 1}, []int{1, 2, 1}},
		{[]int{2, 1, 2}, []int{2, 1, 2}},
		{[]int{1, 2, 2, 1}, []int{1, 2, 1}},
		{[]int{1, 2, 2, 3}, []int{1, 3}},
		{[]int{0, 0, 3, 3, 5, 5, 5, 4, 4, 6, 6}, []int{0, 5, 4, 6}},
		{[]int{0, 5, 2, 4, -1}, []int{0, 5, 2, 4, -1}},
		{[]int{0, 1, 5, 3, 2, 3, 4, 0, -1}, []int{0, 5, 2, 4, -1}},
		{[]int{-3, -5, -4, -4, -8, -9}, []int{-3, -5, -4, -9}},
		{rising(impl.MaxTurns), []int{-7, impl.MaxTurns - 8}},
		{falling(impl.MaxTurns), []int{impl.MaxTurns - 8, -7}},
		{zigzag(impl.MaxTurns), zigzag(impl.MaxTurns)},
	} {
		if got := impl.Turns(c.list); !slices.Equal(got, c.want) {
			t.Error(c.list, got)
		}
	}
}

func TestTurnsOfManyHistories(t *testing.T) {
	for _, list := range someHistories() {
		turns := impl.Turns(list)
		if !slices.Equal(turns, turnsOf(list)) {
			t.Fatal(list, turns)
		}
		if !slices.Equal(impl.Turns(turns), turns) {
			t.Fatal("turns of turns are others", list, turns)
		}
		if !slices.Equal(impl.Turns(backwards(list)), backwards(turns)) {
			t.Fatal("turns hang on the end one begins at", list, turns)
		}
	}
}

func whole(size int) impl.Swing { return impl.Swing{Range: size} }

func half(size int) impl.Swing { return impl.Swing{Range: size, Half: true} }

func TestSwingsByHand(t *testing.T) {
	for _, c := range []struct {
		name string
		list []int
		want []impl.Swing
	}{
		{"none", nil, nil},
		{"an empty list", []int{}, nil},
		{"one", []int{5}, nil},
		{"all the same", []int{5, 5, 5}, nil},
		{"two", []int{1, 4}, []impl.Swing{half(3)}},
		{"two, falling", []int{4, 1}, []impl.Swing{half(3)}},
		{"only rising", []int{1, 2, 2, 3, 9}, []impl.Swing{half(8)}},
		{"only falling", []int{9, 3, 3, 2, 1}, []impl.Swing{half(8)}},
		{"as far as can be", []int{-level, level}, []impl.Swing{half(2 * level)}},
		{"x below y, left in the end", []int{0, 5, 1}, []impl.Swing{half(5), half(4)}},
		{"x equal to y, from the beginning", []int{0, 5, 0}, []impl.Swing{half(5), half(5)}},
		{"x above y, from the beginning", []int{0, 5, -1}, []impl.Swing{half(5), half(6)}},
		{"told ahead of the next turn", []int{0, 1, -3, 0, -9}, []impl.Swing{half(1), whole(3), half(10)}},
		{"x just below y within", []int{0, 9, 4, 8}, []impl.Swing{half(9), half(5), half(4)}},
		{"x equal to y within", []int{0, 9, 4, 8, 4}, []impl.Swing{whole(4), half(9), half(5)}},
		{"x above y within", []int{0, 9, 4, 8, 3}, []impl.Swing{whole(4), half(9), half(6)}},
		{"within, then from the beginning", []int{0, 5, 2, 4, -1}, []impl.Swing{whole(2), half(5), half(6)}},
		{"the same below 0", []int{0, -5, -2, -4, 1}, []impl.Swing{whole(2), half(5), half(6)}},
		{"two within behind one turn", []int{0, 10, 2, 8, 4, 6, 1}, []impl.Swing{whole(2), whole(6), half(10), half(9)}},
		{"three behind one turn", []int{0, 10, 2, 8, 4, 6, 0}, []impl.Swing{whole(2), whole(6), half(10), half(10)}},
		{"the beginning moves on", []int{3, 5, 1, 8, -2}, []impl.Swing{half(2), half(4), half(7), half(10)}},
		{"left on the stack", []int{0, 9, 1, 8, 2, 7}, []impl.Swing{half(9), half(8), half(7), half(6), half(5)}},
		{"a whole one behind a new beginning", []int{1, 0, 9, 5, 7, 3}, []impl.Swing{half(1), whole(2), half(9), half(6)}},
		{"repeats and ways between", []int{0, 0, 3, 5, 5, 2, 2, 3, 4, 4, 1, -1, -1}, []impl.Swing{whole(2), half(5), half(6)}},
		{"all of it together", []int{-2, 1, -3, 5, -1, 3, -4, 4, -2}, []impl.Swing{half(3), half(4), whole(4), half(8), half(9), half(8), half(6)}},
	} {
		if got := impl.Swings(c.list); !slices.Equal(got, c.want) {
			t.Error(c.name, got, c.want)
		}
	}
}

func TestSwingsOfManyHistories(t *testing.T) {
	seen := map[string]int{}
	for _, list := range someHistories() {
		got := impl.Swings(list)
		if want := swingsOf(list); !slices.Equal(got, want) {
			t.Fatal(list, got, want)
		}
		for _, s := range got {
			if s.Half {
				seen["half"]++
			} else {
				seen["whole"]++
			}
		}
	}
	if seen["half"] < 3000 || seen["whole"] < 3000 {
		t.Error("too few swings were held against the document", seen)
	}
}

// As many halves as turns, less one; none greater than the whole range, and
// one that is as great; and all together as long as the way that was gone.
func TestWhatFollowsOfSwings(t *testing.T) {
	for _, list := range someHistories() {
		halves, way, most := 0, 0, 0
		for _, s := range impl.Swings(list) {
			halves += halvesOf(s)
			way += halvesOf(s) * s.Range
			most = max(most, s.Range)
			if s.Range <= 0 {
				t.Fatal("a swing of nothing", list, s)
			}
		}
		if want := max(0, len(impl.Turns(list))-1); halves != want {
			t.Fatal("halves", list, halves, want)
		}
		gone, span := 0, 0
		for i := 1; i < len(list); i++ {
			gone += apart(list[i-1], list[i])
			span = slices.Max(list) - slices.Min(list)
		}
		if way != gone || most != span {
			t.Fatal("way and span", list, way, gone, most, span)
		}
	}
}

// A history that is turned over, moved, or told by its turns alone has the
// same swings.
func TestSwingsOfAHistoryThatIsMoved(t *testing.T) {
	for _, list := range someHistories() {
		want := impl.Swings(list)
		over, moved := slices.Clone(list), slices.Clone(list)
		for i := range list {
			over[i] = -list[i]
			moved[i] += level - slices.Max(list)
		}
		if got := impl.Swings(over); !slices.Equal(got, want) {
			t.Fatal("turned over", list, got, want)
		}
		if got := impl.Swings(impl.Turns(list)); !slices.Equal(got, want) {
			t.Fatal("by its turns", list, got, want)
		}
		if got := impl.Swings(moved); !slices.Equal(got, want) {
			t.Fatal("moved", list, got, want)
		}
	}
}

func TestSwingsOfTheLongestHistories(t *testing.T) {
	want := slices.Repeat([]impl.Swing{half(2 * level)}, impl.MaxTurns-1)
	if got := impl.Swings(zigzag(impl.MaxTurns)); !reflect.DeepEqual(got, want) {
		t.Error("as wide as can be", got)
	}
	if got := impl.Swings(widening(impl.MaxTurns)); len(got) != impl.MaxTurns-1 || got[0] != half(1) || got[198] != half(397) {
		t.Error("widening", got)
	}
	if got := impl.Swings(narrowing(impl.MaxTurns)); len(got) != impl.MaxTurns-1 || got[0] != half(397) || got[198] != half(1) {
		t.Error("narrowing", got)
	}
}
