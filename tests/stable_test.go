package tests

import (
	"math/big"
	"reflect"
	"slices"
	"testing"

	"loop.example/g00059/impl"
)

// Promise 2: stability, ordinary inputs and the edges that the chapter names.

func TestMassesOkAtLimits(t *testing.T) {
	for name, list := range map[string][]impl.Mass{
		"none":            nil,
		"an empty list":   {},
		"the zero value":  {{}},
		"lowest limits":   one(0, -1200, 0),
		"highest limits":  one(10000, 2400, 1000),
		"as many as can":  heavy(impl.MaxMasses, impl.Mass{Weight: 10000, X: 2400, Z: 1000}),
		"as many nothing": heavy(impl.MaxMasses, impl.Mass{}),
	} {
		if !impl.MassesOk(list) {
			t.Error(name)
		}
	}
}

func TestLoadOf(t *testing.T) {
	for _, c := range []struct {
		list []impl.Mass
		want impl.Load
	}{
		{nil, impl.Load{}},
		{[]impl.Mass{}, impl.Load{}},
		{one(0, 2400, 1000), impl.Load{}},
		{one(1, -1200, 0), impl.Load{Weight: 1, MX: -1200}},
		{one(10000, 2400, 1000), impl.Load{Weight: 10000, MX: 24000000, MZ: 10000000}},
		{[]impl.Mass{{Weight: 4, X: 1, Z: 1}, {Weight: 2, Z: 4}}, impl.Load{Weight: 6, MX: 4, MZ: 12}},
		{[]impl.Mass{{Weight: 3, X: -5, Z: 7}, {Weight: 2, X: 5, Z: 11}}, impl.Load{Weight: 5, MX: -5, MZ: 43}},
		{heavy(40, impl.Mass{Weight: 10000, X: 2400, Z: 1000}), impl.Load{Weight: 400000, MX: 960000000, MZ: 400000000}},
		{heavy(40, impl.Mass{Weight: 10000, X: -1200}), impl.Load{Weight: 400000, MX: -480000000}},
	} {
		if got, ok := impl.LoadOf(c.list); !ok || got != c.want {
			t.Error(c.list, got, ok)
		}
	}
}

func TestMetacentreByHand(t *testing.T) {
	tank := []impl.Tank{{Length: 2, Breadth: 3}}
	for _, c := range []struct {
		name  string
		list  []impl.Mass
		tanks []impl.Tank
		want  impl.Frac
	}{
		{"keel-low", one(5, 0, 0), nil, frac(5, 2)},
		{"how far along is not asked", one(5, 2400, 0), nil, frac(5, 2)},
		{"a whole number", []impl.Mass{{Weight: 1, Z: 1}, {Weight: 1, Z: 2}}, nil, frac(1, 1)},
		{"just 0", []impl.Mass{{Weight: 1, Z: 2}, {Weight: 1, Z: 3}}, nil, frac(0, 1)},
		{"below 0", one(7, 0, 3), nil, frac(-1, 2)},
		{"far below 0", one(10000, 0, 1000), nil, frac(-1995, 2)},
		{"a tank", one(5, 0, 0), tank, frac(37, 16)},
		{"a tank of nothing", one(5, 0, 0), []impl.Tank{{}}, frac(5, 2)},
		{"a tank of no breadth", one(5, 0, 0), []impl.Tank{{Length: 100}}, frac(5, 2)},
		{"a tank of no length", one(5, 0, 0), []impl.Tank{{Breadth: 50}}, frac(5, 2)},
		{"two tanks", one(5, 0, 0), slices.Concat(tank, tank), frac(17, 8)},
		{"the greatest tank", one(5, 0, 0), []impl.Tank{{Length: 100, Breadth: 50}}, frac(-781205, 18)},
		{"as many as can", one(5, 0, 0), slices.Repeat([]impl.Tank{{Length: 100, Breadth: 50}}, impl.MaxTanks), frac(-7812455, 18)},
		{"thirds", []impl.Mass{{Weight: 1, Z: 1}, {Weight: 2, Z: 3}}, nil, frac(1, 6)},
	} {
		if got, ok := impl.Metacentre(raft(), 1, c.list, c.tanks); !ok || got != c.want {
			t.Error(c.name, got, ok)
		}
	}
}

func TestMetacentreOfManyHulls(t *testing.T) {
	d := &draws{state: 2}
	told := 0
	for _, h := range someHulls() {
		for w := range h.Half[0] {
			list, tanks := drawnMasses(d), drawnTanks(d)
			got, ok := impl.Metacentre(h, w, list, tanks)
			if wanted := impl.Volume2(h, w) > 0 && weightOf(list) > 0; ok != wanted {
				t.Fatal(h, w, list, ok)
			}
			if !ok {
				continue
			}
			told++
			want := metacentreOf(h, w, list, tanks)
			if int64(got.Num) != want.Num().Int64() || int64(got.Den) != want.Denom().Int64() {
				t.Fatal(h, w, list, tanks, got, want)
			}
		}
	}
	if told < 1000 {
		t.Error("too few metacentres were held against the document", told)
	}
}

// At all limits together the products are at their greatest.
func TestMetacentreAtAllLimits(t *testing.T) {
	h := box(impl.MaxStations, impl.MaxWaters, 100, 20, impl.MaxHalf)
	list := heavy(impl.MaxMasses, impl.Mass{Weight: 10000, X: 2400, Z: 1000})
	list[0].Weight, list[0].Z = 9989, 999
	tanks := slices.Repeat([]impl.Tank{{Length: 100, Breadth: 50}}, impl.MaxTanks)
	tanks[0] = impl.Tank{Length: 97, Breadth: 49}
	for w := 1; w < impl.MaxWaters; w++ {
		for _, m := range [][]impl.Mass{list, one(1, 0, 0), one(9973, 0, 1000)} {
			got, ok := impl.Metacentre(h, w, m, tanks)
			want := metacentreOf(h, w, m, tanks)
			if !ok || !want.Num().IsInt64() || int64(got.Num) != want.Num().Int64() || int64(got.Den) != want.Denom().Int64() {
				t.Error(w, got, ok, want)
			}
		}
	}
}

func TestMassMovedUpwardsNeverMakesTheMetacentreHigher(t *testing.T) {
	d := &draws{state: 3}
	for _, h := range someHulls() {
		w := len(h.Half[0]) - 1
		list, tanks := drawnMasses(d), drawnTanks(d)
		before, ok := impl.Metacentre(h, w, list, tanks)
		if !ok {
			continue
		}
		for i := range list {
			moved := slices.Clone(list)
			moved[i].Z = d.between(list[i].Z, 1000)
			after, ok := impl.Metacentre(h, w, moved, tanks)
			if !ok || ratio(after).Cmp(ratio(before)) > 0 {
				t.Fatal("higher", h, list, i, moved[i], before, after)
			}
			if lower := list[i].Weight > 0 && moved[i].Z > list[i].Z; lower != (ratio(after).Cmp(ratio(before)) < 0) {
				t.Fatal("not as much as it weighs", h, list, i, moved[i], before, after)
			}
		}
	}
}

func TestRoomsOkAtLimits(t *testing.T) {
	for name, rooms := range map[string][]impl.Room{
		"none":                  nil,
		"an empty list":         {},
		"the first station":     {{First: 0, Last: 0, Perm: 50}},
		"the last station":      {{First: 11, Last: 11, Perm: 50}},
		"all stations":          {{First: 0, Last: 11, Perm: 50}},
		"perm 0":                {{First: 3, Last: 4, Perm: 0}},
		"perm 100":              {{First: 3, Last: 4, Perm: 100}},
		"as many as can":        singles(impl.MaxRooms, 100),
		"one beside the other":  {{First: 0, Last: 3, Perm: 1}, {First: 4, Last: 11, Perm: 99}},
		"told from the far end": {{First: 4, Last: 11, Perm: 99}, {First: 0, Last: 3, Perm: 1}},
		"between two others":    {{First: 0, Last: 3}, {First: 8, Last: 11}, {First: 4, Last: 7}},
	} {
		if !impl.RoomsOk(roomed(), rooms) {
			t.Error(name)
		}
	}
	small := box(2, 2, 1, 1, 1)
	if !impl.RoomsOk(small, []impl.Room{{First: 1, Last: 1}}) || impl.RoomsOk(small, []impl.Room{{First: 1, Last: 2}}) {
		t.Error("stations are counted by another hull's")
	}
}

func TestFloodByHand(t *testing.T) {
	h := impl.Hull{Step: 3, Rise: 5, Half: [][]int{{50, 49, 1}, {50, 49, 1}, {7, 3, 0}}}
	for _, c := range []struct {
		rooms []impl.Room
		want  [][]int
	}{
		{nil, h.Half},
		{[]impl.Room{{First: 0, Last: 2, Perm: 0}}, h.Half},
		{[]impl.Room{{First: 0, Last: 2, Perm: 100}}, [][]int{{0, 0, 0}, {0, 0, 0}, {0, 0, 0}}},
		{[]impl.Room{{First: 0, Last: 2, Perm: 1}}, [][]int{{49, 48, 0}, {49, 48, 0}, {6, 2, 0}}},
		{[]impl.Room{{First: 0, Last: 2, Perm: 99}}, [][]int{{0, 0, 0}, {0, 0, 0}, {0, 0, 0}}},
		{[]impl.Room{{First: 1, Last: 1, Perm: 98}}, [][]int{{50, 49, 1}, {1, 0, 0}, {7, 3, 0}}},
		{[]impl.Room{{First: 1, Last: 2, Perm: 50}}, [][]int{{50, 49, 1}, {25, 24, 0}, {3, 1, 0}}},
		{[]impl.Room{{First: 2, Last: 2, Perm: 50}, {First: 0, Last: 0, Perm: 80}}, [][]int{{10, 9, 0}, {50, 49, 1}, {3, 1, 0}}},
	} {
		want := impl.Hull{Step: 3, Rise: 5, Half: c.want}
		if got := impl.Flood(h, c.rooms); !reflect.DeepEqual(got, want) {
			t.Error(c.rooms, got)
		}
	}
}

func TestFloodOfManyHulls(t *testing.T) {
	d := &draws{state: 4}
	for _, h := range someHulls() {
		rooms := drawnRooms(d, len(h.Half))
		got := impl.Flood(h, rooms)
		if !impl.RoomsOk(h, rooms) || !impl.HullOk(got) || !reflect.DeepEqual(got, floodOf(h, rooms)) {
			t.Fatal(h, rooms, got)
		}
	}
}

func TestRoomsThatLetNothingInChangeNothing(t *testing.T) {
	d := &draws{state: 5}
	leasts := []impl.Frac{frac(-1000, 1), frac(0, 1), frac(1, 2), frac(1000, 1)}
	for _, h := range someHulls() {
		rooms := drawnRooms(d, len(h.Half))
		for i := range rooms {
			rooms[i].Perm = 0
		}
		if got := impl.Flood(h, rooms); !reflect.DeepEqual(got, h) {
			t.Fatal("another hull", h, rooms, got)
		}
		list, tanks := drawnMasses(d), drawnTanks(d)
		for _, least := range leasts {
			if impl.Stands(h, list, tanks, rooms, least) != impl.Stands(h, list, tanks, nil, least) {
				t.Fatal("stands otherwise", h, list, rooms, least)
			}
		}
	}
}

// The raft floats by 24, so that 24 just floats and 25 does not.
func TestStandsByHand(t *testing.T) {
	zero, half := frac(0, 1), frac(1, 2)
	for _, c := range []struct {
		name  string
		list  []impl.Mass
		tanks []impl.Tank
		rooms []impl.Room
		least impl.Frac
		want  int
	}{
		{"well", one(6, 1, 2), nil, nil, zero, impl.StandsWell},
		{"just at least", one(6, 1, 2), nil, nil, half, impl.StandsWell},
		{"just below least", one(6, 1, 2), nil, nil, frac(501, 1000), impl.StandsTender},
		{"just above least", one(6, 1, 2), nil, nil, frac(499, 1000), impl.StandsWell},
		{"below 0, least below it", one(6, 1, 3), nil, nil, frac(-501, 1000), impl.StandsWell},
		{"below 0, just at least", one(6, 1, 3), nil, nil, frac(-1, 2), impl.StandsWell},
		{"below 0, just below least", one(6, 1, 3), nil, nil, frac(-499, 1000), impl.StandsTender},
		{"below 0, least 0", one(6, 1, 3), nil, nil, zero, impl.StandsTender},
		{"just 0, least 0", []impl.Mass{{Weight: 3, Z: 2}, {Weight: 3, Z: 3}}, nil, nil, zero, impl.StandsWell},
		{"lowest least", one(6, 1, 1000), nil, nil, frac(-1000, 1), impl.StandsWell},
		{"highest least", one(6, 1, 0), nil, nil, frac(1000, 1), impl.StandsTender},
		{"smallest least", one(6, 1, 0), nil, nil, frac(1, 1000), impl.StandsWell},
		{"just floats", one(24, 0, 0), nil, nil, zero, impl.StandsWell},
		{"one more", one(25, 0, 0), nil, nil, zero, impl.StandsSunk},
		{"one more, in two", []impl.Mass{{Weight: 24}, {Weight: 1}}, nil, nil, zero, impl.StandsSunk},
		{"sunk and tender", one(25, 0, 1000), nil, nil, frac(1000, 1), impl.StandsSunk},
		{"a tank just at least", one(6, 1, 2), []impl.Tank{{Length: 18, Breadth: 2}}, nil, zero, impl.StandsWell},
		{"a tank just below", one(6, 1, 2), []impl.Tank{{Length: 18, Breadth: 2}, {Length: 1, Breadth: 1}}, nil, zero, impl.StandsTender},
		{"holed, just floats", one(16, 0, 0), nil, []impl.Room{{First: 1, Last: 1, Perm: 50}}, zero, impl.StandsWell},
		{"holed, one more", one(17, 0, 0), nil, []impl.Room{{First: 1, Last: 1, Perm: 50}}, zero, impl.StandsSunk},
		{"all holed", one(1, 0, 0), nil, []impl.Room{{First: 0, Last: 1, Perm: 100}}, zero, impl.StandsSunk},
		{"holed, at least", one(6, 0, 2), nil, []impl.Room{{First: 1, Last: 1, Perm: 50}}, frac(1, 6), impl.StandsWell},
		{"holed, below least", one(6, 0, 2), nil, []impl.Room{{First: 1, Last: 1, Perm: 50}}, frac(1, 5), impl.StandsTender},
	} {
		if got := impl.Stands(raft(), c.list, c.tanks, c.rooms, c.least); got != c.want {
			t.Error(c.name, got)
		}
	}
}

// The water line is the least that bears the weight, not the highest.
func TestStandsAtTheWaterLineThatBears(t *testing.T) {
	h := impl.Hull{Step: 1, Rise: 1, Half: [][]int{{1, 1, 50}, {1, 1, 50}}}
	first, _ := impl.Metacentre(h, 1, one(2, 0, 1), nil)
	second, _ := impl.Metacentre(h, 2, one(3, 0, 1), nil)
	if first != frac(-1, 6) || ratio(second).Cmp(big.NewRat(100, 1)) < 0 {
		t.Error("metacentres", first, second)
	}
	if impl.Stands(h, one(2, 0, 1), nil, nil, frac(0, 1)) != impl.StandsTender {
		t.Error("2 is borne by the middle water line, where it is tender")
	}
	if impl.Stands(h, one(3, 0, 1), nil, nil, frac(0, 1)) != impl.StandsWell {
		t.Error("3 is borne by the upper water line, where it stands well")
	}
}

func TestStandsOfManyHulls(t *testing.T) {
	d := &draws{state: 6}
	seen := map[int]int{}
	for _, h := range someHulls() {
		rooms, tanks := drawnRooms(d, len(h.Half)), drawnTanks(d)
		list := one(d.between(1, 10000), 0, d.below(40))
		for _, least := range leastsAbout(h, list, tanks, rooms) {
			got := impl.Stands(h, list, tanks, rooms, least)
			seen[got]++
			if want := standsOf(h, list, tanks, rooms, least); got != want {
				t.Fatal(h, list, tanks, rooms, least, got, want)
			}
		}
	}
	if seen[impl.StandsWell] < 100 || seen[impl.StandsSunk] < 30 || seen[impl.StandsTender] < 100 {
		t.Error("too few of a kind were held against the document", seen)
	}
}

// leastsAbout are fixed leasts, and such that lie close on both sides of the
// metacentre.
func leastsAbout(h impl.Hull, list []impl.Mass, tanks []impl.Tank, rooms []impl.Room) []impl.Frac {
	leasts := []impl.Frac{frac(0, 1), frac(-1000, 1), frac(1000, 1), frac(1, 2), frac(1, 1000), frac(-1, 1000), frac(-1000, 999), frac(999, 1000)}
	holed := floodOf(h, rooms)
	w := impl.Afloat(holed, weightOf(list))
	if w < 0 {
		return leasts
	}
	height, _ := metacentreOf(holed, w, list, tanks).Float64()
	for _, den := range []int{1, 7, 97, 997} {
		for near := -1; near <= 1; near++ {
			f := big.NewRat(int64(height*float64(den))+int64(near), int64(den))
			if f.Num().IsInt64() && f.Num().CmpAbs(big.NewInt(1000)) <= 0 {
				leasts = append(leasts, frac(int(f.Num().Int64()), int(f.Denom().Int64())))
			}
		}
	}
	return leasts
}

// At the limits a metacentre multiplied out with a least passes 64 bits. The
// tank and the lightest mass leave nothing that could be divided out.
func TestStandsComparesGreatFractions(t *testing.T) {
	h := box(impl.MaxStations, 2, 100, 20, impl.MaxHalf)
	list := heavy(impl.MaxMasses, impl.Mass{Weight: 10000, Z: 1000})
	list[0] = impl.Mass{Weight: 9989, Z: 999}
	tanks := []impl.Tank{{Length: 1, Breadth: 1}}
	height, ok := impl.Metacentre(h, 1, list, tanks)
	if !ok || height != frac(-10013860894799989, 10559709600000) {
		t.Error("metacentre", height, ok)
	}
	for _, least := range leastsAbout(h, list, tanks, nil) {
		if got, want := impl.Stands(h, list, tanks, nil, least), standsOf(h, list, tanks, nil, least); got != want {
			t.Error(least, got, want)
		}
	}
}

func TestFirstBadByHand(t *testing.T) {
	dry := []impl.Room{{First: 0, Last: 1}}
	holed := []impl.Room{{First: 0, Last: 1, Perm: 100}}
	wrong := []impl.Room{{First: 1, Last: 0}}
	for _, c := range []struct {
		name  string
		cases [][]impl.Room
		want  int
	}{
		{"none", nil, -1},
		{"an empty list", [][]impl.Room{}, -1},
		{"a case of no rooms", [][]impl.Room{nil}, -1},
		{"all well", [][]impl.Room{nil, dry, {}}, -1},
		{"the first", [][]impl.Room{holed, nil, nil}, 0},
		{"the first of two", [][]impl.Room{nil, holed, holed}, 1},
		{"the last", [][]impl.Room{nil, dry, holed}, 2},
		{"wrong rooms", [][]impl.Room{nil, wrong, holed}, 1},
		{"as many as can, well", make([][]impl.Room, impl.MaxCases), -1},
		{"as many as can, the last", append(make([][]impl.Room, impl.MaxCases-1), holed), impl.MaxCases - 1},
		{"one too many, well", make([][]impl.Room, impl.MaxCases+1), -2},
		{"one too many, the first", append([][]impl.Room{holed}, make([][]impl.Room, impl.MaxCases)...), -2},
		{"one too many, the last", append(make([][]impl.Room, impl.MaxCases), wrong), -2},
	} {
		if got := impl.FirstBad(raft(), one(6, 1, 2), nil, c.cases, frac(0, 1)); got != c.want {
			t.Error(c.name, got)
		}
	}
	if got := impl.FirstBad(raft(), one(6, 1, 2), nil, [][]impl.Room{nil, dry}, frac(2, 3)); got != 0 {
		t.Error("tender in all", got)
	}
	if got := impl.FirstBad(raft(), one(6, 1, 2), []impl.Tank{{Length: 9, Breadth: 3}}, [][]impl.Room{dry}, frac(0, 1)); got != 0 {
		t.Error("tender by its tank", got)
	}
}

func TestCasesStandWellJustIfEachDoes(t *testing.T) {
	d := &draws{state: 8}
	seen := map[bool]int{}
	for _, h := range someHulls() {
		list, tanks, least := one(d.between(1, 10000), 0, d.below(80)), drawnTanks(d), frac(d.between(-9, 9), 1)
		var cases [][]impl.Room
		for range d.below(impl.MaxCases + 1) {
			cases = append(cases, drawnRooms(d, len(h.Half)))
		}
		want := slices.IndexFunc(cases, func(rooms []impl.Room) bool {
			return impl.Stands(h, list, tanks, rooms, least) != impl.StandsWell
		})
		seen[want < 0]++
		if got := impl.FirstBad(h, list, tanks, cases, least); got != want {
			t.Fatal(h, list, cases, least, got, want)
		}
	}
	if seen[true] < 20 || seen[false] < 20 {
		t.Error("too few of a kind", seen)
	}
}
