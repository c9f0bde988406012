package tests

import (
	"reflect"
	"slices"
	"testing"

	"loop.example/g00059/impl"
)

// Promise 24: each function answers, and a wrong input has one fixed answer.

func checkNoMetacentre(t *testing.T, name string, h impl.Hull, w int, list []impl.Mass, tanks []impl.Tank) {
	t.Helper()
	if got, ok := impl.Metacentre(h, w, list, tanks); ok || got != (impl.Frac{}) {
		t.Error("Metacentre", name, got, ok)
	}
}

func checkBad(t *testing.T, name string, h impl.Hull, list []impl.Mass, tanks []impl.Tank, rooms []impl.Room, least impl.Frac) {
	t.Helper()
	if got := impl.Stands(h, list, tanks, rooms, least); got != impl.StandsBad {
		t.Error("Stands", name, got)
	}
	if got := impl.FirstBad(h, list, tanks, [][]impl.Room{rooms}, least); got != 0 {
		t.Error("FirstBad", name, got)
	}
	if got := impl.FirstBad(h, list, tanks, slices.Repeat([][]impl.Room{rooms}, impl.MaxCases+1), least); got != -2 {
		t.Error("FirstBad of too many", name, got)
	}
	if got := impl.FirstBad(h, list, tanks, nil, least); got != -1 {
		t.Error("FirstBad of none", name, got)
	}
}

func TestWrongMasses(t *testing.T) {
	for name, list := range wrongMasses() {
		if impl.MassesOk(list) {
			t.Error("MassesOk", name)
		}
		if got, ok := impl.LoadOf(list); ok || got != (impl.Load{}) {
			t.Error("LoadOf", name, got, ok)
		}
		checkNoMetacentre(t, name, raft(), 1, list, nil)
		checkBad(t, name, raft(), list, nil, nil, frac(0, 1))
	}
}

func TestMassesThatWeighNothing(t *testing.T) {
	for name, list := range weighNothing() {
		if got, ok := impl.LoadOf(list); !impl.MassesOk(list) || !ok || got != (impl.Load{}) {
			t.Error("LoadOf", name, got, ok)
		}
		checkNoMetacentre(t, name, raft(), 1, list, nil)
		checkBad(t, name, raft(), list, nil, nil, frac(0, 1))
	}
}

func TestWrongTanks(t *testing.T) {
	for name, tanks := range wrongTanks() {
		checkNoMetacentre(t, name, raft(), 1, one(6, 1, 2), tanks)
		checkBad(t, name, raft(), one(6, 1, 2), tanks, nil, frac(-1000, 1))
	}
}

func TestStabilityOfWrongHulls(t *testing.T) {
	for name, h := range wrongHulls() {
		for w := -1; w <= 3; w++ {
			checkNoMetacentre(t, name, h, w, one(6, 1, 2), nil)
		}
		for _, rooms := range [][]impl.Room{nil, {}, {{First: 0, Last: 0}}, {{First: 1, Last: 0}}} {
			if impl.RoomsOk(h, rooms) {
				t.Error("RoomsOk", name, rooms)
			}
			if got := impl.Flood(h, rooms); !reflect.DeepEqual(got, impl.Hull{}) {
				t.Error("Flood", name, rooms, got)
			}
			checkBad(t, name, h, one(6, 1, 2), nil, rooms, frac(0, 1))
		}
	}
}

func TestMetacentreOfWrongWaters(t *testing.T) {
	for _, h := range someHulls() {
		for _, w := range wrongWaters(len(h.Half[0])) {
			checkNoMetacentre(t, "no water line", h, w, one(6, 1, 2), nil)
		}
	}
}

func TestMetacentreOfNoVolume(t *testing.T) {
	for _, h := range someHulls() {
		checkNoMetacentre(t, "the lowest water line", h, 0, one(6, 1, 2), nil)
	}
	for w := range 3 {
		checkNoMetacentre(t, "no breadth", box(4, 3, 5, 5, 0), w, one(6, 1, 2), nil)
	}
	high := impl.Hull{Step: 1, Rise: 1, Half: [][]int{{0, 0, 1}, {0, 0, 1}}}
	checkNoMetacentre(t, "no breadth below", high, 1, one(6, 1, 2), nil)
	if got, ok := impl.Metacentre(high, 2, one(6, 1, 2), nil); !ok || got != frac(1, 6) {
		t.Error("breadth at the top", got, ok)
	}
}

func TestWrongRooms(t *testing.T) {
	for name, rooms := range wrongRooms() {
		if impl.RoomsOk(roomed(), rooms) {
			t.Error("RoomsOk", name)
		}
		if got := impl.Flood(roomed(), rooms); !reflect.DeepEqual(got, impl.Hull{}) {
			t.Error("Flood", name, got)
		}
		checkBad(t, name, roomed(), one(6, 1, 2), nil, rooms, frac(0, 1))
	}
}

func TestWrongLeasts(t *testing.T) {
	for _, least := range wrongLeasts() {
		checkBad(t, "least", raft(), one(6, 1, 2), nil, nil, least)
	}
}

func TestLeastsAtLimits(t *testing.T) {
	for _, least := range []impl.Frac{
		frac(0, 1), frac(1, 1), frac(-1, 1), frac(1000, 1), frac(-1000, 1), frac(1, 1000), frac(-1, 1000),
		frac(999, 1000), frac(-999, 1000), frac(1000, 999), frac(-1000, 999), frac(6, 35), frac(-35, 6), frac(997, 991),
	} {
		want := impl.StandsTender
		if 2*least.Num <= least.Den {
			want = impl.StandsWell
		}
		if got := impl.Stands(raft(), one(6, 1, 2), nil, nil, least); got != want {
			t.Error(least, got)
		}
	}
}

// A fraction is in lowest terms just if no number above 1 goes into both.
func TestLeastsInLowestTerms(t *testing.T) {
	for num := -60; num <= 60; num++ {
		for den := -3; den <= 60; den++ {
			right := den >= 1
			for by := 2; by <= 60; by++ {
				right = right && (num%by != 0 || den%by != 0)
			}
			bad := impl.Stands(raft(), one(6, 1, 2), nil, nil, frac(num, den)) == impl.StandsBad
			if bad == right {
				t.Fatal(num, den, bad)
			}
		}
	}
}

// What is bad is told ahead of what is sunk, and that ahead of what is tender.
func TestStandsTellsTheFirstReason(t *testing.T) {
	sunk, tender, low := one(25, 0, 1000), one(6, 0, 1000), frac(1000, 1)
	if got := impl.Stands(raft(), sunk, nil, nil, low); got != impl.StandsSunk {
		t.Error("sunk and tender", got)
	}
	for _, list := range [][]impl.Mass{sunk, tender} {
		checkBad(t, "hull", impl.Hull{}, list, nil, nil, low)
		checkBad(t, "masses", raft(), append(one(-1, 0, 0), list...), nil, nil, low)
		checkBad(t, "tanks", raft(), list, []impl.Tank{{Length: 101}}, nil, low)
		checkBad(t, "rooms", raft(), list, nil, []impl.Room{{First: 2, Last: 2, Perm: 100}}, low)
		checkBad(t, "least", raft(), list, nil, nil, frac(1000, 1000))
		checkBad(t, "all", impl.Hull{}, append(one(-1, 0, 0), list...), []impl.Tank{{Length: 101}}, []impl.Room{{First: 2, Last: 2}}, impl.Frac{})
	}
}

// loaded is all that the chapter's functions are handed, with room behind.
type loaded struct {
	h     impl.Hull
	list  []impl.Mass
	tanks []impl.Tank
	rooms []impl.Room
	cases [][]impl.Room
	least impl.Frac
}

// spare is the list with right elements in the room behind it.
func spare[T any](list []T, behind T) []T {
	return append(slices.Clone(list), behind, behind, behind)[:len(list)]
}

func roomyLoad(l loaded) loaded {
	wet := impl.Room{First: 0, Last: 1, Perm: 100}
	l.h = roomy(l.h)
	l.list = spare(l.list, impl.Mass{Weight: 9999, X: 9, Z: 9})
	l.tanks = spare(l.tanks, impl.Tank{Length: 99, Breadth: 9})
	l.rooms = spare(l.rooms, wet)
	var cases [][]impl.Room
	for _, rooms := range l.cases {
		cases = append(cases, spare(rooms, wet))
	}
	l.cases = spare(cases, []impl.Room{wet})
	return l
}

func wholeLoad(l loaded) []any {
	whole := []any{wholeOf(l.h), slices.Clone(l.list[:cap(l.list)]), slices.Clone(l.tanks[:cap(l.tanks)]), slices.Clone(l.rooms[:cap(l.rooms)])}
	for _, rooms := range l.cases[:cap(l.cases)] {
		whole = append(whole, slices.Clone(rooms[:cap(rooms)]))
	}
	return whole
}

func allOfLoad(l loaded) []any {
	load, ok := impl.LoadOf(l.list)
	told := []any{impl.MassesOk(l.list), load, ok, impl.RoomsOk(l.h, l.rooms), impl.Flood(l.h, l.rooms)}
	for w := -1; w <= impl.MaxWaters; w++ {
		height, ok := impl.Metacentre(l.h, w, l.list, l.tanks)
		told = append(told, height, ok)
	}
	return append(told, impl.Stands(l.h, l.list, l.tanks, l.rooms, l.least), impl.FirstBad(l.h, l.list, l.tanks, l.cases, l.least))
}

func drawnLoads() []loaded {
	d := &draws{state: 9}
	var loads []loaded
	for _, h := range hullsOfAllKinds() {
		l := loaded{h: h, list: drawnMasses(d), tanks: drawnTanks(d), rooms: drawnRooms(d, len(h.Half)), least: frac(d.between(-3, 3), 1)}
		for range d.below(impl.MaxCases + 3) {
			l.cases = append(l.cases, drawnRooms(d, len(h.Half)))
		}
		loads = append(loads, l)
	}
	for _, rooms := range wrongRooms() {
		loads = append(loads, loaded{h: roomed(), list: one(6, 1, 2), rooms: rooms, cases: [][]impl.Room{nil, rooms}, least: frac(0, 1)})
	}
	for _, list := range wrongMasses() {
		loads = append(loads, loaded{h: raft(), list: list, cases: [][]impl.Room{nil}, least: frac(0, 1)})
	}
	for _, tanks := range wrongTanks() {
		loads = append(loads, loaded{h: raft(), list: one(6, 1, 2), tanks: tanks, cases: [][]impl.Room{nil}, least: frac(0, 1)})
	}
	// All at their limits, where one more from behind would be refused.
	loads = append(loads, loaded{h: roomed(), list: heavy(impl.MaxMasses, impl.Mass{Weight: 1}), tanks: make([]impl.Tank, impl.MaxTanks),
		rooms: singles(impl.MaxRooms, 9), cases: make([][]impl.Room, impl.MaxCases), least: frac(0, 1)})
	return loads
}

func TestStabilityArgumentsAreNotChanged(t *testing.T) {
	for _, plain := range drawnLoads() {
		l := roomyLoad(plain)
		before := wholeLoad(l)
		got := allOfLoad(l)
		if !reflect.DeepEqual(wholeLoad(l), before) {
			t.Fatal("written into", plain)
		}
		if !reflect.DeepEqual(got, allOfLoad(plain)) {
			t.Fatal("what lies behind the lists is looked at", plain)
		}
	}
}

func TestFloodIsNewMemory(t *testing.T) {
	d := &draws{state: 10}
	for _, plain := range someHulls() {
		for _, rooms := range [][]impl.Room{nil, drawnRooms(d, len(plain.Half))} {
			h := roomy(plain)
			before := wholeOf(h)
			f := impl.Flood(h, rooms)
			for s := range f.Half {
				others := wholeOf(f)
				overwrite(f.Half[s])
				others[s] = f.Half[s][:cap(f.Half[s])]
				if !reflect.DeepEqual(wholeOf(f)[:len(f.Half)], others[:len(f.Half)]) {
					t.Fatal("two stations of a holed hull share memory", plain, rooms, s)
				}
			}
			clear(f.Half[:cap(f.Half)])
			if !reflect.DeepEqual(wholeOf(h), before) {
				t.Fatal("Flood shares memory with its hull", plain, rooms)
			}
		}
	}
}

// One list may be handed in as several stations: water in one room stays out
// of the others all the same.
func TestFloodPartsWhatIsShared(t *testing.T) {
	row := []int{10, 20, 30}
	got := impl.Flood(impl.Hull{Step: 1, Rise: 1, Half: [][]int{row, row, row}}, []impl.Room{{First: 1, Last: 1, Perm: 50}})
	want := [][]int{{10, 20, 30}, {5, 10, 15}, {10, 20, 30}}
	if !reflect.DeepEqual(got.Half, want) || !slices.Equal(row, []int{10, 20, 30}) {
		t.Error(got, row)
	}
}

func TestStabilityAnswersAgainAndTogether(t *testing.T) {
	for _, l := range drawnLoads()[:20] {
		want := allOfLoad(l)
		told := make(chan []any)
		for range 4 {
			go func() { told <- allOfLoad(l) }()
		}
		for range 4 {
			if !reflect.DeepEqual(<-told, want) {
				t.Fatal("answers hang on earlier calls", l)
			}
		}
	}
}
