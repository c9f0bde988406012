package tests

import (
	"slices"
	"testing"

	"loop.example/g00059/impl"
)

func TestBerthAllByHand(t *testing.T) {
	checkPlaces(t, 10, calls{calling(1, 4, 0, 5, 0), waiting(2, 5, 4, 9), waiting(3, 6, 5, 9)}, 0, 4, -1)
	checkPlaces(t, 11, calls{calling(1, 4, 0, 5, 0), waiting(2, 5, 4, 9), waiting(3, 6, 5, 9)}, 0, 4, -1)
	checkPlaces(t, 15, calls{calling(1, 4, 0, 5, 0), waiting(2, 5, 4, 9), waiting(3, 6, 5, 9)}, 0, 4, 9)
	checkPlaces(t, 10, nil)
	checkPlaces(t, 10, calls{})
	checkPlaces(t, 1, calls{waiting(7, 1, 0, 1)}, 0)
	checkPlaces(t, 1000, calls{waiting(3, 999, 0, 1), waiting(7, 1, 0, 1), waiting(9, 1, 0, 1)}, 0, 999, -1)
}

// Who comes first is given a berth first, wherever it stands in the list.
func TestBerthAllInOrderOfFrom(t *testing.T) {
	checkPlaces(t, 10, calls{waiting(1, 6, 3, 9), waiting(2, 6, 2, 9), waiting(3, 6, 1, 9), waiting(4, 4, 0, 9)}, -1, -1, 4, 0)
	checkPlaces(t, 10, calls{waiting(1, 6, 0, 9), waiting(2, 6, 1, 9), waiting(3, 6, 2, 9), waiting(4, 4, 3, 9)}, 0, -1, -1, 6)
	checkPlaces(t, 10, calls{waiting(1, 2, 5, 9), waiting(2, 3, 4, 9), waiting(3, 4, 0, 9)}, 7, 4, 0)
	checkPlaces(t, 10, calls{waiting(1, 2, 2, 9), waiting(2, 3, 1, 9), waiting(3, 4, 1, 9)}, 7, 0, 3)
}

// Of those that come at one minute the least Id goes ahead, however long they
// stay and are.
func TestBerthAllOfEqualFroms(t *testing.T) {
	checkPlaces(t, 10, calls{waiting(1, 6, 2, 9), waiting(2, 6, 2, 4), waiting(3, 4, 2, 3)}, 0, -1, 6)
	checkPlaces(t, 10, calls{waiting(1, 1, 2, 9), waiting(2, 2, 2, 4), waiting(3, 3, 2, 3), waiting(4, 4, 2, 8)}, 0, 1, 3, 6)
	checkPlaces(t, 10, calls{waiting(1, 4, 2, 9), waiting(2, 3, 2, 4), waiting(3, 2, 2, 3), waiting(4, 1, 2, 8)}, 0, 4, 7, 9)
	var same calls
	var places []int
	for i := range 24 {
		same = append(same, waiting(i+1, 3, 7, 8+i%5))
		places = append(places, 3*i)
	}
	checkPlaces(t, 72, same, places...)
	places[23] = -1
	checkPlaces(t, 71, same, places...)
}

// Calls that lie already stay where they lie, also where a lesser place is free,
// and in the way of those who come earlier.
func TestBerthAllOfSomeThatLie(t *testing.T) {
	checkPlaces(t, 20, calls{calling(1, 5, 0, 9, 10), calling(2, 3, 4, 6, 4)}, 10, 4)
	checkPlaces(t, 20, calls{calling(1, 5, 5, 9, 5), waiting(2, 6, 0, 6), waiting(3, 5, 0, 5)}, 5, 10, 0)
	checkPlaces(t, 20, calls{calling(1, 5, 5, 9, 5), waiting(2, 6, 0, 5), waiting(3, 5, 0, 6)}, 5, 0, 10)
	full := calls{calling(1, 20, 0, 9, 0), waiting(2, 1, 0, 9), waiting(3, 20, 9, 10), waiting(4, 1, 8, 10)}
	checkPlaces(t, 20, full, 0, -1, 0, -1)
}

// One who gets none is in nobody's way, and is not asked for again.
func TestBerthAllOfSomeThatGetNone(t *testing.T) {
	checkPlaces(t, 10, calls{waiting(1, 11, 0, 9), waiting(2, 10, 1, 9), waiting(3, 1, 2, 3), waiting(4, 1, 9, 12)}, -1, 0, -1, 0)
	checkPlaces(t, 5, calls{waiting(1, 6, 0, 9), waiting(2, 1000, 0, 9)}, -1, -1)
	checkPlaces(t, 5, calls{waiting(1, 3, 0, 9), waiting(2, 3, 0, 4), waiting(3, 3, 9, 10), waiting(4, 2, 0, 100000000)}, 0, -1, 0, 3)
}

func TestBerthAllOfCallsThatAreNotClear(t *testing.T) {
	for _, list := range unclearLists() {
		checkBerthAll(t, 20, list, nil, false)
		for _, c := range list {
			checkBerth(t, 20, list, c.Id, -1)
		}
		checkBerthAll(t, 20, append(slices.Clone(list), waiting(20, 1, 1000, 1001)), nil, false)
		checkBerth(t, 20, append(slices.Clone(list), waiting(20, 1, 1000, 1001)), 20, -1)
	}
	for _, list := range wrongCallLists() {
		checkBerthAll(t, 20, list, nil, false)
		for _, id := range []int{0, 1, 3, 7, 9, 1000, 1000000, 1000001} {
			checkBerth(t, 20, list, id, -1)
		}
	}
}

func TestBerthAllOfDrawnOnes(t *testing.T) {
	d := &draws{state: 213}
	seen := map[string]int{}
	for range 800 {
		long := min(drawnQuay(d), 120)
		list := drawnCalls(d, long)
		if d.below(8) == 0 {
			spoilCalls(d, list)
		}
		want, ok := berthAllOf(long, list)
		checkBerthAll(t, long, list, want, ok)
		if !ok {
			seen["not clear"]++
			continue
		}
		for i := range want {
			switch {
			case list[i].At != -1:
				seen["lay"]++
			case want[i].At == -1:
				seen["none"]++
			default:
				seen["given"]++
			}
		}
	}
	if len(seen) != 4 || seen["not clear"] < 20 || min(seen["lay"], seen["none"], seen["given"]) < 500 {
		t.Error("few drawn", seen)
	}
}

// Behind it all lie clear, nothing but the At of those without berth is another,
// and nobody who got none could lie anywhere.
func TestBerthAllLeavesAllClear(t *testing.T) {
	d := &draws{state: 214}
	for range 800 {
		long := min(drawnQuay(d), 200)
		list := drawnCalls(d, long)
		got, ok := impl.BerthAll(long, list)
		if !ok || len(got) != len(list) || !impl.Clear17(long, got) {
			t.Fatal(long, list, got, ok)
		}
		for i, now := range got {
			was := list[i]
			if was.At == -1 {
				was.At = now.At
			}
			if was != now {
				t.Fatal("changed", long, list, got)
			}
			if at, isFree := impl.Berth(long, got, now.Id); now.At == -1 && isFree {
				t.Fatal("could lie", at, long, list, got)
			}
		}
		again, _ := impl.BerthAll(long, got)
		if !slices.Equal(got, again) {
			t.Fatal("another one the second time", long, got, again)
		}
	}
}

// BerthAll is Berth for each, in the order in which they come.
func TestBerthAllIsEachBerth(t *testing.T) {
	d := &draws{state: 215}
	for range 300 {
		long := min(drawnQuay(d), 200)
		list := drawnCalls(d, long)
		now := slices.Clone(list)
		for _, from := range append(upTo(12), 99999999) {
			for i, c := range now {
				if c.From == from && c.At == -1 {
					now[i].At, _ = impl.Berth(long, now, c.Id)
				}
			}
		}
		checkBerthAll(t, long, list, now, true)
	}
}

func TestBound17ByHand(t *testing.T) {
	list := calls{calling(1, 4, 0, 5, 0), waiting(2, 5, 4, 9), waiting(3, 6, 5, 9)}
	checkBound(t, 10, list, 11, true)
	checkBound(t, 10, list[:2], 9, true)
	checkBound(t, 10, list[:1], 4, true)
	checkBound(t, 10, nil, 0, true)
	checkBound(t, 10, calls{}, 0, true)
	checkBound(t, 1, calls{waiting(7, 1000, 0, 1)}, 1000, true)
	checkBound(t, 20, calls{calling(1, 9, 0, 9, 0), calling(2, 9, 0, 9, 0)}, 18, true)
	checkBound(t, 10, calls{waiting(1, 5, 0, 9), waiting(2, 5, 8, 12)}, 10, true)
	checkBound(t, 10, calls{waiting(1, 5, 0, 9), waiting(2, 6, 8, 12)}, 11, true)
	checkBound(t, 10, calls{waiting(1, 5, 8, 12), waiting(2, 6, 0, 9)}, 11, true)
}

// Calls that only touch have no minute in common.
func TestBound17OfCallsThatTouch(t *testing.T) {
	checkBound(t, 10, calls{waiting(1, 5, 0, 5), waiting(2, 6, 5, 9)}, 6, true)
	checkBound(t, 10, calls{waiting(1, 6, 5, 9), waiting(2, 5, 0, 5)}, 6, true)
	checkBound(t, 10, calls{waiting(1, 7, 0, 5), waiting(2, 6, 5, 9), waiting(3, 2, 5, 6)}, 8, true)
	checkBound(t, 10, calls{waiting(1, 7, 0, 5), waiting(2, 6, 5, 9), waiting(3, 2, 4, 5)}, 9, true)
	checkBound(t, 10, calls{waiting(1, 7, 0, 5), waiting(2, 6, 5, 9), waiting(3, 2, 4, 6)}, 9, true)
	checkBound(t, 10, calls{waiting(1, 7, 99999999, 100000000), waiting(2, 6, 0, 100000000), waiting(3, 2, 0, 99999999)}, 13, true)
	checkBound(t, 1000, roadstead(24), 3, true)
	var most calls
	for i := range 24 {
		most = append(most, waiting(i+1, 1000, i, 24+i))
	}
	checkBound(t, 1000, most, 24000, true)
	most[23].From = 24
	checkBound(t, 1000, most, 23000, true)
}

func TestBound17OfCallsThatAreNotSo(t *testing.T) {
	for _, list := range wrongCallLists() {
		checkBound(t, 20, list, 0, false)
	}
	for _, long := range []int{-1, 0, 1001} {
		checkBound(t, long, nil, 0, false)
		checkBound(t, long, calls{waiting(7, 5, 0, 1)}, 0, false)
	}
	// They need not be clear.
	for _, list := range unclearLists() {
		want, _ := boundOf(20, list)
		checkBound(t, 20, list, want, true)
	}
}

func TestBound17OfAllPairs(t *testing.T) {
	for _, a := range smallCalls(1, 3, 4) {
		for _, b := range smallCalls(2, 3, 4) {
			most := 0
			for minute := range 4 {
				sum := 0
				for _, c := range (calls{a, b}) {
					if slices.Contains(upTo(c.To)[c.From:], minute) {
						sum += c.Long
					}
				}
				most = max(most, sum)
			}
			checkBound(t, 3, calls{a, b}, most, true)
		}
	}
}

// Where all lie at once, the bound is at most the quay; where it is more, one at
// least gets no berth.
func TestBound17OfDrawnOnes(t *testing.T) {
	d := &draws{state: 216}
	seen := map[bool]int{}
	for range 3000 {
		long := min(drawnQuay(d), 100)
		list := drawnCalls(d, long)
		if d.below(8) == 0 {
			spoilCalls(d, list)
		}
		want, ok := boundOf(long, list)
		checkBound(t, long, list, want, ok)
		all, isClear := impl.BerthAll(long, list)
		if !isClear {
			continue
		}
		lieAll := !slices.ContainsFunc(all, func(c impl.Call) bool { return c.At == -1 })
		if lieAll && want > long {
			t.Fatal(long, list, all, want)
		}
		seen[lieAll]++
	}
	if min(seen[true], seen[false]) < 300 {
		t.Error("few drawn", seen)
	}
}
