package tests

import (
	"slices"
	"testing"

	"loop.example/g00059/impl"
)

func checkOrigin(t *testing.T, list parts, own, least int, want, ok bool) {
	t.Helper()
	if got, told := impl.Origin(list, own, least); got != want || told != ok {
		t.Error(list, own, least, "got", got, told, "not", want, ok)
	}
}

func TestOriginByHand(t *testing.T) {
	three := parts{{From: 1, Value: 3}, {From: 2, Value: 6}, {From: 1, Value: 1}}
	for least := range 101 {
		checkOrigin(t, three, 1, least, least <= 40, true)
		checkOrigin(t, three, 2, least, least <= 60, true)
		checkOrigin(t, three, 3, least, least == 0, true)
		checkOrigin(t, three[:1], 1, least, true, true)
		checkOrigin(t, three[:1], 2, least, least == 0, true)
		checkOrigin(t, parts{{From: 1, Value: 1}, {From: 2, Value: 2}}, 1, least, least <= 33, true)
		checkOrigin(t, parts{{From: 1, Value: 1}, {From: 2, Value: 2}}, 2, least, least <= 66, true)
	}
}

// A worth that is just least by the hundred is enough, and one less is not.
func TestOriginAtItsShare(t *testing.T) {
	for least := 1; least <= 100; least++ {
		for _, times := range []int{1, 7, 1000, 10000} {
			just := parts{{From: 5, Value: least * times}, {From: 6, Value: (100 - least) * times}}
			checkOrigin(t, just, 5, least, true, true)
			less := parts{{From: 5, Value: least*times - 1}, {From: 6, Value: (100-least)*times + 1}}
			checkOrigin(t, less, 5, least, false, true)
			if least < 100 {
				checkOrigin(t, just, 5, least+1, false, true)
			}
		}
	}
}

func TestOriginOfHowMany(t *testing.T) {
	for _, count := range []int{0, 1, 2, 49, 50, 51, 1000} {
		list := slices.Repeat(parts{{From: 4, Value: 2}}, count)
		isSo := count >= 1 && count <= 50
		checkOrigin(t, list, 4, 100, isSo, isSo)
		checkOrigin(t, list, 5, 1, false, isSo)
		checkOrigin(t, list, 5, 0, isSo, isSo)
	}
	last := append(make(parts, 49), impl.Part{From: 300, Value: 1})
	checkOrigin(t, last, 300, 100, true, true)
	checkOrigin(t, last, 0, 1, false, true)
	great := slices.Repeat(parts{{From: 300, Value: 1000000}}, 50)
	checkOrigin(t, great, 300, 100, true, true)
	great[0].From = 299
	checkOrigin(t, great, 300, 98, true, true)
	checkOrigin(t, great, 300, 99, false, true)
	checkOrigin(t, great, 299, 2, true, true)
	checkOrigin(t, great, 299, 3, false, true)
}

func TestOriginAtTheEdgesOfAPart(t *testing.T) {
	for _, from := range []int{-1, 0, 1, 299, 300, 301} {
		isSo := from >= 0 && from <= 300
		checkOrigin(t, parts{{From: from, Value: 5}}, from, 100, isSo, isSo)
		checkOrigin(t, parts{{From: 7, Value: 5}, {From: from, Value: 5}}, from, 50, isSo, isSo)
		checkOrigin(t, parts{{From: 7, Value: 5}, {From: from, Value: 5}}, from, 51, false, isSo)
	}
	for _, value := range []int{-1, 0, 1, 999999, 1000000, 1000001} {
		isSo := value >= 0 && value <= 1000000
		checkOrigin(t, parts{{From: 7, Value: value}}, 7, 100, isSo, isSo)
		checkOrigin(t, parts{{From: 7, Value: value}, {From: 8, Value: 0}}, 7, 100, isSo, isSo)
	}
	for _, least := range []int{-1, 0, 1, 99, 100, 101, -100, 1000} {
		isSo := least >= 0 && least <= 100
		checkOrigin(t, parts{{From: 7, Value: 1}}, 7, least, isSo, isSo)
		checkOrigin(t, parts{{From: 7, Value: 1}}, 8, least, least == 0, isSo)
	}
}

// Where nothing is worth anything, nothing is wanted: each origin has it.
func TestOriginOfNothing(t *testing.T) {
	for _, least := range []int{0, 1, 50, 100} {
		for _, own := range []int{0, 3, 5, 300} {
			checkOrigin(t, parts{{From: 3}}, own, least, true, true)
			checkOrigin(t, parts{{From: 3}, {From: 5}}, own, least, true, true)
			checkOrigin(t, make(parts, 50), own, least, true, true)
		}
	}
	checkOrigin(t, parts{{From: 3}, {From: 5, Value: 1}}, 3, 1, false, true)
	checkOrigin(t, parts{{From: 3}, {From: 5, Value: 1}}, 3, 0, true, true)
}

func TestOriginOfManyKinds(t *testing.T) {
	d := &draws{state: 204}
	seen := map[bool]int{}
	for range 20000 {
		list := drawnParts(d)
		own := []int{list[d.below(len(list))].From, d.between(-1, 301)}[d.below(2)]
		least := []int{d.below(101), d.below(20), 100}[d.below(3)]
		want, ok := originOf(list, own, least)
		checkOrigin(t, list, own, least, want, ok)
		seen[want]++
	}
	if min(seen[true], seen[false]) < 2000 {
		t.Error("few drawn", seen)
	}
}
