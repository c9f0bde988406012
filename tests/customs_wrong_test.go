package tests

import (
	"fmt"
	"math"
	"slices"
	"testing"

	"loop.example/g00059/impl"
)

// Promise 24: each function of customs answers, and writes into nothing that it
// is given.

// rightDeeds can be done, one behind the other, on a house with a lot 7 of 6 that
// is landed and one 9 that is held.
func rightDeeds() deeds {
	return deeds{landing(8, 0, 1, 1, 1), splitting(7, 2, 5), doing(impl.DeedLift, 9), doing(impl.DeedHold, 5), doing(impl.DeedPay, 7), doing(impl.DeedTake, 7), doing(impl.DeedTransit, 9), doing(impl.DeedArrive, 9)}
}

func TestHousesThatAreNotSo(t *testing.T) {
	right := house(traders{trader(100, 100)}, inState(7, 1), inState(9, 2))
	if _, codes := impl.RunDeeds(right, rightDeeds()); !slices.Equal(codes, make([]int, 8)) {
		t.Fatal(codes)
	}
	for name, h := range wrongHouses() {
		for _, d := range append(rightDeeds(), impl.Deed{}) {
			for _, id := range []int{d.Id, 3, 7, 9, 10, 300} {
				d.Id = id
				if got, code := impl.DoDeed(h, d); !sameHouse(got, h) || code != impl.DeedBad {
					t.Error(name, d, got, code)
				}
			}
		}
		checkDeedRun(t, h, rightDeeds(), h, slices.Repeat([]int{impl.DeedBad}, 8))
		checkDeedRun(t, h, nil, h, nil)
		checkDeedRun(t, h, make(deeds, 201), h, nil)
	}
}

// A house that is wrong is not mended by a deed that would undo what is wrong.
func TestDeedsMendNoHouse(t *testing.T) {
	over := house(traders{trader(100, 11)}, inState(7, 3))
	checkNoDeed(t, over, doing(impl.DeedArrive, 7), impl.DeedBad)
	checkDeedRun(t, over, deeds{doing(impl.DeedArrive, 7), landing(8, 0, 1, 1, 1)}, over, []int{1, 1})
	bonded := house(traders{{Money: 100, Bond: 100, Bound: 12}}, inState(7, 1))
	checkNoDeed(t, bonded, doing(impl.DeedTransit, 7), impl.DeedBad)
}

// wrongDeeds pass one limit each, most of them by one, for a house with one
// trader and a lot 7.
func wrongDeeds() map[string]impl.Deed {
	all := map[string]impl.Deed{"empty": {}}
	change := func(d impl.Deed, name string, values []int, set func(d *impl.Deed, n int)) {
		for _, n := range values {
			wrong := d
			set(&wrong, n)
			all[fmt.Sprint("Kind ", d.Kind, " ", name, " ", n)] = wrong
		}
	}
	far := []int{math.MinInt, math.MinInt + 1, math.MaxInt, -1}
	for kind := impl.DeedLand; kind <= impl.DeedSplit; kind++ {
		d := impl.Deed{Kind: kind, Id: 7, Many: 2, Value: 3, Rate: 4, New: 8}
		change(d, "as", append(far, 0, 9, 10), func(d *impl.Deed, n int) { d.Kind = n })
		change(d, "Id", append(far, 0, 1000001), func(d *impl.Deed, n int) { d.Id = n })
	}
	land := landing(8, 0, 1, 1, 1)
	change(land, "Owner", append(far, 1, 2, 10), func(d *impl.Deed, n int) { d.Owner = n })
	change(land, "Many", append(far, 0, 1000001), func(d *impl.Deed, n int) { d.Many = n })
	change(land, "Value", append(far, 1000001), func(d *impl.Deed, n int) { d.Value = n })
	change(land, "Rate", append(far, 5001), func(d *impl.Deed, n int) { d.Rate = n })
	change(splitting(7, 2, 8), "Many", []int{math.MinInt, -1, 0}, func(d *impl.Deed, n int) { d.Many = n })
	change(splitting(7, 2, 8), "New", append(far, 0, 1000001), func(d *impl.Deed, n int) { d.New = n })
	return all
}

func TestDeedsThatAreNotSo(t *testing.T) {
	one := traders{trader(100, 100)}
	h := house(one, inState(7, 1))
	for name, d := range wrongDeeds() {
		for _, h := range []impl.House{house(one), h, house(one, inState(7, 5)), shed(40)} {
			if got, code := impl.DoDeed(h, d); !sameHouse(got, h) || code != impl.DeedBad {
				t.Error(name, h, got, code)
			}
		}
		checkDeedRun(t, h, deeds{doing(impl.DeedHold, 7), d, doing(impl.DeedLift, 7)}, h, []int{0, impl.DeedBad, 0})
	}
}

func TestPartsOfAnOriginThatAreNotSo(t *testing.T) {
	for name, list := range wrongParts() {
		for _, own := range []int{math.MinInt, -1, 0, 1, 2, 300, 301, math.MaxInt} {
			for _, least := range []int{math.MinInt, -1, 0, 1, 50, 100, 101, math.MaxInt} {
				if isOwn, ok := impl.Origin(list, own, least); isOwn || ok {
					t.Error(name, own, least)
				}
			}
		}
	}
}

// No part has an own that lies beyond the bounds of a From, so they are worth
// nothing.
func TestOriginsThatNoPartCanHave(t *testing.T) {
	for _, own := range []int{math.MinInt, -1, 301, math.MaxInt} {
		checkOrigin(t, parts{{From: 0, Value: 5}, {From: 300, Value: 5}}, own, 0, true, true)
		checkOrigin(t, parts{{From: 0, Value: 5}, {From: 300, Value: 5}}, own, 1, false, true)
		checkOrigin(t, parts{{From: 0}, {From: 300}}, own, 100, true, true)
	}
	for _, least := range []int{math.MinInt, -1, 101, math.MaxInt} {
		checkOrigin(t, parts{{From: 1, Value: 5}}, 1, least, false, false)
		checkOrigin(t, parts{{From: 1}}, 1, least, false, false)
	}
}

func TestCustomsOfGreatNumbers(t *testing.T) {
	numbers := []int{math.MinInt, math.MinInt + 1, -1, 0, 1, 5, 7, 1000000, mostWealth, math.MaxInt - 1, math.MaxInt}
	h := house(traders{trader(100, 100), {}}, inState(5, 3), inState(7, 1))
	for _, n := range numbers {
		for _, m := range numbers {
			for kind := 1; kind <= 8; kind++ {
				for _, d := range []impl.Deed{{Kind: kind, Id: n, Owner: m, Many: m, Value: m, Rate: m, New: m}, {Kind: kind, Id: 7, Many: n, New: m}, {Kind: kind, Id: 6, Owner: n, Many: m, Value: n, Rate: m, New: n}} {
					want, code := doDeedOf(h, d)
					checkDeed(t, h, d, want, code)
				}
			}
			for _, own := range []impl.House{
				withTrader(h, 0, impl.Trader{Money: n, Bond: m, Bound: 12}), withTrader(h, 0, impl.Trader{Money: 1, Bond: n, Bound: m}), withTaken(h, n), withLot(h, 1, impl.Lot{Id: 7, Many: n, Value: m, Rate: n, State: 1}),
				withLot(h, 1, impl.Lot{Id: 7, Many: 6, Value: 20, Rate: 100, State: n, Bond: m}), withLot(h, 0, impl.Lot{Id: 5, Owner: n, Many: 6, Value: 20, Rate: 100, State: 3, Bond: m}), withLot(h, 0, impl.Lot{Id: n, Owner: m, Many: 1, State: 1}),
			} {
				if impl.HouseOk(own) != houseOkOf(own) {
					t.Error(own)
				}
				want, code := doDeedOf(own, doing(4, 7))
				checkDeed(t, own, doing(4, 7), want, code)
			}
			for _, k := range numbers {
				want, ok := dutyWant(n, m, k)
				checkDuty6(t, n, m, k, want, ok)
				isOwn, isSo := originOf(parts{{From: n, Value: m}, {From: 1, Value: 9}}, n, k)
				checkOrigin(t, parts{{From: n, Value: m}, {From: 1, Value: 9}}, n, k, isOwn, isSo)
			}
		}
	}
}

// Bonds that wrap round to what is bound are not their sum.
func TestBondsThatWrapRound(t *testing.T) {
	own := impl.Lot{Many: 6, Value: 20, Rate: 100, State: 3, Bond: math.MaxInt}
	h := impl.House{Traders: traders{{Bond: 100}}}
	for id := range 4 {
		own.Id = id + 1
		h.Lots = append(h.Lots, own)
		for bound := -4; bound <= 4; bound++ {
			h.Traders[0].Bound = bound
			if impl.HouseOk(h) {
				t.Error(h)
			}
		}
	}
}

// counter is all that the functions of the chapter take.
type counter struct {
	h     impl.House
	list  deeds
	parts parts
}

func countersOfAllKinds() []counter {
	d := &draws{state: 205}
	all := []counter{{}, {h: shed(40), list: make(deeds, 200), parts: make(parts, 50)}, {h: shed(41), list: make(deeds, 201), parts: make(parts, 51)}}
	for range 150 {
		h := drawnHouse(d)
		all = append(all, counter{h, drawnDeeds(d, h), drawnParts(d)})
	}
	for _, h := range wrongHouses() {
		all = append(all, counter{h, rightDeeds(), nil})
	}
	for _, list := range wrongParts() {
		all = append(all, counter{shed(2), rightDeeds(), list})
	}
	return all
}

func roomyHouse(h impl.House) impl.House {
	h.Lots = spare(h.Lots, inState(1000000, 1))
	h.Traders = spare(h.Traders, trader(1000, 1000))
	return h
}

// roomyCounter has right things behind each list, that would make a difference.
func roomyCounter(k counter) counter {
	return counter{roomyHouse(k.h), spare(k.list, doing(impl.DeedPay, 7)), spare(k.parts, impl.Part{From: 1, Value: 7})}
}

func clippedCounter(k counter) counter {
	h := cloneHouse(k.h)
	h.Lots, h.Traders = slices.Clip(h.Lots), slices.Clip(h.Traders)
	return counter{h, slices.Clip(slices.Clone(k.list)), slices.Clip(slices.Clone(k.parts))}
}

// wholeCounter tells all of it, and what lies behind each list.
func wholeCounter(k counter) string {
	return fmt.Sprint(k.h.Lots[:cap(k.h.Lots)], len(k.h.Lots), k.h.Traders[:cap(k.h.Traders)], len(k.h.Traders), k.h.Taken, k.list[:cap(k.list)], k.parts[:cap(k.parts)])
}

func overwriteHouse(h impl.House) {
	for i := range h.Lots[:cap(h.Lots)] {
		h.Lots[:cap(h.Lots)][i] = impl.Lot{Id: -99, Many: -99}
	}
	for i := range h.Traders[:cap(h.Traders)] {
		h.Traders[:cap(h.Traders)][i] = trader(-99, -99)
	}
}

// deedsFor are some of the counter's own, and one of each kind for the lots at
// both ends.
func deedsFor(k counter) deeds {
	list := slices.Clone(k.list[:min(len(k.list), 8)])
	for _, at := range []int{0, len(k.h.Lots) - 1} {
		if at < 0 || at >= len(k.h.Lots) {
			continue
		}
		own := k.h.Lots[at]
		list = append(list, landing(own.Id+1, 0, 2, 3, 4), splitting(own.Id, 1, own.Id+1), splitting(own.Id, 1, own.Id-1))
		for kind := impl.DeedHold; kind <= impl.DeedTake; kind++ {
			list = append(list, doing(kind, own.Id))
		}
	}
	return list
}

// allOfCounter are the answers of all functions, as texts.
func allOfCounter(k counter) []string {
	all := []string{fmt.Sprint(impl.HouseOk(k.h))}
	for _, d := range deedsFor(k) {
		now, code := impl.DoDeed(k.h, d)
		all = append(all, fmt.Sprint(now, code))
	}
	for _, own := range []int{0, 1, 300} {
		isOwn, ok := impl.Origin(k.parts, own, 40)
		duty, isSo := impl.Duty6(own, len(k.list), 70)
		all = append(all, fmt.Sprint(isOwn, ok, duty, isSo))
	}
	now, codes := impl.RunDeeds(k.h, k.list)
	return append(all, fmt.Sprint(now, codes))
}

func TestCustomsArgumentsAreNotChanged(t *testing.T) {
	for _, plain := range countersOfAllKinds() {
		k := roomyCounter(plain)
		before := wholeCounter(k)
		got := allOfCounter(k)
		if wholeCounter(k) != before {
			t.Fatal("written into", plain)
		}
		if !slices.Equal(got, allOfCounter(clippedCounter(plain))) {
			t.Fatal("what lies behind a list is looked at", plain)
		}
	}
}

// checkHouseNew writes over an answer: neither what was handed in nor another
// answer may change by it.
func checkHouseNew(t *testing.T, name string, plain counter, ask func(counter) impl.House) {
	t.Helper()
	k := roomyCounter(plain)
	before := wholeCounter(k)
	earlier, got := ask(k), ask(k)
	want := cloneHouse(got)
	overwriteHouse(got)
	if wholeCounter(k) != before {
		t.Fatal(name, "shares memory with what was handed in", plain)
	}
	if !sameHouse(earlier, want) || !sameHouse(ask(k), want) {
		t.Fatal(name, "shares memory with another answer", plain)
	}
	overwriteHouse(k.h)
	clear(k.list[:cap(k.list)])
	if !sameHouse(earlier, want) {
		t.Fatal(name, "keeps the memory of what was handed in", plain)
	}
}

func TestHousesToldAreNewMemory(t *testing.T) {
	for _, plain := range countersOfAllKinds() {
		for _, d := range deedsFor(plain) {
			checkHouseNew(t, "DoDeed", plain, func(k counter) impl.House {
				now, _ := impl.DoDeed(k.h, d)
				return now
			})
		}
		for _, count := range []int{0, 1, len(plain.list)} {
			count = min(count, len(plain.list))
			checkHouseNew(t, "RunDeeds", plain, func(k counter) impl.House {
				now, _ := impl.RunDeeds(k.h, k.list[:count])
				return now
			})
		}
	}
}

// The codes that a run tells are apart from the house, and from what was handed
// in.
func TestDeedCodesAreNewMemory(t *testing.T) {
	for _, plain := range countersOfAllKinds() {
		k := roomyCounter(plain)
		before := wholeCounter(k)
		now, codes := impl.RunDeeds(k.h, k.list)
		want, told := cloneHouse(now), slices.Clone(codes)
		overwrite(codes)
		if !sameHouse(now, want) || wholeCounter(k) != before {
			t.Fatal("codes share memory", plain)
		}
		now, codes = impl.RunDeeds(k.h, k.list)
		overwriteHouse(now)
		if !slices.Equal(codes, told) || wholeCounter(k) != before {
			t.Fatal("the house shares memory", plain)
		}
	}
}

func TestCustomsAnswersAgainAndTogether(t *testing.T) {
	counters := countersOfAllKinds()[:150]
	ask := func() string {
		told := ""
		for _, k := range counters {
			told += fmt.Sprintln(allOfCounter(k))
		}
		return told
	}
	want := ask()
	told := make(chan string)
	for range 8 {
		go func() { told <- ask() }()
	}
	for range 8 {
		if got := <-told; got != want {
			t.Error("answers hang on earlier calls")
		}
	}
}
