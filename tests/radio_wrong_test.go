package tests

import (
	"fmt"
	"math"
	"slices"
	"testing"

	"loop.example/g00059/impl"
)

// Promise 24: each function of the radio answers, and a wrong input has one
// fixed answer.

func TestReportsThatAreNotSo(t *testing.T) {
	for name, r := range wrongReports() {
		if impl.ReportOk(r) {
			t.Error(name, "is ok")
		}
		if got, ok := impl.PackReport(r); len(got) != 0 || ok {
			t.Error(name, got, ok)
		}
	}
}

func TestRadiosThatAreNotSo(t *testing.T) {
	for name, list := range wrongRadios() {
		if impl.RadiosOk(list) {
			t.Error(name, "is ok")
		}
		if got := impl.Clashes(list); len(got) != 0 {
			t.Error(name, "Clashes", got)
		}
		for _, at := range []int{-1, 0, 1, len(list) - 1, len(list), math.MinInt, math.MaxInt} {
			for _, coin := range []int{-1, 0, 7, math.MinInt, math.MaxInt} {
				if slot, ok := impl.Choose(list, at, coin); slot != -1 || ok {
					t.Error(name, "Choose", at, coin, slot, ok)
				}
			}
			if got, ok := impl.Relay(list, at); len(got) != 0 || ok {
				t.Error(name, "Relay", at, got, ok)
			}
		}
		for _, coins := range [][]int{nil, {0, 1}, {-1}, make([]int, 200), make([]int, 201)} {
			if got, used, ok := impl.Settle(list, coins); len(got) != 0 || used != 0 || ok {
				t.Error(name, "Settle", got, used, ok)
			}
		}
	}
}

func TestChooseAtNoPlace(t *testing.T) {
	for _, list := range []radios{crowd(3), crowd(3, 3), starred(append([]int{4}, upTo(20)...)...)} {
		for _, at := range []int{-1, len(list), len(list) + 1, math.MinInt, math.MaxInt} {
			if slot, ok := impl.Choose(list, at, 0); slot != -1 || ok {
				t.Error(at, slot, ok)
			}
		}
		for _, coin := range []int{-1, -20, math.MinInt} {
			if slot, ok := impl.Choose(list, 0, coin); slot != -1 || ok {
				t.Error(coin, slot, ok)
			}
		}
	}
}

// roomyRadios have right places behind each list.
func roomyRadios(list radios) radios {
	own := slices.Clone(list)
	for i := range own {
		own[i].Hears = spare(own[i].Hears, 1)
	}
	return spare(own, impl.Radio{Id: 999999999, Slot: 3, Hears: []int{0, 1}})
}

// wholeRadios tells all of a list, also what lies behind it.
func wholeRadios(list radios) string {
	told := ""
	for _, r := range list[:cap(list)] {
		told += fmt.Sprintln(r.Id, r.Slot, len(r.Hears), r.Hears[:cap(r.Hears)])
	}
	return told
}

// overwriteRadios leaves nothing as it was.
func overwriteRadios(list radios) {
	for _, r := range list[:cap(list)] {
		overwrite(r.Hears)
	}
	clear(list[:cap(list)])
}

func radiosOfAllKinds() []radios {
	d := &draws{state: 124}
	all := []radios{nil, {}, crowd(3), crowd(3, 3), crowd(make([]int, 24)...), radiosOf(make([]int, 24)), starred(append([]int{4}, upTo(20)...)...)}
	for _, list := range wrongRadios() {
		all = append(all, list)
	}
	for range 100 {
		all = append(all, drawnRadios(d))
	}
	return all
}

func someCoins() []int { return []int{3, 0, 17, 5, 5, 1 << 40, 8, 2, 11, 30} }

// allOfRadios are the answers of all functions, as texts.
func allOfRadios(list radios, coins []int) []string {
	all := []string{fmt.Sprint(impl.RadiosOk(list), impl.Clashes(list))}
	for at := range min(len(list), 30) {
		slot, ok := impl.Choose(list, at, 13)
		passed, isThere := impl.Relay(list, at)
		all = append(all, fmt.Sprint(slot, ok, passed, isThere))
	}
	settled, used, ok := impl.Settle(list, coins)
	return append(all, fmt.Sprint(settled, used, ok))
}

func TestRadiosHandedInAreNotChanged(t *testing.T) {
	for _, plain := range radiosOfAllKinds() {
		for _, few := range [][]int{nil, {4}, someCoins(), {1, -1}, make([]int, 200)} {
			list, coins := roomyRadios(plain), spare(few, 6)
			before, ahead := wholeRadios(list), fmt.Sprint(coins[:cap(coins)])
			got := allOfRadios(list, coins)
			if wholeRadios(list) != before || fmt.Sprint(coins[:cap(coins)]) != ahead {
				t.Fatal("written into", plain, few)
			}
			if !slices.Equal(got, allOfRadios(plain, slices.Clip(few))) {
				t.Fatal("what lies behind a list is looked at", plain, few)
			}
		}
	}
}

func TestFramesHandedInAreNotChanged(t *testing.T) {
	d := &draws{state: 125}
	for range 200 {
		right, _ := impl.PackReport(drawnReport(d))
		for _, plain := range [][]byte{right, right[:15], append(slices.Clone(right), 0), make([]byte, 16), right[:0], checked(append(slices.Clone(right[:13]), 1))} {
			frame := spare(plain, 7)
			before := slices.Clone(frame[:cap(frame)])
			got, code := impl.ReadReport(frame)
			if !slices.Equal(frame[:cap(frame)], before) {
				t.Fatal("written into", plain)
			}
			if want, wanted := readOf(plain); got != want || code != wanted {
				t.Fatal(plain, got, code)
			}
		}
		// What would be right, if what lies behind belonged to it.
		if got, code := impl.ReadReport(right[:15:16]); got != (impl.Report{}) || code != impl.ReadLength {
			t.Fatal("a byte behind is looked at", got, code)
		}
	}
}

func TestFramesAreNewMemory(t *testing.T) {
	d := &draws{state: 126}
	for range 100 {
		r := drawnReport(d)
		earlier, _ := impl.PackReport(r)
		got, _ := impl.PackReport(r)
		want := slices.Clone(got)
		clear(got[:cap(got)])
		again, _ := impl.PackReport(r)
		if !slices.Equal(earlier, want) || !slices.Equal(again, want) {
			t.Fatal("two frames share memory", r)
		}
	}
}

// checkListsNew writes over an answer of Clashes or Relay: neither what was
// handed in nor another answer may change by it.
func checkListsNew(t *testing.T, name string, plain radios, ask func(radios) []int) {
	t.Helper()
	list := roomyRadios(plain)
	before := wholeRadios(list)
	earlier, got := ask(list), ask(list)
	want := slices.Clone(got)
	overwrite(got)
	if wholeRadios(list) != before {
		t.Fatal(name, "shares memory with its list", plain)
	}
	if !slices.Equal(earlier, want) || !slices.Equal(ask(list), want) {
		t.Fatal(name, "shares memory with another answer", plain)
	}
	overwriteRadios(list)
	if !slices.Equal(earlier, want) {
		t.Fatal(name, "keeps the memory of its list", plain)
	}
}

func TestRadioListsAreNewMemory(t *testing.T) {
	for _, plain := range radiosOfAllKinds() {
		checkListsNew(t, "Clashes", plain, impl.Clashes)
		for at := range min(len(plain), 3) {
			checkListsNew(t, "Relay", plain, func(list radios) []int { return first(impl.Relay(list, at)) })
		}
	}
}

func TestSettledRadiosAreNewMemory(t *testing.T) {
	settled := func(list radios, coins []int) radios {
		got, _, _ := impl.Settle(list, coins)
		return got
	}
	for _, plain := range radiosOfAllKinds() {
		for _, few := range [][]int{nil, someCoins()} {
			list, coins := roomyRadios(plain), spare(few, 6)
			before := wholeRadios(list)
			earlier, got := settled(list, coins), settled(list, coins)
			want := wholeRadios(got)
			for i, r := range got {
				rest := fmt.Sprint(got[:i], got[i+1:])
				overwrite(r.Hears)
				if fmt.Sprint(got[:i], got[i+1:]) != rest {
					t.Fatal("two lists of an answer share memory", plain)
				}
			}
			overwriteRadios(got)
			if wholeRadios(list) != before {
				t.Fatal("an answer shares memory with what was handed in", plain)
			}
			if wholeRadios(earlier) != want || wholeRadios(settled(list, coins)) != want {
				t.Fatal("two answers share memory", plain)
			}
			overwriteRadios(list)
			overwrite(coins)
			if wholeRadios(earlier) != want {
				t.Fatal("an answer keeps the memory of what was handed in", plain)
			}
		}
	}
}

func TestRadioAnswersAgainAndTogether(t *testing.T) {
	all := radiosOfAllKinds()
	lists := all[len(all)-20:]
	ask := func() string {
		told := ""
		for _, list := range lists {
			told += fmt.Sprintln(allOfRadios(list, someCoins()))
			frame, ok := impl.PackReport(report(1, list[0].Id, -5, 6, list[0].Slot, 19))
			back, code := impl.ReadReport(frame)
			told += fmt.Sprintln(frame, ok, back, code)
		}
		return told
	}
	want := ask()
	told := make(chan string)
	for range 8 {
		go func() { told <- ask() }()
	}
	for range 8 {
		if got := <-told; got != want {
			t.Error("answers hang on earlier calls")
		}
	}
}
