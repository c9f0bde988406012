package tests

import (
	"fmt"
	"math"
	"slices"
	"testing"

	"loop.example/g00059/impl"
)

// Promise 24: each function of boxes answers, and a wrong input has one fixed
// answer.

func TestNamesThatAreNotSo(t *testing.T) {
	for name, ten := range wrongTens() {
		if got := impl.CheckDigit(ten); got != -1 {
			t.Errorf("%s: %q has the digit %d", name, ten, got)
		}
	}
	for name, text := range wrongBoxNames() {
		if impl.BoxName(text) {
			t.Errorf("%s: %q is one", name, text)
		}
	}
}

// Any bytes at all, most of them about the bounds of capitals and digits.
func TestNamesOfAnyBytes(t *testing.T) {
	d := &draws{state: 147}
	signs := []byte("@AZ[/09:az\x00\x7f\x80\xc3\xbf\xff")
	for range 20000 {
		text := []byte(named(drawnTen(d)))
		for range d.below(3) {
			text[d.below(len(text))] = signs[d.below(len(signs))]
		}
		text = text[:len(text)-max(0, d.between(-6, 2))]
		if got := impl.CheckDigit(string(text)); got != digitOf(string(text)) {
			t.Fatalf("%q %d", text, got)
		}
		if got := impl.CheckDigit(string(text[:min(10, len(text))])); got != digitOf(string(text[:min(10, len(text))])) {
			t.Fatalf("%q %d", text, got)
		}
		checkBoxName(t, string(text), isBoxName(string(text)))
	}
}

func TestBoxesThatAreNotSo(t *testing.T) {
	for name, b := range wrongBoxes() {
		for _, wrong := range []impl.Box{b, cold(b)} {
			if impl.BoxOk(wrong) {
				t.Error(name, "is ok")
			}
			for _, pair := range askingPairs() {
				for _, other := range []impl.Spot{spot(0, 0, 0), spot(9, 9, 9)} {
					if impl.KeepsApart(wrong, spot(0, 0, 0), pair[1], other) || impl.KeepsApart(pair[0], other, wrong, spot(0, 0, 0)) || impl.KeepsApart(wrong, spot(0, 0, 0), wrong, other) {
						t.Error(name, "is kept apart from", pair)
					}
				}
			}
			for at := range 3 {
				list := crates(9, 9, 9)
				list[at] = wrong
				checkStack(t, list, 1000000, false)
				checkLashes(t, list, 0, 0, false)
				checkLashes(t, list, 100, 0, false)
			}
			checkStack(t, boxes{wrong}, 1000000, false)
			checkLashes(t, boxes{wrong}, 0, 0, false)
			checkLashes(t, append(slices.Repeat(crates(40000), 19), wrong), 1, 0, false)
		}
	}
}

// A box that is not so is refused whatever the classes ask for.
func TestKeepsApartOfOneWrongBox(t *testing.T) {
	for asked, pair := range askingPairs() {
		for side := range 2 {
			for _, change := range []func(*impl.Box){
				func(b *impl.Box) { b.Weight = 0 }, func(b *impl.Box) { b.Weight = 40001 }, func(b *impl.Box) { b.Name = "CSQU3054384" },
				func(b *impl.Box) { b.From = -1 }, func(b *impl.Box) { b.To = 20 }, func(b *impl.Box) { b.To = b.From },
			} {
				wrong := pair
				change(&wrong[side])
				if impl.KeepsApart(wrong[0], spot(0, 0, 0), wrong[1], spot(9, 9, 9)) {
					t.Error(asked, wrong)
				}
			}
		}
	}
}

func TestSpotsThatAreNotSo(t *testing.T) {
	for asked, pair := range askingPairs() {
		for _, wrong := range wrongSpots() {
			for _, other := range append(wrongSpots(), spot(0, 0, 0), spot(9, 9, 9), spot(19, 19, 19)) {
				if impl.KeepsApart(pair[0], wrong, pair[1], other) || impl.KeepsApart(pair[0], other, pair[1], wrong) {
					t.Error(asked, wrong, other)
				}
			}
		}
		for _, s := range []impl.Spot{spot(0, 0, 0), spot(19, 19, 19), spot(3, 4, 5), spot(-1, 0, 0), {}} {
			if impl.KeepsApart(pair[0], s, pair[1], s) || impl.KeepsApart(pair[0], s, pair[0], s) {
				t.Error(asked, "both at", s)
			}
		}
	}
	// The limits themselves are spots.
	for _, edge := range []int{0, 19} {
		for _, s := range []impl.Spot{spot(edge, 9, 9), spot(9, edge, 9), spot(9, 9, edge), spot(edge, edge, edge)} {
			if !impl.KeepsApart(ofClass(0), s, ofClass(0), spot(5, 5, 5)) || !impl.KeepsApart(ofClass(0), spot(5, 5, 5), ofClass(0), s) {
				t.Error(s, "is none")
			}
		}
	}
}

func TestStacksThatAreTooHigh(t *testing.T) {
	for _, count := range []int{21, 22, 60, 3000} {
		for _, list := range []boxes{make(boxes, count), slices.Repeat(crates(1), count)} {
			for _, n := range []int{-1, 0, 50, 100, 1000000, math.MinInt, math.MaxInt} {
				checkStack(t, list, n, false)
				checkLashes(t, list, n, 0, false)
			}
		}
	}
	for _, list := range []boxes{nil, crates(1), make(boxes, 1)} {
		for _, n := range []int{-1, 1000001, math.MinInt, math.MaxInt} {
			checkStack(t, list, n, false)
			checkLashes(t, list, n, 0, false)
		}
	}
}

func stacksOfAllKinds() []boxes {
	d := &draws{state: 148}
	all := []boxes{nil, {}, crates(9), crates(5, 9), chilledAt(2, 5), make(boxes, 5), slices.Repeat(crates(1), 20), slices.Repeat(crates(1), 21)}
	for range 300 {
		all = append(all, drawnBoxes(d))
	}
	for _, b := range wrongBoxes() {
		all = append(all, boxes{crate(9), b}, boxes{b, crate(9)})
	}
	return all
}

// allOfBoxes are the answers of all functions, as a text.
func allOfBoxes(list boxes) string {
	told := fmt.Sprint(impl.StackOk(list, weightIn(list)), impl.StackOk(list, 1000000), impl.StackOk(list, 20))
	for _, wind := range []int{-1, 0, 3, 100} {
		lashings, ok := impl.Lashes(list, wind)
		told += fmt.Sprint(" ", lashings, ok)
	}
	for i, b := range list[:min(len(list), 6)] {
		kept := impl.KeepsApart(b, spot(i, 0, 0), list[0], spot(0, 0, 1))
		told += fmt.Sprint(" ", impl.CheckDigit(b.Name), impl.BoxName(b.Name), impl.BoxOk(b), impl.Apart(b.Class, list[0].Class), kept)
	}
	return told
}

func TestBoxArgumentsAreNotChanged(t *testing.T) {
	for _, plain := range stacksOfAllKinds() {
		// A heavy Cold box behind the list would make it no stack.
		list := spare(plain, cold(crate(40000)))
		before := slices.Clone(list[:cap(list)])
		got := allOfBoxes(list)
		if !slices.Equal(list[:cap(list)], before) {
			t.Fatal("written into", plain)
		}
		if got != allOfBoxes(slices.Clip(slices.Clone(plain))) {
			t.Fatal("what lies behind a list is looked at", plain)
		}
	}
}

func TestBoxAnswersAgainAndTogether(t *testing.T) {
	stacks := stacksOfAllKinds()
	ask := func() string {
		told := ""
		for _, list := range stacks {
			told += allOfBoxes(list) + "\n"
		}
		return told
	}
	want := ask()
	told := make(chan string)
	for range 8 {
		go func() { told <- ask() }()
	}
	for range 8 {
		if got := <-told; got != want {
			t.Error("answers hang on earlier calls")
		}
	}
}
