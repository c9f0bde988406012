package tests

import (
	"reflect"
	"slices"
	"testing"

	"loop.example/g00059/impl"
)

// Promise 24: each function answers, and a wrong input has one fixed answer.

func checkNoBending(t *testing.T, name string, b beam) {
	t.Helper()
	if got, ok := impl.Bending4(b.weights, b.buoys2, b.step); ok || len(got) != 0 {
		t.Error("Bending4", name, b, got, ok)
	}
	if impl.Balanced(b.weights, b.buoys2, b.step) {
		t.Error("Balanced", name, b)
	}
}

func TestWrongBeams(t *testing.T) {
	for name, b := range wrongBeams() {
		if got, ok := impl.Shear2(b.weights, b.buoys2); ok || len(got) != 0 {
			t.Error("Shear2", name, got, ok)
		}
		for _, step := range append(wrongSteps(), 1, 100) {
			checkNoBending(t, name, beam{b.weights, b.buoys2, step})
		}
	}
}

func TestWrongSteps(t *testing.T) {
	for _, b := range append(someBeams(), evenBeam(2, 1, 2, 1)) {
		for _, step := range wrongSteps() {
			checkNoBending(t, "step", beam{b.weights, b.buoys2, step})
		}
	}
}

func TestWrongPlates(t *testing.T) {
	for name, list := range wrongPlates() {
		if height, inertia, ok := impl.Section(list); ok || height != (impl.Frac{}) || inertia != 0 {
			t.Error(name, height, inertia, ok)
		}
	}
}

func TestWrongHistories(t *testing.T) {
	for name, list := range wrongHistories() {
		if got := impl.Turns(list); len(got) != 0 {
			t.Error("Turns", name, got)
		}
		if got := impl.Swings(list); len(got) != 0 {
			t.Error("Swings", name, got)
		}
	}
}

func allOfBeam(b beam) []any {
	shear, shearOk := impl.Shear2(b.weights, b.buoys2)
	bending, bendingOk := impl.Bending4(b.weights, b.buoys2, b.step)
	return []any{shear, shearOk, bending, bendingOk, impl.Balanced(b.weights, b.buoys2, b.step)}
}

func allOfPlates(list []impl.Plate) []any {
	height, inertia, ok := impl.Section(list)
	return []any{height, inertia, ok}
}

func allOfNumbers(list []int) []any {
	place, greatest := impl.Greatest(list)
	return []any{place, greatest, impl.Turns(list), impl.Swings(list)}
}

func beamsOfAllKinds() []beam {
	list := someBeams()
	for _, b := range wrongBeams() {
		list = append(list, b)
	}
	for _, step := range wrongSteps() {
		list = append(list, evenBeam(2, 1, 2, step))
	}
	return list
}

func platesOfAllKinds() [][]impl.Plate {
	list := somePlates()
	for _, plates := range wrongPlates() {
		list = append(list, plates)
	}
	return list
}

func historiesOfAllKinds() [][]int {
	list := someHistories()
	for _, history := range wrongHistories() {
		list = append(list, history)
	}
	return list
}

// checkKept asks of a list with room behind it, and again of the list alone.
func checkKept[T any](t *testing.T, plain []T, behind T, ask func([]T) []any) {
	t.Helper()
	list := spare(plain, behind)
	before := slices.Clone(list[:cap(list)])
	got := ask(list)
	if !reflect.DeepEqual(list[:cap(list)], before) {
		t.Fatal("written into", plain)
	}
	if !reflect.DeepEqual(got, ask(plain)) {
		t.Fatal("what lies behind the list is looked at", plain)
	}
}

func TestStrengthArgumentsAreNotChanged(t *testing.T) {
	for _, b := range beamsOfAllKinds() {
		checkKept(t, b.weights, 5, func(weights []int) []any { return allOfBeam(beam{weights, b.buoys2, b.step}) })
		checkKept(t, b.buoys2, 8, func(buoys2 []int) []any { return allOfBeam(beam{b.weights, buoys2, b.step}) })
	}
	for _, list := range platesOfAllKinds() {
		checkKept(t, list, plate(9, 8, 7), allOfPlates)
	}
	for _, list := range historiesOfAllKinds() {
		checkKept(t, list, 123, allOfNumbers)
		checkKept(t, list, level, allOfNumbers)
	}
}

// checkNew writes over an answer: neither the list that was handed in nor a
// later or an earlier answer may change by it.
func checkNew[T any](t *testing.T, name string, plain []int, ask func([]int) []T) {
	t.Helper()
	list := spare(plain, 9)
	before := slices.Clone(list[:cap(list)])
	earlier, got := ask(list), ask(list)
	want := slices.Clone(got)
	clear(got[:cap(got)])
	if !slices.Equal(list[:cap(list)], before) {
		t.Fatal(name, "shares memory with its list", plain)
	}
	if !reflect.DeepEqual(earlier, want) || !reflect.DeepEqual(ask(list), want) {
		t.Fatal(name, "shares memory with another answer", plain)
	}
	overwrite(list)
	if !reflect.DeepEqual(earlier, want) {
		t.Fatal(name, "keeps the memory of its list", plain)
	}
}

func TestStrengthAnswersAreNewMemory(t *testing.T) {
	for _, b := range beamsOfAllKinds() {
		checkNew(t, "Shear2", b.weights, func(weights []int) []int { return first(impl.Shear2(weights, b.buoys2)) })
		checkNew(t, "Shear2", b.buoys2, func(buoys2 []int) []int { return first(impl.Shear2(b.weights, buoys2)) })
		checkNew(t, "Bending4", b.weights, func(weights []int) []int { return first(impl.Bending4(weights, b.buoys2, b.step)) })
		checkNew(t, "Bending4", b.buoys2, func(buoys2 []int) []int { return first(impl.Bending4(b.weights, buoys2, b.step)) })
	}
	for _, list := range historiesOfAllKinds() {
		checkNew(t, "Turns", list, impl.Turns)
		checkNew(t, "Swings", list, impl.Swings)
	}
}

func first[T any](list []T, _ bool) []T { return list }

// One list may be handed in as both.
func TestBeamOfOneList(t *testing.T) {
	list := []int{4, 0, 7}
	checkBeam(t, beam{list, list, 2}, []int{0, 4, 4, 11}, []int{0, 8, 24, 54}, false)
	if !slices.Equal(list, []int{4, 0, 7}) {
		t.Error("written into", list)
	}
}

func TestStrengthAnswersAgainAndTogether(t *testing.T) {
	ask := func() []any {
		told := allOfBeam(someBeams()[20])
		told = append(told, allOfPlates(somePlates()[20])...)
		return append(told, allOfNumbers(zigzag(50))...)
	}
	want := ask()
	told := make(chan []any)
	for range 8 {
		go func() { told <- ask() }()
	}
	for range 8 {
		if !reflect.DeepEqual(<-told, want) {
			t.Error("answers hang on earlier calls")
		}
	}
}
