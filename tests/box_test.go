package tests

import (
	"fmt"
	"math"
	"slices"
	"testing"

	"loop.example/g00059/impl"
)

// Promise 11: a digit that is another leaves a box's name one at most where its
// last digit is 0; what is asked for is alike from either; more wind never
// wants fewer lashings.

func TestConstantsOfBoxes(t *testing.T) {
	got := []int{impl.MaxBoxes, impl.ApartNot, impl.ApartOne, impl.ApartBay, impl.ApartNever}
	if want := []int{60, 0, 1, 2, 3}; !slices.Equal(got, want) {
		t.Error(got, "not", want)
	}
}

func checkDigit(t *testing.T, name string, want int) {
	t.Helper()
	if got := impl.CheckDigit(name); got != want {
		t.Errorf("CheckDigit(%q) = %d, not %d", name, got, want)
	}
}

func TestCheckDigitByHand(t *testing.T) {
	for name, want := range map[string]int{
		// 10 (1 + 2 + 4 + 8) is 150; each digit 1 is worth 16, 32, 64, 128, 256, 512.
		"AAAA000000": 7, "AAAA100000": 1, "AAAA010000": 6, "AAAA001000": 5, "AAAA000100": 3, "AAAA000010": 0, "AAAA000001": 2,
		"CSQU305438": 3, "TOLU473478": 7, "HLXU200841": 9, "SUDU307007": 9, "AAAA999999": 4, "ZZZZ999999": 6, "ZZZZ000000": 9,
	} {
		checkDigit(t, name, want)
	}
}

// Each letter at each place, and each alone, so that no other hides it.
func TestLetterNumbers(t *testing.T) {
	for letter, number := range letterNumbers {
		for place := range 4 {
			want := (150 + (number-10)<<place) % 11 % 10
			checkDigit(t, withByte("AAAA000000", place, letter), want)
		}
	}
	for _, c := range []struct {
		letters string
		digit   int
	}{{"AAAA", 7}, {"BAAA", 9}, {"CAAA", 0}, {"KAAA", 7}, {"LAAA", 9}, {"MAAA", 0}, {"UAAA", 7}, {"VAAA", 9}, {"WAAA", 0}, {"ZAAA", 2}} {
		checkDigit(t, c.letters+"000000", c.digit)
	}
}

// A sum of 10 modulo 11 becomes 0, as one of 0 is.
func TestSumsOfTen(t *testing.T) {
	tens, noughts := 0, 0
	d := &draws{state: 138}
	for range 3000 {
		name := drawnTen(d)
		sum, _ := nameSum(name)
		switch sum % 11 {
		case 10:
			checkDigit(t, name, 0)
			tens++
		case 0:
			checkDigit(t, name, 0)
			noughts++
		default:
			checkDigit(t, name, sum%11)
		}
	}
	if tens < 150 || noughts < 150 {
		t.Error("few drawn", tens, noughts)
	}
	checkDigit(t, "CAAA000000", 0)
	checkDigit(t, "AAAA000010", 0)
}

// Each byte at each place of a name that was right.
func TestCheckDigitOfEachByte(t *testing.T) {
	for _, name := range []string{"CSQU305438", "AAAA000000", "ZZZZ999999", "KLUV123456"} {
		for place := range 10 {
			for b := range 256 {
				changed := withByte(name, place, byte(b))
				checkDigit(t, changed, digitOf(changed))
			}
		}
	}
}

func checkBoxName(t *testing.T, text string, want bool) {
	t.Helper()
	if got := impl.BoxName(text); got != want {
		t.Errorf("BoxName(%q) = %t", text, got)
	}
}

func TestBoxNameByHand(t *testing.T) {
	for _, text := range []string{"CSQU3054383", "TOLU4734787", "HLXU2008419", "SUDU3070079", "AAAA0000007", "AAAA0000100", "CAAA0000000", "ZZZZ9999996"} {
		checkBoxName(t, text, true)
		checkBoxName(t, text[:10], false)
		checkBoxName(t, text+"0", false)
		checkBoxName(t, text+text[10:], false)
	}
}

func TestBoxNameOfEachByte(t *testing.T) {
	for _, name := range []string{"CSQU3054383", "AAAA0000100", "ZZZZ9999996", "KLUV1234564"} {
		for place := range 11 {
			for b := range 256 {
				changed := withByte(name, place, byte(b))
				checkBoxName(t, changed, isBoxName(changed))
			}
		}
	}
}

func TestNamesHaveOneDigit(t *testing.T) {
	d := &draws{state: 139}
	for range 2000 {
		ten := drawnTen(d)
		digit := impl.CheckDigit(ten)
		if digit != digitOf(ten) {
			t.Fatal(ten, digit)
		}
		for other := range 10 {
			checkBoxName(t, fmt.Sprint(ten, other), other == digit)
		}
	}
}

// A digit that is another is found, but where a sum of 10 and one of 0 are both
// told as 0.
func TestNamesWithAnotherDigit(t *testing.T) {
	d := &draws{state: 140}
	missed := 0
	for range 2000 {
		name := named(drawnTen(d))
		if !impl.BoxName(name) {
			t.Fatal(name, "is none")
		}
		for place := 4; place < 10; place++ {
			for digit := byte('0'); digit <= '9'; digit++ {
				changed := withByte(name, place, digit)
				if digit == name[place] || !impl.BoxName(changed) {
					continue
				}
				missed++
				if name[10] != '0' {
					t.Fatal(changed, "is taken for", name)
				}
			}
		}
	}
	if missed == 0 {
		t.Error("no sum of 10 is taken for one of 0")
	}
}

func checkBoxOk(t *testing.T, b impl.Box, want bool) {
	t.Helper()
	if got := impl.BoxOk(b); got != want {
		t.Errorf("%+v: %t", b, got)
	}
}

func TestBoxLimits(t *testing.T) {
	right := impl.Box{Name: "CSQU3054383", Weight: 9, Class: 2, From: 3, To: 7}
	checkBoxOk(t, right, true)
	checkBoxOk(t, cold(right), true)
	for n, want := range map[int]bool{-1: false, 0: false, 1: true, 39999: true, 40000: true, 40001: false} {
		b := right
		b.Weight = n
		checkBoxOk(t, b, want)
	}
	for n, want := range map[int]bool{-1: false, 0: true, 1: true, 9: true, 10: false} {
		b := right
		b.Class = n
		checkBoxOk(t, b, want)
	}
	for ports, want := range map[[2]int]bool{
		{-1, 7}: false, {0, 7}: true, {3, 19}: true, {3, 20}: false, {7, 7}: false, {6, 7}: true, {8, 7}: false,
		{0, 1}: true, {0, 0}: false, {-1, 0}: false, {18, 19}: true, {19, 19}: false, {19, 20}: false, {0, 19}: true,
	} {
		b := right
		b.From, b.To = ports[0], ports[1]
		checkBoxOk(t, b, want)
	}
	for _, name := range []string{"", "CSQU305438", "CSQU3054384", "CSQU305438/"} {
		b := right
		b.Name = name
		checkBoxOk(t, b, false)
	}
}

func TestBoxOkOfMany(t *testing.T) {
	d := &draws{state: 141}
	for range 2000 {
		b := drawnBox(d, 40000)
		checkBoxOk(t, b, true)
		b.Weight = []int{b.Weight, 40001, 0}[d.below(3)]
		b.From, b.To = d.between(-1, 20), d.between(-1, 20)
		b.Class = d.between(-1, 10)
		checkBoxOk(t, b, boxOk(b))
	}
}

// apartWant is -1 where one is no class.
func apartWant(a, b int) int {
	if min(a, b) < 0 || max(a, b) > 9 {
		return -1
	}
	return apartRows[a][b]
}

func TestApartOfAllClasses(t *testing.T) {
	classes := []int{math.MinInt, -6, -2, -1, 0, 1, 2, 3, 4, 5, 6, 7, 8, 9, 10, 11, 12, math.MaxInt}
	for _, a := range classes {
		for _, b := range classes {
			got := impl.Apart(a, b)
			if got != apartWant(a, b) {
				t.Error(a, b, "got", got, "not", apartWant(a, b))
			}
			if got != impl.Apart(b, a) {
				t.Error(a, b, "is another from the other side")
			}
		}
	}
}

func TestApartByHand(t *testing.T) {
	for _, c := range [][3]int{
		{0, 0, impl.ApartNot}, {0, 1, impl.ApartNot}, {9, 0, impl.ApartNot}, {1, 1, impl.ApartNot}, {6, 6, impl.ApartNot}, {9, 9, impl.ApartNot},
		{1, 2, impl.ApartNever}, {1, 6, impl.ApartNever}, {1, 9, impl.ApartNever}, {8, 1, impl.ApartNever},
		{2, 3, impl.ApartBay}, {3, 4, impl.ApartBay}, {5, 6, impl.ApartBay}, {2, 9, impl.ApartBay}, {6, 8, impl.ApartBay}, {8, 9, impl.ApartBay},
		{2, 5, impl.ApartOne}, {2, 7, impl.ApartOne}, {4, 5, impl.ApartOne}, {7, 8, impl.ApartOne},
		{2, 4, impl.ApartNot}, {4, 8, impl.ApartNot}, {3, 5, impl.ApartNot}, {3, 9, impl.ApartNot}, {5, 7, impl.ApartNot}, {7, 9, impl.ApartNot},
	} {
		if got, back := impl.Apart(c[0], c[1]), impl.Apart(c[1], c[0]); got != c[2] || back != c[2] {
			t.Error(c, "got", got, back)
		}
	}
}

// askingPairs are two boxes for each answer of Apart.
func askingPairs() [4][2]impl.Box {
	return [4][2]impl.Box{{ofClass(2), ofClass(4)}, {ofClass(2), ofClass(5)}, {ofClass(2), ofClass(3)}, {ofClass(1), ofClass(2)}}
}

// checkKeepsApart asks from both sides, also of Cold boxes.
func checkKeepsApart(t *testing.T, pair [2]impl.Box, sa, sb impl.Spot, want bool) {
	t.Helper()
	a, b := pair[0], pair[1]
	got := []bool{
		impl.KeepsApart(a, sa, b, sb), impl.KeepsApart(b, sb, a, sa), impl.KeepsApart(b, sa, a, sb), impl.KeepsApart(a, sb, b, sa),
		impl.KeepsApart(cold(a), sa, b, sb), impl.KeepsApart(b, sb, cold(a), sa), impl.KeepsApart(cold(a), sa, cold(b), sb),
	}
	if slices.Contains(got, !want) {
		t.Fatalf("%+v at %v and %v: %v, not %t", pair, sa, sb, got, want)
	}
}

func TestKeepsApartByHand(t *testing.T) {
	at := spot(5, 6, 7)
	for _, c := range []struct {
		name  string
		other impl.Spot
		want  [4]bool
	}{
		{"one spot", at, [4]bool{}},
		{"beside along the Row", spot(5, 7, 7), [4]bool{true, false, false, false}},
		{"and the other way", spot(5, 5, 7), [4]bool{true, false, false, false}},
		{"beside along the Bay", spot(6, 6, 7), [4]bool{true, false, false, false}},
		{"and the other way", spot(4, 6, 7), [4]bool{true, false, false, false}},
		{"above", spot(5, 6, 8), [4]bool{true, false, false, false}},
		{"below", spot(5, 6, 6), [4]bool{true, false, false, false}},
		{"two Rows apart", spot(5, 8, 7), [4]bool{true, true, false, false}},
		{"two Tiers apart", spot(5, 6, 9), [4]bool{true, true, false, false}},
		{"two Bays apart", spot(7, 6, 7), [4]bool{true, true, true, false}},
		{"and the other way", spot(3, 6, 7), [4]bool{true, true, true, false}},
		{"across in Row and Tier", spot(5, 7, 8), [4]bool{true, true, false, false}},
		{"across in Bay and Row", spot(6, 7, 7), [4]bool{true, true, false, false}},
		{"across in Bay and Tier", spot(6, 6, 8), [4]bool{true, true, false, false}},
		{"across in all", spot(6, 7, 8), [4]bool{true, true, false, false}},
		{"far in one Bay", spot(5, 19, 19), [4]bool{true, true, false, false}},
		{"far, one Bay apart", spot(4, 0, 0), [4]bool{true, true, false, false}},
		{"far, two Bays apart", spot(7, 19, 0), [4]bool{true, true, true, false}},
		{"the last", spot(19, 19, 19), [4]bool{true, true, true, false}},
		{"the first", spot(0, 0, 0), [4]bool{true, true, true, false}},
	} {
		for asked, pair := range askingPairs() {
			if got := impl.KeepsApart(pair[0], at, pair[1], c.other); got != c.want[asked] {
				t.Error(c.name, "asked for", asked, "got", got)
			}
			checkKeepsApart(t, pair, at, c.other, c.want[asked])
		}
	}
}

// A box of no class, or of the same one, may stand anywhere.
func TestKeepsApartOfAllClasses(t *testing.T) {
	spots := []impl.Spot{spot(5, 6, 7), spot(5, 7, 7), spot(6, 6, 7), spot(5, 6, 8), spot(7, 6, 7), spot(6, 7, 7)}
	for a := range 10 {
		for b := range 10 {
			for _, other := range spots {
				pair := [2]impl.Box{ofClass(a), ofClass(b)}
				checkKeepsApart(t, pair, spots[0], other, keepsApartOf(pair[0], spots[0], pair[1], other))
			}
		}
	}
}

func TestKeepsApartOfAllNearSpots(t *testing.T) {
	for asked, pair := range askingPairs() {
		for i := range 64 * 64 {
			sa, sb := spot(i%4, i/4%4, i/16%4), spot(i/64%4, i/256%4, i/1024%4)
			want := keepsApartOf(pair[0], sa, pair[1], sb)
			if got := impl.KeepsApart(pair[0], sa, pair[1], sb); got != want {
				t.Fatal(asked, sa, sb, got)
			}
			high, other := spot(19-sa.Bay, 19-sa.Row, 19-sa.Tier), spot(19-sb.Bay, 19-sb.Row, 19-sb.Tier)
			if got := impl.KeepsApart(pair[0], high, pair[1], other); got != want {
				t.Fatal(asked, high, other, got)
			}
		}
	}
}

func TestKeepsApartOfMany(t *testing.T) {
	d := &draws{state: 142}
	kept := 0
	for range 5000 {
		a, b, sa, sb := drawnBox(d, 40000), drawnBox(d, 40000), drawnSpot(d), drawnSpot(d)
		want := keepsApartOf(a, sa, b, sb)
		checkKeepsApart(t, [2]impl.Box{a, b}, sa, sb, want)
		if want {
			kept++
		}
	}
	if kept < 1000 || kept > 4000 {
		t.Error("few drawn of one answer", kept)
	}
}
