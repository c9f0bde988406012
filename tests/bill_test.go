package tests

import (
	"fmt"
	"math"
	"slices"
	"strings"
	"testing"

	"loop.example/g00059/impl"
)

// Promise 14: goods are handed over once, to who held an original; what is
// refused changes nothing; title is one name's or the bearer's.

func TestBillConstants(t *testing.T) {
	got := []int{impl.MaxBills, impl.MaxOriginals, impl.MaxBillOps, impl.BillIssue, impl.BillEndorse, impl.BillHand, impl.BillFree, impl.BillSwap,
		impl.BillDone, impl.BillBad, impl.BillHas, impl.BillNone, impl.BillFreed, impl.BillNot}
	if want := []int{30, 5, 200, 1, 2, 3, 4, 5, 0, 1, 2, 3, 4, 5}; !slices.Equal(got, want) {
		t.Error(got, "not", want)
	}
}

func TestBookOkAtItsLimits(t *testing.T) {
	long := strings.Repeat("x", 20)
	two := book(bill(3, "ann", "", "ann"), bill(4, "ann", "bob", "ann", "bob"))
	all := shelf(30)
	for _, own := range all.Bills {
		all.Freed = append(all.Freed, own.Id)
	}
	for name, b := range map[string]impl.Book{
		"no bill": {}, "an empty list": {Bills: []impl.Bill{}, Freed: []int{}}, "one": shelf(1), "two next to each other": two, "29": shelf(29), "30": shelf(30),
		"Id 1": book(bill(1, "ann", "", "ann")), "Id 10^6": book(bill(1000000, "ann", "", "ann")), "Ids 1 and 10^6": book(bill(1, "ann", "", "ann"), bill(1000000, "ann", "", "ann")),
		"a Shipper of 1 byte": book(bill(7, "a", "b", "c")), "names of 20 bytes": book(bill(7, long, long, long)), "names of dashes": book(bill(7, "-", "--", "-")),
		"no Order": book(bill(7, "ann", "", "ann")), "an Order that is the Shipper": book(bill(7, "ann", "ann", "bob")), "names of digits": book(bill(7, "0", "9", "09")),
		"5 originals": book(bill(7, "ann", "bob", "a", "b", "c", "d", "e")), "1 that was given up": book(bill(7, "ann", "bob", "")), "5 that were given up": book(bill(7, "ann", "", heldBy("", 5)...)),
		"some that were given up": book(bill(7, "ann", "", "", "ann", "")), "the first freed": withFreed(two, 3), "the last freed": withFreed(two, 4), "both freed": withFreed(two, 3, 4),
		"all of 30 freed": all, "freed, with originals in hand": withFreed(shelf(1), 10), "freed, with none": withFreed(book(bill(7, "ann", "", "")), 7),
	} {
		if !impl.BookOk(b) {
			t.Error(name, "is not ok")
		}
	}
	for name, b := range wrongBooks() {
		if impl.BookOk(b) {
			t.Error(name, "is ok")
		}
	}
}

// Each byte by itself, and as the first, one between and the last of a name.
func TestNamesOfBillsByteByByte(t *testing.T) {
	for n := range 256 {
		sign := string([]byte{byte(n)})
		isSign := n < 128 && strings.Contains(nameSigns, sign)
		for _, text := range []string{sign, sign + "nn", "a" + sign + "n", "an" + sign, strings.Repeat("x", 19) + sign} {
			for _, b := range []impl.Bill{bill(7, text, "bob", "cyd"), bill(7, "ann", text, "cyd"), bill(7, "ann", "bob", "ann", text)} {
				if impl.BookOk(book(b)) != isSign {
					t.Error("BookOk", n, b)
				}
			}
			want := map[bool]int{true: impl.BillDone, false: impl.BillBad}[isSign]
			for _, op := range []impl.BillOp{issuing(8, text, "bob", 1), issuing(8, "ann", text, 1), endorsing(7, "ann", text), handing(7, 0, "ann", text)} {
				if _, code := impl.DoBill(book(bill(7, "ann", "", "ann")), op); code != want {
					t.Error("DoBill", n, op, code)
				}
			}
			for _, op := range []impl.BillOp{endorsing(7, text, "bob"), handing(7, 0, text, "bob"), freeing(7, 0, text), swapping(7, text, 2)} {
				b := book(bill(7, "ann", "", text))
				if _, code := impl.DoBill(b, op); code != want {
					t.Error("DoBill", n, op, code)
				}
			}
		}
	}
}

func TestBookOkOfDrawnOnes(t *testing.T) {
	d := &draws{state: 170}
	seen := map[bool]int{}
	for range 5000 {
		b := drawnBook(d)
		for range d.below(3) {
			spoilBook(d, &b)
		}
		if impl.BookOk(b) != bookOkOf(b) {
			t.Fatal(b)
		}
		seen[bookOkOf(b)]++
	}
	if seen[true] < 1000 || seen[false] < 1000 {
		t.Error("few drawn", seen)
	}
}

// spoilBook changes something that may well stay right.
func spoilBook(d *draws, b *impl.Book) {
	text := []string{"", "a", strings.Repeat("x", 20), strings.Repeat("x", 21), "a.b", "-"}[d.below(6)]
	if d.below(3) == 0 {
		b.Freed = append(b.Freed, d.between(1, 40))
		return
	}
	if len(b.Bills) == 0 {
		b.Bills = append(b.Bills, bill(d.below(3), "ann", "", "ann"))
		return
	}
	own := &b.Bills[d.below(len(b.Bills))]
	switch d.below(7) {
	case 0:
		own.Id += d.between(-1, 1)
	case 1:
		own.Shipper = text
	case 2:
		own.Order = text
	case 3:
		own.Many += d.between(-1, 1)
	case 4:
		own.Held = append(own.Held, text)
		own.Many++
	case 5:
		own.Held[d.below(len(own.Held))] = text
	case 6:
		b.Bills = append(b.Bills, bill([]int{1000000, 1000001, 40}[d.below(3)], "ann", "", "ann"))
	}
}

func checkBill(t *testing.T, b impl.Book, op impl.BillOp, want impl.Book, code int) {
	t.Helper()
	if got, told := impl.DoBill(b, op); !sameBook(got, want) || told != code {
		t.Error(b, op, "got", got, told, "not", want, code)
	}
}

// checkBillIs is an op that is done on the only bill of a book.
func checkBillIs(t *testing.T, b impl.Bill, op impl.BillOp, want impl.Bill) {
	t.Helper()
	checkBill(t, book(b), op, book(want), impl.BillDone)
}

func checkBillNot(t *testing.T, b impl.Book, op impl.BillOp, code int) {
	t.Helper()
	checkBill(t, b, op, b, code)
}

func TestIssueByHand(t *testing.T) {
	checkBill(t, impl.Book{}, issuing(7, "ann", "bob", 2), book(bill(7, "ann", "bob", "ann", "ann")), impl.BillDone)
	checkBill(t, impl.Book{}, issuing(1, "ann", "", 1), book(bill(1, "ann", "", "ann")), impl.BillDone)
	checkBill(t, impl.Book{}, issuing(1000000, "ann", "ann", 5), book(bill(1000000, "ann", "ann", heldBy("ann", 5)...)), impl.BillDone)
	two := withFreed(book(bill(3, "bob", "cyd", "bob", ""), bill(9, "cyd", "", "ann")), 9)
	fresh := func(id int) impl.Bill { return bill(id, "ann", "", "ann", "ann", "ann") }
	checkBill(t, two, issuing(1, "ann", "", 3), withFreed(book(fresh(1), two.Bills[0], two.Bills[1]), 9), impl.BillDone)
	checkBill(t, two, issuing(4, "ann", "", 3), withFreed(book(two.Bills[0], fresh(4), two.Bills[1]), 9), impl.BillDone)
	checkBill(t, two, issuing(8, "ann", "", 3), withFreed(book(two.Bills[0], fresh(8), two.Bills[1]), 9), impl.BillDone)
	checkBill(t, two, issuing(10, "ann", "", 3), withFreed(book(two.Bills[0], two.Bills[1], fresh(10)), 9), impl.BillDone)
	for _, id := range []int{3, 9} {
		checkBillNot(t, two, issuing(id, "ann", "", 3), impl.BillHas)
	}
}

// With 29 there is room for one more, with 30 for none, whatever was freed.
func TestIssueIntoAFullBook(t *testing.T) {
	for _, id := range []int{1, 155, 300} {
		got, code := impl.DoBill(shelf(29), issuing(id, "bob", "", 1))
		if code != impl.BillDone || len(got.Bills) != 30 || !impl.BookOk(got) {
			t.Error(id, got, code)
		}
		checkBillNot(t, shelf(30), issuing(id, "bob", "", 1), impl.BillHas)
		checkBillNot(t, withFreed(shelf(30), 10, 300), issuing(id, "bob", "", 1), impl.BillHas)
		checkBillNot(t, got, issuing(id, "bob", "", 1), impl.BillHas)
		checkBillNot(t, got, issuing(id+1, "bob", "", 1), impl.BillHas)
	}
}

func TestEndorseByHand(t *testing.T) {
	checkBillIs(t, bill(7, "ann", "bob", "ann"), endorsing(7, "bob", "cyd"), bill(7, "ann", "cyd", "ann"))
	checkBillIs(t, bill(7, "ann", "bob", "ann"), endorsing(7, "bob", ""), bill(7, "ann", "", "ann"))
	checkBillIs(t, bill(7, "ann", "bob", "ann"), endorsing(7, "bob", "bob"), bill(7, "ann", "bob", "ann"))
	checkBillIs(t, bill(7, "ann", "bob", "", ""), endorsing(7, "bob", "cyd"), bill(7, "ann", "cyd", "", ""))
	checkBillIs(t, bill(7, "ann", "", "ann"), endorsing(7, "ann", "cyd"), bill(7, "ann", "cyd", "ann"))
	checkBillIs(t, bill(7, "ann", "", "ann"), endorsing(7, "ann", ""), bill(7, "ann", "", "ann"))
	checkBillIs(t, bill(7, "ann", "", "", "ann", "bob"), endorsing(7, "bob", "cyd"), bill(7, "ann", "cyd", "", "ann", "bob"))
	checkBillIs(t, bill(7, "ann", "", "cyd", "ann", "bob"), endorsing(7, "cyd", "ann"), bill(7, "ann", "ann", "cyd", "ann", "bob"))
	for name, b := range map[string]impl.Bill{
		"a holder where Order is another": bill(7, "ann", "bob", "cyd", "cyd"), "the Shipper where Order is another": bill(7, "cyd", "bob", "cyd"),
		"one who holds none, to the bearer": bill(7, "ann", "", "ann", "bob"), "the Shipper who holds none": bill(7, "cyd", "", "ann"),
		"where all were given up": bill(7, "cyd", "", "", ""), "a beginning of Order": bill(7, "ann", "cydd", "ann"), "another's with more letters": bill(7, "ann", "", "cydd", "cy"),
		"in capitals": bill(7, "ann", "CYD", "Cyd"),
	} {
		for _, to := range []string{"", "cyd", "ann", "bob"} {
			if got, code := impl.DoBill(book(b), endorsing(7, "cyd", to)); code != impl.BillNot || !sameBook(got, book(b)) {
				t.Error(name, to, got, code)
			}
		}
	}
}

func TestHandByHand(t *testing.T) {
	three := bill(7, "ann", "bob", "ann", "cyd", "ann")
	checkBillIs(t, three, handing(7, 0, "ann", "bob"), bill(7, "ann", "bob", "bob", "cyd", "ann"))
	checkBillIs(t, three, handing(7, 2, "ann", "cyd"), bill(7, "ann", "bob", "ann", "cyd", "cyd"))
	checkBillIs(t, three, handing(7, 1, "cyd", "dan"), bill(7, "ann", "bob", "ann", "dan", "ann"))
	checkBillIs(t, three, handing(7, 1, "cyd", "cyd"), three)
	checkBillIs(t, bill(7, "ann", "", "", "ann"), handing(7, 1, "ann", "bob"), bill(7, "ann", "", "", "bob"))
	checkBillIs(t, bill(7, "ann", "", heldBy("bob", 5)...), handing(7, 4, "bob", "ann"), bill(7, "ann", "", "bob", "bob", "bob", "bob", "ann"))
	for _, op := range []impl.BillOp{
		handing(7, 1, "ann", "bob"), handing(7, 0, "cyd", "bob"), handing(7, 0, "bob", "cyd"), handing(7, -1, "ann", "bob"), handing(7, 3, "ann", "bob"), handing(7, 4, "ann", "bob"),
		handing(7, math.MinInt, "ann", "bob"), handing(7, math.MaxInt, "ann", "bob"), handing(7, 0, "an", "bob"), handing(7, 0, "annn", "bob"), handing(7, 0, "Ann", "bob"),
	} {
		checkBillNot(t, book(three), op, impl.BillNot)
	}
	given := book(bill(7, "ann", "ann", "", "ann"))
	checkBillNot(t, given, handing(7, 0, "ann", "bob"), impl.BillNot)
	checkBillNot(t, given, handing(7, 0, "bob", "ann"), impl.BillNot)
}

func TestFreeByHand(t *testing.T) {
	freed := func(b impl.Bill, op impl.BillOp) {
		t.Helper()
		want := cloneBook(book(b))
		clear(want.Bills[0].Held)
		checkBill(t, book(b), op, withFreed(want, b.Id), impl.BillDone)
	}
	freed(bill(7, "ann", "", "ann"), freeing(7, 0, "ann"))
	freed(bill(7, "ann", "bob", "bob"), freeing(7, 0, "bob"))
	freed(bill(7, "ann", "bob", "ann", "bob", "ann"), freeing(7, 1, "bob"))
	freed(bill(7, "ann", "", "ann", "cyd", "bob"), freeing(7, 2, "bob"))
	freed(bill(7, "ann", "", "ann", "cyd", "bob"), freeing(7, 0, "ann"))
	freed(bill(7, "ann", "bob", "", "", "", "", "bob"), freeing(7, 4, "bob"))
	three := bill(7, "ann", "bob", "ann", "bob", "ann")
	for _, op := range []impl.BillOp{
		freeing(7, 0, "ann"), freeing(7, 2, "ann"), freeing(7, 0, "bob"), freeing(7, 2, "bob"), freeing(7, -1, "bob"), freeing(7, 3, "bob"), freeing(7, 1, "cyd"),
		freeing(7, math.MinInt, "bob"), freeing(7, math.MaxInt, "bob"), freeing(7, 1, "bo"), freeing(7, 1, "bobb"), freeing(7, 1, "BOB"),
	} {
		checkBillNot(t, book(three), op, impl.BillNot)
	}
	bearer := book(bill(7, "ann", "", "ann", "", "bob"))
	for _, op := range []impl.BillOp{freeing(7, 1, "ann"), freeing(7, 0, "bob"), freeing(7, 2, "ann"), freeing(7, 3, "bob"), freeing(7, -1, "ann"), freeing(7, 0, "cyd")} {
		checkBillNot(t, bearer, op, impl.BillNot)
	}
	checkBillNot(t, book(bill(7, "bob", "bob", "ann")), freeing(7, 0, "bob"), impl.BillNot)
	checkBillNot(t, book(bill(7, "bob", "bob", "", "")), freeing(7, 0, "bob"), impl.BillNot)
}

// Freed stays ascending wherever the Id comes in, and the other bills stay.
func TestFreedIsInOrder(t *testing.T) {
	five := book(bill(2, "ann", "", "ann"), bill(4, "ann", "", "", "ann"), bill(6, "ann", "", "ann", "bob"), bill(8, "ann", "", "bob"), bill(9, "ann", "ann", "ann"))
	for at, want := range map[int][]int{0: {2, 4, 8}, 2: {4, 6, 8}, 4: {4, 8, 9}} {
		b := withFreed(cloneBook(five), 4, 8)
		behind := withFreed(cloneBook(five), want...)
		clear(behind.Bills[at].Held)
		checkBill(t, b, freeing(b.Bills[at].Id, 0, "ann"), behind, impl.BillDone)
	}
}

func TestSwapByHand(t *testing.T) {
	checkBillIs(t, bill(7, "ann", "bob", "cyd", "cyd"), swapping(7, "cyd", 3), bill(7, "ann", "bob", "cyd", "cyd", "cyd"))
	checkBillIs(t, bill(7, "ann", "bob", "cyd", "cyd"), swapping(7, "cyd", 1), bill(7, "ann", "bob", "cyd"))
	checkBillIs(t, bill(7, "ann", "", "ann"), swapping(7, "ann", 5), bill(7, "ann", "", heldBy("ann", 5)...))
	checkBillIs(t, bill(7, "ann", "", heldBy("bob", 5)...), swapping(7, "bob", 5), bill(7, "ann", "", heldBy("bob", 5)...))
	checkBillIs(t, bill(7, "ann", "cyd", heldBy("bob", 5)...), swapping(7, "bob", 1), bill(7, "ann", "cyd", "bob"))
	for name, held := range map[string][]string{
		"all but the first": {"bob", "ann", "ann"}, "all but one between": {"ann", "bob", "ann"}, "all but the last": {"ann", "ann", "bob"}, "none": {"bob", "cyd"}, "only one": {"bob", "ann", "bob"},
		"the first was given up": {"", "ann"}, "the last was given up": {"ann", ""}, "one between was given up": {"ann", "", "ann"}, "all were given up": {"", "", ""}, "a single one was": {""},
	} {
		for _, order := range []string{"", "ann", "bob"} {
			b := book(bill(7, "ann", order, held...))
			if got, code := impl.DoBill(b, swapping(7, "ann", 2)); code != impl.BillNot || !sameBook(got, b) {
				t.Error(name, order, got, code)
			}
		}
	}
}

// Only the bill that is named changes, wherever it stands.
func TestOtherBillsStay(t *testing.T) {
	d := &draws{state: 171}
	done := [6]int{}
	for range 10000 {
		b := drawnBook(d)
		op := drawnBillOp(d, b)
		got, code := impl.DoBill(b, op)
		if code != impl.BillDone {
			continue
		}
		done[op.Kind]++
		isNamed := func(b impl.Bill) bool { return b.Id == op.Id }
		others := slices.DeleteFunc(cloneBook(b).Bills, isNamed)
		if !slices.EqualFunc(others, slices.DeleteFunc(cloneBook(got).Bills, isNamed), sameBill) {
			t.Fatal(b, op, got)
		}
		isId := func(id int) bool { return id == op.Id }
		if !slices.Equal(slices.DeleteFunc(slices.Clone(b.Freed), isId), slices.DeleteFunc(slices.Clone(got.Freed), isId)) {
			t.Fatal(b, op, got)
		}
	}
	if slices.Min(done[1:]) < 100 {
		t.Error("few were done of a kind", done)
	}
}

func TestDoBillOfDrawnOnes(t *testing.T) {
	d := &draws{state: 172}
	seen := map[[2]int]int{}
	for range 20000 {
		b := drawnBook(d)
		op := drawnBillOp(d, b)
		want, code := doBillOf(b, op)
		checkBill(t, b, op, want, code)
		seen[[2]int{op.Kind, code}]++
	}
	for kind := 1; kind <= 5; kind++ {
		for _, code := range map[bool][]int{true: {0, 1, 2}, false: {0, 1, 3, 4, 5}}[kind == 1] {
			if seen[[2]int{kind, code}] < 30 {
				t.Error("few drawn of kind and code", kind, code, seen)
			}
		}
	}
}

// What a kind does not name may be anything.
func TestWhatABillOpDoesNotName(t *testing.T) {
	b := book(bill(7, "ann", "", "ann", "ann"))
	odd := []string{"", "a b", strings.Repeat("x", 21), "\xff", "bob"}
	for _, n := range []int{math.MinInt, -1, 0, 1, 2, 5, 6, math.MaxInt} {
		for _, text := range odd {
			for _, op := range []impl.BillOp{
				{Kind: 1, Id: 8, Who: "ann", To: "bob", Many: 2, Number: n}, {Kind: 2, Id: 7, Who: "ann", To: "bob", Number: n, Many: n}, {Kind: 3, Id: 7, Who: "ann", To: "bob", Number: 1, Many: n},
				{Kind: 4, Id: 7, Who: "ann", To: text, Number: 1, Many: n}, {Kind: 5, Id: 7, Who: "ann", To: text, Number: n, Many: 3},
			} {
				want := behindBill(b, op)
				checkBill(t, b, op, want, impl.BillDone)
			}
		}
	}
}

// The number is held against the bill's originals, not against those of op.
func TestNumbersOfOriginals(t *testing.T) {
	for many := 1; many <= 5; many++ {
		b := book(bill(7, "ann", "", heldBy("ann", many)...))
		for _, number := range []int{-1, 0, many - 1, many, 5, math.MinInt, math.MaxInt} {
			for _, kind := range []int{3, 4} {
				op := impl.BillOp{Kind: kind, Id: 7, Who: "ann", To: "bob", Number: number, Many: 5}
				if number < 0 || number >= many {
					checkBillNot(t, b, op, impl.BillNot)
				} else {
					checkBill(t, b, op, behindBill(b, op), impl.BillDone)
				}
			}
		}
	}
}

func checkTitle(t *testing.T, b impl.Book, id int, want string, ok bool) {
	t.Helper()
	if got, told := impl.TitleOf(b, id); got != want || told != ok {
		t.Error(b, id, "got", got, told, "not", want, ok)
	}
}

func TestTitleByHand(t *testing.T) {
	b := withFreed(book(
		bill(1, "ann", "bob", "ann", "cyd"), bill(3, "ann", "", "cyd", "ann"), bill(5, "ann", "", "", "", "dan", "ann"), bill(7, "ann", "", "", ""), bill(8, "ann", "bob", "", ""),
		bill(9, "ann", "bob", "bob"), bill(11, "ann", "", "ann"), bill(1000000, "ann", "ann", "bob")), 9, 11)
	for id, want := range map[int]string{1: "bob", 3: "cyd", 5: "dan", 7: "", 8: "bob", 1000000: "ann"} {
		checkTitle(t, b, id, want, true)
	}
	for _, id := range []int{9, 11, 0, -1, 2, 4, 6, 10, 12, 999999, 1000001, math.MinInt, math.MaxInt} {
		checkTitle(t, b, id, "", false)
	}
	checkTitle(t, impl.Book{}, 1, "", false)
	checkTitle(t, impl.Book{}, 0, "", false)
	for at, own := range shelf(30).Bills {
		checkTitle(t, withFreed(shelf(30), 10, 300), own.Id, map[bool]string{true: "", false: "ann"}[at == 0 || at == 29], at != 0 && at != 29)
	}
}

func TestTitleOfDrawnOnes(t *testing.T) {
	d := &draws{state: 173}
	seen := map[string]int{}
	for range 3000 {
		b := drawnBook(d)
		for range d.below(8) / 7 {
			spoilBook(d, &b)
		}
		for id := range 43 {
			want, ok := titleOf(b, id)
			checkTitle(t, b, id, want, ok)
			seen[fmt.Sprint(want == "", ok)]++
		}
	}
	if len(seen) != 3 || seen["true true"] < 100 {
		t.Error("few drawn", seen)
	}
}

// reason makes a code's reason so, of an op that could be done on the bills 3,
// 7 and 9.
type reason struct {
	code int
	make func(b *impl.Book, op *impl.BillOp)
}

func reasonsOfAllKinds() []reason {
	return []reason{
		{impl.BillBad, func(b *impl.Book, op *impl.BillOp) { b.Bills[0].Shipper = "" }},
		{impl.BillBad, func(b *impl.Book, op *impl.BillOp) { b.Freed = append(b.Freed, 9, 8) }},
		{impl.BillBad, func(b *impl.Book, op *impl.BillOp) { op.Who = "a b" }},
		{impl.BillBad, func(b *impl.Book, op *impl.BillOp) { op.Who = "" }},
		{impl.BillBad, func(b *impl.Book, op *impl.BillOp) { op.Id = 0 }},
		{impl.BillBad, func(b *impl.Book, op *impl.BillOp) { op.Id = 1000001 }},
		{impl.BillBad, func(b *impl.Book, op *impl.BillOp) { op.Kind = 6 }},
		{impl.BillBad, func(b *impl.Book, op *impl.BillOp) { op.Kind = 0 }},
	}
}

func reasonsOf(kind int) []reason {
	all := reasonsOfAllKinds()
	badTo := reason{impl.BillBad, func(b *impl.Book, op *impl.BillOp) { op.To = "a b" }}
	noTo := reason{impl.BillBad, func(b *impl.Book, op *impl.BillOp) { op.To = "" }}
	badMany := reason{impl.BillBad, func(b *impl.Book, op *impl.BillOp) { op.Many = 6 }}
	noMany := reason{impl.BillBad, func(b *impl.Book, op *impl.BillOp) { op.Many = 0 }}
	none := reason{impl.BillNone, func(b *impl.Book, op *impl.BillOp) { op.Id = 8 }}
	freed := reason{impl.BillFreed, func(b *impl.Book, op *impl.BillOp) { b.Freed = []int{7} }}
	number := reason{impl.BillNot, func(b *impl.Book, op *impl.BillOp) { op.Number = 2 }}
	other := reason{impl.BillNot, func(b *impl.Book, op *impl.BillOp) { b.Bills[1].Order = "dan" }}
	lost := reason{impl.BillNot, func(b *impl.Book, op *impl.BillOp) { b.Bills[1].Held = []string{"", ""} }}
	switch kind {
	case impl.BillIssue:
		has := reason{impl.BillHas, func(b *impl.Book, op *impl.BillOp) { op.Id = 7 }}
		full := reason{impl.BillHas, func(b *impl.Book, op *impl.BillOp) { b.Bills = append(b.Bills[:3], shelf(28).Bills[1:]...) }}
		return append(all, badTo, badMany, noMany, has, full)
	case impl.BillEndorse:
		return append(all, badTo, none, freed, other)
	case impl.BillHand:
		return append(all, badTo, noTo, none, freed, number, lost)
	case impl.BillFree:
		return append(all, none, freed, number, other, lost)
	}
	return append(all, badMany, noMany, none, freed, lost)
}

// reasonable is a book, and an op of each kind that can be done on it.
func reasonable(kind int) (impl.Book, impl.BillOp) {
	b := book(bill(3, "ann", "", "ann"), bill(7, "ann", "bob", "bob", "bob"), bill(9, "ann", "", ""))
	op := impl.BillOp{Kind: kind, Id: 7, Who: "bob", To: "cyd", Many: 2}
	if kind == impl.BillIssue {
		op.Id = 8
	}
	return b, op
}

// checkReasons makes the reason that is to be told last, so that none of the
// others undoes it.
func checkReasons(t *testing.T, kind int, reasons ...reason) {
	t.Helper()
	slices.SortStableFunc(reasons, func(a, b reason) int { return b.code - a.code })
	b, op := reasonable(kind)
	for _, r := range reasons {
		r.make(&b, &op)
	}
	checkBillNot(t, b, op, reasons[len(reasons)-1].code)
}

func TestReasonsOfBillsInTheirOrder(t *testing.T) {
	for kind := 1; kind <= 5; kind++ {
		b, op := reasonable(kind)
		checkBill(t, b, op, behindBill(b, op), impl.BillDone)
		for _, first := range reasonsOf(kind) {
			checkReasons(t, kind, first)
			for _, second := range reasonsOf(kind) {
				checkReasons(t, kind, first, second)
				for _, third := range reasonsOf(kind) {
					checkReasons(t, kind, first, second, third)
				}
			}
		}
	}
}

// Order endorses with empty hands; who holds what is not to their order may hand
// it on, and swap it where all are theirs, but gets no goods for it.
func TestWhoMustHoldWhat(t *testing.T) {
	names := []string{"ann", "bob", "cyd"}
	for _, order := range []string{"", "ann", "bob"} {
		for _, held := range [][]string{{"ann", "ann"}, {"ann", "bob"}, {"bob", "ann"}, {"", "ann"}, {"ann", ""}, {"", ""}, {"bob", "bob"}} {
			for _, who := range names {
				holds := slices.Contains(held, who)
				b := book(bill(7, "cyd", order, held...))
				checkMay(t, b, endorsing(7, who, "dan"), order == who || order == "" && holds)
				checkMay(t, b, swapping(7, who, 1), held[0] == who && held[1] == who)
				for number := range 2 {
					checkMay(t, b, handing(7, number, who, "dan"), held[number] == who)
					checkMay(t, b, freeing(7, number, who), held[number] == who && (order == "" || order == who))
				}
			}
		}
	}
}

func checkMay(t *testing.T, b impl.Book, op impl.BillOp, may bool) {
	t.Helper()
	want := map[bool]int{true: impl.BillDone, false: impl.BillNot}[may]
	if _, code := impl.DoBill(b, op); code != want {
		t.Error(b, op, code, "not", want)
	}
}
