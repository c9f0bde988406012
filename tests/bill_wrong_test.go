package tests

import (
	"fmt"
	"math"
	"slices"
	"strings"
	"testing"

	"loop.example/g00059/impl"
)

// Promise 24: each function of bills answers, and writes into nothing that it
// is given.

// rightOps are ops that can be done on a book with a bill 7 of ann's.
func rightOps() billOps {
	return billOps{issuing(8, "ann", "", 1), endorsing(7, "ann", "bob"), handing(7, 0, "ann", "bob"), freeing(7, 0, "ann"), swapping(7, "ann", 2), {}}
}

func TestBooksThatAreNotSo(t *testing.T) {
	for name, b := range wrongBooks() {
		for _, op := range rightOps() {
			for _, id := range []int{op.Id, 3, 9, 10, 300} {
				op.Id = id
				if got, code := impl.DoBill(b, op); !sameBook(got, b) || code != impl.BillBad {
					t.Error(name, op, got, code)
				}
			}
		}
		checkBillRun(t, b, rightOps(), b, []int{1, 1, 1, 1, 1, 1})
		checkBillRun(t, b, nil, b, nil)
		checkBillRun(t, b, make(billOps, 201), b, nil)
		for _, id := range []int{math.MinInt, -1, 0, 1, 3, 7, 9, 10, 300, 1000, 1000000, 1000001, math.MaxInt} {
			checkTitle(t, b, id, "", false)
		}
	}
}

// wrongBillOps pass one limit each, most of them by one, for a book with a bill
// 7 of ann's.
func wrongBillOps() map[string]impl.BillOp {
	all := map[string]impl.BillOp{"empty": {}, "hand to nobody": handing(7, 0, "ann", "")}
	for _, op := range rightOps()[:5] {
		tell := func(name string, is any, wrong impl.BillOp) {
			all[fmt.Sprint("Kind ", op.Kind, " ", name, " ", is)] = wrong
		}
		for _, kind := range []int{0, -1, 6, 7, math.MinInt, math.MaxInt} {
			wrong := op
			wrong.Kind = kind
			tell("as", kind, wrong)
		}
		for _, id := range []int{0, -1, 1000001, math.MinInt, math.MaxInt} {
			wrong := op
			wrong.Id = id
			tell("Id", id, wrong)
		}
		nobody := op
		nobody.Who = ""
		tell("Who", "empty", nobody)
		for name, text := range wrongNames() {
			who, to := op, op
			who.Who, to.To = text, text
			tell("Who", name, who)
			if op.Kind <= impl.BillHand {
				tell("To", name, to)
			}
		}
		for _, many := range []int{0, -1, 6, math.MinInt, math.MaxInt} {
			wrong := op
			wrong.Many = many
			if op.Kind == impl.BillIssue || op.Kind == impl.BillSwap {
				tell("Many", many, wrong)
			}
		}
	}
	return all
}

func TestBillOpsThatAreNotSo(t *testing.T) {
	b := book(bill(7, "ann", "", "ann"))
	for _, op := range rightOps()[:5] {
		checkBill(t, b, op, behindBill(b, op), impl.BillDone)
	}
	for name, op := range wrongBillOps() {
		for _, b := range []impl.Book{{}, b, withFreed(b, 7), shelf(30)} {
			if got, code := impl.DoBill(b, op); !sameBook(got, b) || code != impl.BillBad {
				t.Error(name, b, got, code)
			}
		}
		ops := billOps{handing(7, 0, "ann", "bob"), op, handing(7, 0, "bob", "cyd")}
		checkBillRun(t, b, ops, book(bill(7, "ann", "", "cyd")), []int{0, 1, 0})
	}
}

// A To that is empty is right but for BillHand.
func TestEmptyToOfEachKind(t *testing.T) {
	b := book(bill(7, "ann", "ann", "ann"))
	for _, op := range rightOps()[:5] {
		op.To = ""
		if op.Kind == impl.BillHand {
			checkBillNot(t, b, op, impl.BillBad)
		} else {
			checkBill(t, b, op, behindBill(b, op), impl.BillDone)
		}
	}
}

func TestBillsOfGreatNumbers(t *testing.T) {
	numbers := []int{math.MinInt, math.MinInt + 1, -1, 0, 1, 5, 7, 1000000, math.MaxInt - 1, math.MaxInt}
	b := book(bill(5, "ann", "", "ann", "bob"), bill(7, "ann", "ann", "ann", "ann"))
	for _, n := range numbers {
		for _, m := range numbers {
			for _, op := range []impl.BillOp{
				{Kind: n, Id: 7, Who: "ann", To: "bob", Many: 1}, {Kind: 1, Id: n, Who: "ann", To: "bob", Many: m}, {Kind: 2, Id: n, Who: "ann", Number: m, Many: m},
				{Kind: 3, Id: n, Who: "ann", To: "bob", Number: m}, {Kind: 4, Id: n, Who: "ann", Number: m}, {Kind: 5, Id: n, Who: "ann", Many: m},
			} {
				want, code := doBillOf(b, op)
				checkBill(t, b, op, want, code)
			}
			for _, own := range []impl.Book{withFreed(b, n, m), book(bill(n, "ann", "", "ann"), bill(m, "ann", "", "ann")), book(impl.Bill{Id: 1, Shipper: "ann", Many: n, Held: []string{"ann"}})} {
				if impl.BookOk(own) != bookOkOf(own) {
					t.Error(own)
				}
				want, ok := titleOf(own, m)
				checkTitle(t, own, m, want, ok)
			}
		}
	}
}

func TestTextsOfBillsThatAreLong(t *testing.T) {
	long := strings.Repeat("x", 1<<20)
	b := book(bill(7, long, long, long))
	checkBillNot(t, b, endorsing(7, long, long), impl.BillBad)
	checkTitle(t, b, 7, "", false)
	checkBillNot(t, book(bill(7, "ann", "", "ann")), issuing(8, long, long, 1), impl.BillBad)
	checkBillNot(t, book(bill(7, "ann", "", "ann")), handing(7, 0, "ann", long), impl.BillBad)
}

// desk is all that the functions of the chapter take.
type desk struct {
	b   impl.Book
	ops billOps
}

func desksOfAllKinds() []desk {
	d := &draws{state: 180}
	all := []desk{{}, {b: shelf(30), ops: make(billOps, 200)}, {b: shelf(31), ops: make(billOps, 201)}}
	for range 150 {
		b := drawnBook(d)
		all = append(all, desk{b, drawnBillRun(d, b)})
	}
	for name, b := range wrongBooks() {
		if !strings.Contains(name, "the sign") {
			all = append(all, desk{b, rightOps()})
		}
	}
	return all
}

func roomyBook(b impl.Book) impl.Book {
	b = cloneBook(b)
	for i, own := range b.Bills {
		b.Bills[i].Held = spare(own.Held, "ann")
	}
	b.Bills = spare(b.Bills, bill(1000000, "ann", "", "ann"))
	b.Freed = spare(b.Freed, 1000000)
	return b
}

// roomyDesk has right things behind each list, that would make a difference.
func roomyDesk(k desk) desk { return desk{roomyBook(k.b), spare(k.ops, freeing(7, 0, "ann"))} }

func clippedDesk(k desk) desk {
	b := cloneBook(k.b)
	b.Bills, b.Freed = slices.Clip(b.Bills), slices.Clip(b.Freed)
	for i, own := range b.Bills {
		b.Bills[i].Held = slices.Clip(own.Held)
	}
	return desk{b, slices.Clip(slices.Clone(k.ops))}
}

// wholeBook tells all of it, and what lies behind each list.
func wholeBook(b impl.Book) string {
	told := fmt.Sprint(b.Freed[:cap(b.Freed)])
	for _, own := range b.Bills[:cap(b.Bills)] {
		told += fmt.Sprintf("%d %q %q %d %q\n", own.Id, own.Shipper, own.Order, own.Many, own.Held[:cap(own.Held)])
	}
	return told
}

func wholeDesk(k desk) string { return wholeBook(k.b) + fmt.Sprintf("%+v", k.ops[:cap(k.ops)]) }

func overwriteBook(b impl.Book) {
	for _, own := range b.Bills[:cap(b.Bills)] {
		overwriteTexts(own.Held)
	}
	clear(b.Bills[:cap(b.Bills)])
	overwrite(b.Freed)
}

func overwriteTexts(list []string) {
	for i := range list[:cap(list)] {
		list[:cap(list)][i] = "overwritten"
	}
}

// opsFor are some of the desk's own, and one of each kind for each bill that
// stands at an end of the book.
func opsFor(k desk) billOps {
	ops := slices.Clone(k.ops[:min(len(k.ops), 8)])
	for _, at := range []int{0, len(k.b.Bills) - 1} {
		if at < 0 || at >= len(k.b.Bills) || len(k.b.Bills[at].Held) == 0 {
			continue
		}
		own := k.b.Bills[at]
		ops = append(ops, issuing(own.Id+1, "ann", "", 2), endorsing(own.Id, own.Held[0], "bob"), handing(own.Id, 0, own.Held[0], "bob"),
			freeing(own.Id, 0, own.Held[0]), swapping(own.Id, own.Held[0], 3))
	}
	return ops
}

// allOfDesk are the answers of all functions, as texts.
func allOfDesk(k desk) []string {
	all := []string{fmt.Sprint(impl.BookOk(k.b))}
	for _, op := range opsFor(k) {
		now, code := impl.DoBill(k.b, op)
		all = append(all, fmt.Sprint(wholeBook(clippedDesk(desk{b: now}).b), code))
	}
	now, codes := impl.RunBills(k.b, k.ops)
	for _, id := range []int{-1, 0, 7, 10, 300, 1000000} {
		title, ok := impl.TitleOf(k.b, id)
		all = append(all, fmt.Sprintf("%q %v", title, ok))
	}
	return append(all, fmt.Sprint(wholeBook(clippedDesk(desk{b: now}).b), codes))
}

func TestBillArgumentsAreNotChanged(t *testing.T) {
	for _, plain := range desksOfAllKinds() {
		k := roomyDesk(plain)
		before := wholeDesk(k)
		got := allOfDesk(k)
		if wholeDesk(k) != before {
			t.Fatal("written into", plain)
		}
		if !slices.Equal(got, allOfDesk(clippedDesk(plain))) {
			t.Fatal("what lies behind a list is looked at", plain)
		}
	}
}

// checkBookNew writes over an answer: neither what was handed in nor another
// answer may change by it.
func checkBookNew(t *testing.T, name string, plain desk, ask func(desk) impl.Book) {
	t.Helper()
	k := roomyDesk(plain)
	before := wholeDesk(k)
	earlier, got := ask(k), ask(k)
	want := cloneBook(got)
	overwriteBook(got)
	if wholeDesk(k) != before {
		t.Fatal(name, "shares memory with what was handed in", plain)
	}
	if !sameBook(earlier, want) || !sameBook(ask(k), want) {
		t.Fatal(name, "shares memory with another answer", plain)
	}
	overwriteBook(k.b)
	clear(k.ops[:cap(k.ops)])
	if !sameBook(earlier, want) {
		t.Fatal(name, "keeps the memory of what was handed in", plain)
	}
	checkOwnHolders(t, name, plain, earlier)
}

// checkOwnHolders writes over the holders of one bill of an answer and behind
// them: no other bill of it may change.
func checkOwnHolders(t *testing.T, name string, plain desk, b impl.Book) {
	t.Helper()
	for i := range b.Bills[:min(len(b.Bills), 31)] {
		want := cloneBook(b)
		overwriteTexts(b.Bills[i].Held)
		overwriteTexts(want.Bills[i].Held)
		if !sameBook(b, want) {
			t.Fatal(name, "has two lists that share memory", plain)
		}
	}
}

func TestBillAnswersAreNewMemory(t *testing.T) {
	for _, plain := range desksOfAllKinds() {
		for _, op := range opsFor(plain) {
			checkBookNew(t, "DoBill", plain, func(k desk) impl.Book {
				now, _ := impl.DoBill(k.b, op)
				return now
			})
		}
		for _, count := range []int{0, 1, len(plain.ops)} {
			count = min(count, len(plain.ops))
			checkBookNew(t, "RunBills", plain, func(k desk) impl.Book {
				now, _ := impl.RunBills(k.b, k.ops[:count])
				return now
			})
		}
	}
}

// Both lists of numbers that a run tells are apart from each other.
func TestBillCodesAreNewMemory(t *testing.T) {
	for _, plain := range desksOfAllKinds() {
		k := roomyDesk(plain)
		before := wholeDesk(k)
		now, codes := impl.RunBills(k.b, k.ops)
		want, told := cloneBook(now), slices.Clone(codes)
		overwrite(codes)
		if !sameBook(now, want) || wholeDesk(k) != before {
			t.Fatal("codes share memory", plain)
		}
		now, codes = impl.RunBills(k.b, k.ops)
		overwriteBook(now)
		if !slices.Equal(codes, told) || wholeDesk(k) != before {
			t.Fatal("the book shares memory", plain)
		}
	}
}

// Bills that are handed in may share a list of who holds them: no answer does.
func TestBillsThatShareTheirHolders(t *testing.T) {
	shared := []string{"ann", "ann", "ann"}
	b := book(bill(3, "ann", "", shared[:2]...), bill(5, "ann", "", shared...), bill(7, "ann", "", shared[1:]...), bill(9, "ann", "", shared[:1]...))
	wrong := book(b.Bills[0], b.Bills[1], b.Bills[2], bill(9, "", "", shared[:1]...))
	for _, b := range []impl.Book{b, wrong} {
		for _, op := range []impl.BillOp{handing(3, 0, "ann", "bob"), handing(5, 1, "ann", "bob"), freeing(5, 2, "ann"), swapping(5, "ann", 1), endorsing(7, "ann", "bob"), issuing(8, "ann", "", 2), {}} {
			want, code := doBillOf(b, op)
			checkBill(t, b, op, want, code)
			checkBillRun(t, b, billOps{op}, want, []int{code})
			got, _ := impl.DoBill(b, op)
			checkOwnHolders(t, "DoBill", desk{b, nil}, got)
			got, _ = impl.RunBills(b, billOps{op, op})
			checkOwnHolders(t, "RunBills", desk{b, nil}, got)
		}
	}
	if !slices.Equal(shared, heldBy("ann", 3)) {
		t.Error("written into", shared)
	}
}

func TestBillAnswersAgainAndTogether(t *testing.T) {
	desks := desksOfAllKinds()[:100]
	ask := func() string {
		told := ""
		for _, k := range desks {
			told += fmt.Sprintln(allOfDesk(k))
		}
		return told
	}
	want := ask()
	told := make(chan string)
	for range 8 {
		go func() { told <- ask() }()
	}
	for range 8 {
		if got := <-told; got != want {
			t.Error("answers hang on earlier calls")
		}
	}
}
