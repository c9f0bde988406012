package tests

import (
	"slices"
	"testing"

	"loop.example/g00059/impl"
)

func checkBillRun(t *testing.T, b impl.Book, ops billOps, want impl.Book, codes []int) {
	t.Helper()
	if got, told := impl.RunBills(b, ops); !sameBook(got, want) || !slices.Equal(told, codes) {
		t.Fatal(b, ops, "got", got, told, "not", want, codes)
	}
}

func TestRunBillsByHand(t *testing.T) {
	ops := billOps{
		issuing(7, "ann", "bob", 3), issuing(7, "cyd", "", 1), handing(7, 1, "ann", "bob"), endorsing(7, "ann", "cyd"), endorsing(7, "bob", "cyd"),
		freeing(7, 1, "bob"), freeing(7, 0, "cyd"), handing(7, 1, "bob", "cyd"), swapping(7, "cyd", 2), issuing(3, "dan", "", 2),
		handing(3, 0, "dan", "eve"), swapping(3, "dan", 1), freeing(7, 1, "cyd"), freeing(7, 1, "cyd"), handing(7, 0, "ann", "bob"),
		endorsing(7, "cyd", ""), swapping(7, "ann", 2), issuing(7, "ann", "", 1), handing(3, 1, "dan", "eve"), swapping(3, "eve", 5), endorsing(3, "eve", "fay"), {},
	}
	codes := []int{0, 2, 0, 5, 0, 5, 5, 0, 5, 0, 0, 5, 0, 4, 4, 4, 4, 2, 0, 0, 0, 1}
	checkBillRun(t, impl.Book{}, ops[:3], book(bill(7, "ann", "bob", "ann", "bob", "ann")), codes[:3])
	checkBillRun(t, impl.Book{}, ops[:9], book(bill(7, "ann", "cyd", "ann", "cyd", "ann")), codes[:9])
	checkBillRun(t, impl.Book{}, ops[:12], book(bill(3, "dan", "", "eve", "dan"), bill(7, "ann", "cyd", "ann", "cyd", "ann")), codes[:12])
	checkBillRun(t, impl.Book{}, ops[:18], withFreed(book(bill(3, "dan", "", "eve", "dan"), bill(7, "ann", "cyd", "", "", "")), 7), codes[:18])
	checkBillRun(t, impl.Book{}, ops, withFreed(book(bill(3, "dan", "fay", heldBy("eve", 5)...), bill(7, "ann", "cyd", "", "", "")), 7), codes)
}

// An op works on what the ones ahead left, also behind one that is refused.
func TestRunBillsWithOpsThatAreRefused(t *testing.T) {
	b := withFreed(book(bill(3, "ann", "", ""), bill(7, "ann", "bob", "ann", "ann")), 3)
	done := billOps{endorsing(7, "bob", ""), handing(7, 0, "ann", "cyd"), issuing(5, "dan", "eve", 1), freeing(7, 1, "ann")}
	want := withFreed(book(bill(3, "ann", "", ""), bill(5, "dan", "eve", "dan"), bill(7, "ann", "", "", "")), 3, 7)
	checkBillRun(t, b, done, want, []int{0, 0, 0, 0})
	for refused, code := range map[impl.BillOp]int{
		{}: impl.BillBad, issuing(7, "", "bob", 1): impl.BillBad, issuing(9, "ann", "", 6): impl.BillBad, issuing(7, "eve", "eve", 1): impl.BillHas, issuing(3, "eve", "eve", 1): impl.BillHas,
		endorsing(8, "ann", "eve"): impl.BillNone, freeing(1, 0, "ann"): impl.BillNone, freeing(3, 0, "ann"): impl.BillFreed, swapping(3, "ann", 2): impl.BillFreed,
	} {
		for at := range 5 {
			checkBillRun(t, b, slices.Insert(slices.Clone(done), at, refused), want, slices.Insert([]int{0, 0, 0, 0}, at, code))
		}
	}
	for at := range 4 {
		checkBillRun(t, b, slices.Insert(slices.Clone(done), at, swapping(7, "bob", 1)), want, slices.Insert([]int{0, 0, 0, 0}, at, impl.BillNot))
	}
}

func TestRunBillsAtTheirLimit(t *testing.T) {
	b := book(bill(7, "ann", "", "ann"))
	most := slices.Repeat(billOps{handing(7, 0, "ann", "bob"), handing(7, 0, "bob", "ann")}, 100)
	checkBillRun(t, b, nil, b, nil)
	checkBillRun(t, b, billOps{}, b, nil)
	checkBillRun(t, b, most[:1], book(bill(7, "ann", "", "bob")), []int{0})
	checkBillRun(t, b, most[:199], book(bill(7, "ann", "", "bob")), make([]int, 199))
	checkBillRun(t, b, most, b, make([]int, 200))
	checkBillRun(t, b, slices.Concat(most[:199], billOps{freeing(7, 0, "bob")}), withFreed(book(bill(7, "ann", "", "")), 7), make([]int, 200))
	checkBillRun(t, b, append(slices.Clone(most), freeing(7, 0, "ann")), b, nil)
	checkBillRun(t, b, append(billOps{freeing(7, 0, "ann")}, most...), b, nil)
	checkBillRun(t, b, make(billOps, 201), b, nil)
	checkBillRun(t, b, make(billOps, 3000), b, nil)
	checkBillRun(t, impl.Book{}, nil, impl.Book{}, nil)
	checkBillRun(t, impl.Book{}, most[:2], impl.Book{}, []int{3, 3})
	checkBillRun(t, impl.Book{}, make(billOps, 200), impl.Book{}, slices.Repeat([]int{1}, 200))
}

// A book is filled to its brim, and no further.
func TestRunBillsFillABook(t *testing.T) {
	var ops billOps
	for i := range 40 {
		ops = append(ops, issuing(400-10*i, "ann", "", 1))
	}
	want := slices.Concat(make([]int, 30), slices.Repeat([]int{impl.BillHas}, 10))
	got, codes := impl.RunBills(impl.Book{}, ops)
	if !slices.Equal(codes, want) || len(got.Bills) != 30 || !impl.BookOk(got) || got.Bills[0].Id != 110 || got.Bills[29].Id != 400 {
		t.Error(got, codes)
	}
}

func TestRunBillsOfDrawnOnes(t *testing.T) {
	d := &draws{state: 174}
	seen := [6]int{}
	for range 500 {
		b := drawnBook(d)
		ops := drawnBillRun(d, b)
		want, codes := runBillsOf(b, ops)
		checkBillRun(t, b, ops, want, codes)
		for _, code := range codes {
			seen[code]++
		}
	}
	if slices.Min(seen[:]) < 500 {
		t.Error("few drawn of a code", seen)
	}
}

// A run is its steps, one behind the other.
func TestRunBillsIsEachStep(t *testing.T) {
	d := &draws{state: 175}
	for range 200 {
		b := drawnBook(d)
		ops := drawnBillRun(d, b)
		now := b
		var codes []int
		for _, op := range ops {
			var code int
			now, code = impl.DoBill(now, op)
			codes = append(codes, code)
		}
		checkBillRun(t, b, ops, now, codes)
	}
}

// walkBills tells each step of many runs: the book ahead of it, and behind it.
func walkBills(t *testing.T, state uint64, look func(was impl.Book, op impl.BillOp, now impl.Book, code int)) {
	t.Helper()
	d := &draws{state: state}
	done := [6]int{}
	for range 400 {
		now := drawnBook(d)
		for range 200 {
			op := drawnBillOp(d, now)
			next, code := impl.DoBill(now, op)
			if !impl.BookOk(next) {
				t.Fatal("no book any more", now, op, next)
			}
			look(now, op, next, code)
			if code == impl.BillDone {
				done[op.Kind]++
			}
			now = next
		}
	}
	if slices.Min(done[1:]) < 300 {
		t.Error("few were done of a kind", done)
	}
}

func TestGoodsAreHandedOverOnce(t *testing.T) {
	walkBills(t, 176, func(was impl.Book, op impl.BillOp, now impl.Book, code int) {
		isOver := slices.Contains(was.Freed, op.Id)
		if isOver && (code == impl.BillDone || code == impl.BillNot || code == impl.BillNone) {
			t.Fatal("done behind the end", was, op, code)
		}
		if op.Kind != impl.BillFree || code != impl.BillDone {
			if !slices.Equal(now.Freed, was.Freed) {
				t.Fatal("handed over by something else", was, op, now)
			}
			return
		}
		own := was.Bills[billOf(was, op.Id)]
		if own.Held[op.Number] != op.Who || own.Order != "" && own.Order != op.Who {
			t.Fatal("to who held none", was, op)
		}
		if !slices.Contains(now.Freed, op.Id) || len(now.Freed) != len(was.Freed)+1 || originalsOf(now, op.Id) != 0 {
			t.Fatal("not handed over", was, op, now)
		}
		if title, ok := impl.TitleOf(now, op.Id); title != "" || ok {
			t.Fatal("a title behind the end", now, op)
		}
	})
}

// Behind a handing over, nothing that anybody asks for is done to that bill.
func TestNothingIsDoneBehindAHandingOver(t *testing.T) {
	for _, order := range []string{"", "ann"} {
		b, code := impl.DoBill(book(bill(7, "ann", order, "ann", "bob", "ann")), freeing(7, 2, "ann"))
		if code != impl.BillDone {
			t.Fatal(b, code)
		}
		for _, who := range []string{"ann", "bob", "cyd"} {
			for number := -1; number <= 3; number++ {
				checkBillNot(t, b, freeing(7, number, who), impl.BillFreed)
				checkBillNot(t, b, handing(7, number, who, "ann"), impl.BillFreed)
			}
			checkBillNot(t, b, endorsing(7, who, ""), impl.BillFreed)
			checkBillNot(t, b, swapping(7, who, 3), impl.BillFreed)
			checkBillNot(t, b, issuing(7, who, "", 3), impl.BillHas)
		}
	}
}

func TestWhatIsRefusedChangesNothing(t *testing.T) {
	refused := [6]int{}
	walkBills(t, 177, func(was impl.Book, op impl.BillOp, now impl.Book, code int) {
		refused[code]++
		if code != impl.BillDone && !sameBook(was, now) {
			t.Fatal(was, op, now, code)
		}
	})
	if slices.Min(refused[1:]) < 500 {
		t.Error("few were refused with a code", refused)
	}
}

// originalsBehind tells how many originals of its bill an op that is done
// leaves.
func originalsBehind(was impl.Book, op impl.BillOp) int {
	switch op.Kind {
	case impl.BillIssue, impl.BillSwap:
		return op.Many
	case impl.BillFree:
		return 0
	}
	return originalsOf(was, op.Id)
}

func TestOriginalsAreNeitherMadeNorLost(t *testing.T) {
	walkBills(t, 178, func(was impl.Book, op impl.BillOp, now impl.Book, code int) {
		if code == impl.BillDone && originalsOf(now, op.Id) != originalsBehind(was, op) {
			t.Fatal(was, op, now)
		}
		for _, own := range now.Bills {
			if (own.Id != op.Id || code != impl.BillDone) && originalsOf(now, own.Id) != originalsOf(was, own.Id) {
				t.Fatal(was, op, now)
			}
		}
		if len(now.Bills) != len(was.Bills) && (code != impl.BillDone || op.Kind != impl.BillIssue || len(now.Bills) != len(was.Bills)+1) {
			t.Fatal("bills come or go", was, op, now)
		}
	})
}

// The title is Order's, or one's who bears an original, and nobody's only where
// there is neither; it passes by Order's own hand, or by that of a bearer.
func TestTitleIsOneNamesOrTheBearers(t *testing.T) {
	walkBills(t, 179, func(was impl.Book, op impl.BillOp, now impl.Book, code int) {
		for i, own := range now.Bills {
			title, ok := impl.TitleOf(now, own.Id)
			isRight := title == own.Order || own.Order == "" && slices.Contains(own.Held, title)
			if ok == slices.Contains(now.Freed, own.Id) || ok && !isRight || !ok && title != "" {
				t.Fatal(now, own, title, ok)
			}
			if ok && title == "" && originalsOf(now, own.Id) != 0 {
				t.Fatal("nobody's", now, own)
			}
			earlier, wasOk := impl.TitleOf(was, now.Bills[i].Id)
			if wasOk && ok && title != earlier && !isBy(was, own.Id, op) {
				t.Fatal("passed by another", was, op, now)
			}
		}
	})
}

// isBy tells whether an op is by who may pass the title of a bill.
func isBy(b impl.Book, id int, op impl.BillOp) bool {
	own := b.Bills[billOf(b, id)]
	return op.Id == id && (own.Order == op.Who || own.Order == "" && slices.Contains(own.Held, op.Who))
}
