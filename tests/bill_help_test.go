package tests

import (
	"fmt"
	"math"
	"slices"
	"strings"

	"loop.example/g00059/impl"
)

type billOps = []impl.BillOp

// bill has as many originals as there are names of who holds them.
func bill(id int, shipper, order string, held ...string) impl.Bill {
	return impl.Bill{Id: id, Shipper: shipper, Order: order, Many: len(held), Held: held}
}

func book(list ...impl.Bill) impl.Book { return impl.Book{Bills: list} }

func withFreed(b impl.Book, ids ...int) impl.Book {
	b.Freed = ids
	return b
}

// shelf has so many bills, with the Ids 10, 20 and on.
func shelf(count int) impl.Book {
	var b impl.Book
	for i := range count {
		b.Bills = append(b.Bills, bill(10*(i+1), "ann", "", "ann"))
	}
	return b
}

func issuing(id int, who, to string, many int) impl.BillOp {
	return impl.BillOp{Kind: 1, Id: id, Who: who, To: to, Many: many}
}

func endorsing(id int, who, to string) impl.BillOp {
	return impl.BillOp{Kind: 2, Id: id, Who: who, To: to}
}

func handing(id, number int, who, to string) impl.BillOp {
	return impl.BillOp{Kind: 3, Id: id, Number: number, Who: who, To: to}
}

func freeing(id, number int, who string) impl.BillOp {
	return impl.BillOp{Kind: 4, Id: id, Number: number, Who: who}
}

func swapping(id int, who string, many int) impl.BillOp {
	return impl.BillOp{Kind: 5, Id: id, Who: who, Many: many}
}

// heldBy are so many originals, all of one.
func heldBy(who string, many int) []string { return slices.Repeat([]string{who}, many) }

func sameBill(a, b impl.Bill) bool {
	return a.Id == b.Id && a.Shipper == b.Shipper && a.Order == b.Order && a.Many == b.Many && slices.Equal(a.Held, b.Held)
}

func sameBook(a, b impl.Book) bool {
	return slices.EqualFunc(a.Bills, b.Bills, sameBill) && slices.Equal(a.Freed, b.Freed)
}

func cloneBook(b impl.Book) impl.Book {
	b.Bills, b.Freed = slices.Clone(b.Bills), slices.Clone(b.Freed)
	for i := range b.Bills {
		b.Bills[i].Held = slices.Clone(b.Bills[i].Held)
	}
	return b
}

// withBill is the book with another bill in the place of one.
func withBill(b impl.Book, at int, other impl.Bill) impl.Book {
	b = cloneBook(b)
	b.Bills[at] = other
	return b
}

const nameSigns = "abcdefghijklmnopqrstuvwxyzABCDEFGHIJKLMNOPQRSTUVWXYZ0123456789-"

// nameOk takes away all that a name may have: nothing is left of one.
func nameOk(text string) bool {
	return text != "" && len(text) <= 20 && strings.Trim(text, nameSigns) == ""
}

func blankOrName(text string) bool { return text == "" || nameOk(text) }

func billOf(b impl.Book, id int) int {
	return slices.IndexFunc(b.Bills, func(bill impl.Bill) bool { return bill.Id == id })
}

func billOkOf(b impl.Bill) bool {
	isWrong := func(name string) bool { return !blankOrName(name) }
	return b.Id >= 1 && b.Id <= 1000000 && nameOk(b.Shipper) && blankOrName(b.Order) &&
		b.Many >= 1 && b.Many <= 5 && b.Many == len(b.Held) && !slices.ContainsFunc(b.Held, isWrong)
}

// ascends tells whether a list is what comes of sorting it and dropping what
// is there twice.
func ascends(list []int) bool {
	return slices.Equal(list, slices.Compact(slices.Sorted(slices.Values(list))))
}

func bookOkOf(b impl.Book) bool {
	var ids []int
	for _, bill := range b.Bills {
		if !billOkOf(bill) {
			return false
		}
		ids = append(ids, bill.Id)
	}
	isNone := func(id int) bool { return !slices.Contains(ids, id) }
	return len(ids) <= 30 && ascends(ids) && ascends(b.Freed) && !slices.ContainsFunc(b.Freed, isNone)
}

// billOpOf tells whether an op is as told, whatever the book.
func billOpOf(op impl.BillOp) bool {
	isSo := map[int]bool{
		1: blankOrName(op.To) && op.Many >= 1 && op.Many <= 5,
		2: blankOrName(op.To),
		3: nameOk(op.To),
		4: true,
		5: op.Many >= 1 && op.Many <= 5,
	}
	return isSo[op.Kind] && op.Id >= 1 && op.Id <= 1000000 && nameOk(op.Who)
}

func holdsOf(b impl.Bill, number int, who string) bool {
	return slices.Contains(upTo(len(b.Held)), number) && b.Held[number] == who
}

// mayOf tells whether Who is who they must be, and holds what they must.
func mayOf(b impl.Bill, op impl.BillOp) bool {
	isOther := func(name string) bool { return name != op.Who }
	switch op.Kind {
	case 2:
		return b.Order == op.Who || b.Order == "" && slices.Contains(b.Held, op.Who)
	case 3:
		return holdsOf(b, op.Number, op.Who)
	case 4:
		return holdsOf(b, op.Number, op.Who) && (b.Order == op.Who || b.Order == "")
	}
	return !slices.ContainsFunc(b.Held, isOther)
}

func billCodeOf(b impl.Book, op impl.BillOp) int {
	at := billOf(b, op.Id)
	switch {
	case !bookOkOf(b) || !billOpOf(op):
		return 1
	case op.Kind == 1 && (at >= 0 || len(b.Bills) == 30):
		return 2
	case op.Kind == 1:
		return 0
	case at < 0:
		return 3
	case slices.Contains(b.Freed, op.Id):
		return 4
	case !mayOf(b.Bills[at], op):
		return 5
	}
	return 0
}

// behindBill is the book behind an op that can be done: new ones are put at the
// end, and sorted.
func behindBill(b impl.Book, op impl.BillOp) impl.Book {
	now := cloneBook(b)
	if op.Kind == 1 {
		now.Bills = append(now.Bills, bill(op.Id, op.Who, op.To, heldBy(op.Who, op.Many)...))
		slices.SortFunc(now.Bills, func(a, b impl.Bill) int { return a.Id - b.Id })
		return now
	}
	own := &now.Bills[billOf(b, op.Id)]
	switch op.Kind {
	case 2:
		own.Order = op.To
	case 3:
		own.Held[op.Number] = op.To
	case 4:
		own.Held = heldBy("", own.Many)
		now.Freed = append(now.Freed, op.Id)
		slices.Sort(now.Freed)
	case 5:
		own.Many, own.Held = op.Many, heldBy(op.Who, op.Many)
	}
	return now
}

func doBillOf(b impl.Book, op impl.BillOp) (impl.Book, int) {
	if code := billCodeOf(b, op); code != 0 {
		return cloneBook(b), code
	}
	return behindBill(b, op), 0
}

func runBillsOf(b impl.Book, ops billOps) (impl.Book, []int) {
	now := cloneBook(b)
	if len(ops) > 200 {
		return now, nil
	}
	var codes []int
	for _, op := range ops {
		var code int
		now, code = doBillOf(now, op)
		codes = append(codes, code)
	}
	return now, codes
}

func titleOf(b impl.Book, id int) (string, bool) {
	at := billOf(b, id)
	if !bookOkOf(b) || at < 0 || slices.Contains(b.Freed, id) {
		return "", false
	}
	for _, name := range append([]string{b.Bills[at].Order}, b.Bills[at].Held...) {
		if name != "" {
			return name, true
		}
	}
	return "", true
}

// originalsOf tells how many originals of a bill somebody holds.
func originalsOf(b impl.Book, id int) int {
	at := billOf(b, id)
	if at < 0 {
		return 0
	}
	isHeld := slices.DeleteFunc(slices.Clone(b.Bills[at].Held), func(name string) bool { return name == "" })
	return len(isHeld)
}

// drawnName is one of few, so that the same ones meet again.
func drawnName(d *draws) string {
	return []string{"ann", "bob", "cyd", "ann", "bob", "Z-9", strings.Repeat("x", 20)}[d.below(7)]
}

func drawnOrder(d *draws) string { return []string{"", drawnName(d)}[d.below(2)] }

// drawnHolders are often all of one, and some were given up now and then.
func drawnHolders(d *draws) []string {
	held := heldBy(drawnName(d), d.between(1, 5))
	for range d.below(4) {
		held[d.below(len(held))] = drawnName(d)
	}
	if d.below(5) == 0 {
		held[d.below(len(held))] = ""
	}
	if d.below(20) == 0 {
		clear(held)
	}
	return held
}

// drawnBook has Ids of 1 to 40, or great ones.
func drawnBook(d *draws) impl.Book {
	var b impl.Book
	count := []int{0, 1, d.below(6), d.below(31), 29, 30}[d.below(6)]
	for _, place := range shuffled(d, upTo(40))[:count] {
		id := place + 1
		if d.below(10) == 0 {
			id = 1000000 - place
		}
		b.Bills = append(b.Bills, bill(id, drawnName(d), drawnOrder(d), drawnHolders(d)...))
	}
	slices.SortFunc(b.Bills, func(a, b impl.Bill) int { return a.Id - b.Id })
	for i, own := range b.Bills {
		if d.below(6) == 0 {
			b.Freed = append(b.Freed, own.Id)
			if d.below(4) != 0 {
				clear(b.Bills[i].Held)
			}
		}
	}
	return b
}

// drawnBillOp is mostly by one who may, of a bill that is there.
func drawnBillOp(d *draws, b impl.Book) impl.BillOp {
	op := impl.BillOp{Kind: []int{1, 2, 2, 3, 3, 3, 4, 5}[d.below(8)], Id: d.between(1, 42), Who: drawnName(d), To: drawnName(d), Number: d.below(5), Many: d.between(1, 5)}
	if len(b.Bills) > 0 && d.below(8) != 0 && op.Kind != 1 {
		own := b.Bills[d.below(len(b.Bills))]
		op.Id, op.Number = own.Id, d.below(own.Many+d.below(8)/7)
		op.Who = []string{own.Order, own.Held[op.Number%own.Many], own.Held[op.Number%own.Many], op.Who}[d.below(4)]
	}
	if op.Who == "" {
		op.Who = drawnName(d)
	}
	if op.Kind < 3 {
		op.To = drawnOrder(d)
	}
	spoilBillOp(d, &op)
	return op
}

func spoilBillOp(d *draws, op *impl.BillOp) {
	switch d.below(60) {
	case 0:
		op.Kind = []int{0, -1, 6}[d.below(3)]
	case 1:
		op.Id = []int{0, -1, 1000000, 1000001}[d.below(4)]
	case 2:
		op.Who = []string{"", "a b", strings.Repeat("x", 21)}[d.below(3)]
	case 3:
		op.To = []string{"", "a b", strings.Repeat("x", 21)}[d.below(3)]
	case 4:
		op.Many = []int{0, -1, 6}[d.below(3)]
	case 5:
		op.Number = []int{-1, 5, math.MinInt, math.MaxInt}[d.below(4)]
	}
}

// drawnBillRun are ops of which each is drawn for the book that it meets.
func drawnBillRun(d *draws, b impl.Book) billOps {
	ops := make(billOps, []int{d.below(6), d.below(201), 200}[d.below(3)])
	for i := range ops {
		ops[i] = drawnBillOp(d, b)
		b, _ = doBillOf(b, ops[i])
	}
	return ops
}

// wrongNames are neither names nor empty.
func wrongNames() map[string]string {
	all := map[string]string{
		"21 bytes": strings.Repeat("x", 21), "1000 bytes": strings.Repeat("x", 1000), "a blank": " ", "a blank ahead": " ann", "a blank behind": "ann ", "a blank between": "a b",
		"a line end": "ann\n", "a nought byte": "ann\x00", "an underline": "a_b", "a dot": "a.b", "a letter of two bytes": "\u00e9", "one of two bytes at the end": "anne\u0301",
		"10 runes of 20 bytes": strings.Repeat("\u00e9", 10), "a great dash": "a\u2014b", "a byte that is no rune": "ann\xff", "a wide digit": "\uff11",
	}
	for _, sign := range "/:@[`{,+_" {
		all["the sign "+string(sign)] = "ann" + string(sign)
	}
	return all
}

// wrongBills pass one limit each, most of them by one.
func wrongBills() map[string]impl.Bill {
	fewer, more := bill(7, "ann", "bob", "ann", "bob", "cyd"), bill(7, "ann", "bob", "ann", "bob", "cyd")
	fewer.Many, more.Many = 2, 4
	none, six := bill(7, "ann", "bob", "ann"), bill(7, "ann", "bob", heldBy("ann", 5)...)
	none.Many, six.Many = 0, 6
	least, great := bill(7, "ann", "bob", "ann"), bill(7, "ann", "bob", "ann")
	least.Many, great.Many = math.MinInt, math.MaxInt
	all := map[string]impl.Bill{
		"empty": {}, "Id 0": bill(0, "ann", "bob", "ann"), "Id -1": bill(-1, "ann", "bob", "ann"), "Id 10^6 and one": bill(1000001, "ann", "bob", "ann"),
		"least Id": bill(math.MinInt, "ann", "bob", "ann"), "greatest Id": bill(math.MaxInt, "ann", "bob", "ann"), "no Shipper": bill(7, "", "bob", "ann"),
		"no original": bill(7, "ann", "bob"), "6 originals": bill(7, "ann", "bob", heldBy("ann", 6)...), "6 that were given up": bill(7, "ann", "bob", heldBy("", 6)...),
		"one name more than Many": fewer, "one fewer": more, "Many 0 and one name": none, "Many 6 and 5 names": six, "least Many": least, "greatest Many": great,
		"Many 3 and none": {Id: 7, Shipper: "ann", Order: "bob", Many: 3}, "Many 0 and none": {Id: 7, Shipper: "ann", Order: "bob", Held: []string{}},
		"Many -1 and none": {Id: 7, Shipper: "ann", Many: -1}, "3000 originals": {Id: 7, Shipper: "ann", Many: 3000, Held: heldBy("ann", 3000)},
	}
	for name, text := range wrongNames() {
		all["Shipper of "+name] = bill(7, text, "bob", "ann")
		all["Order of "+name] = bill(7, "ann", text, "ann")
		all["held by "+name] = bill(7, "ann", "bob", text)
		all["the last of 5 held by "+name] = bill(7, "ann", "bob", "ann", "", "bob", "ann", text)
	}
	return all
}

func wrongBooks() map[string]impl.Book {
	two := book(bill(3, "ann", "", "ann"), bill(9, "ann", "bob", "ann", "bob"))
	all := map[string]impl.Book{
		"31 bills": shelf(31), "300 bills": shelf(300), "31 empty ones": {Bills: make([]impl.Bill, 31)},
		"one Id twice": book(bill(3, "ann", "", "ann"), bill(3, "ann", "", "ann")), "unlike bills of one Id": book(bill(1, "ann", "", "ann"), bill(3, "ann", "", "ann"), bill(3, "bob", "cyd", "bob")),
		"the wrong way round": book(two.Bills[1], two.Bills[0]), "the last two turned": book(bill(1, "ann", "", "ann"), two.Bills[1], two.Bills[0]),
		"the first two turned": book(two.Bills[1], two.Bills[0], bill(20, "ann", "", "ann")), "freed without a bill": withFreed(book(), 3),
		"freed twice": withFreed(two, 3, 3), "the last freed twice": withFreed(two, 3, 9, 9), "freed the wrong way round": withFreed(two, 9, 3),
		"freed more often than there are bills": withFreed(two, slices.Repeat([]int{3}, 3000)...), "freed of another after the right ones": withFreed(two, 3, 9, 20),
	}
	for _, id := range []int{0, -1, 1, 2, 4, 8, 10, 1000000, 1000001, math.MinInt, math.MaxInt} {
		all[fmt.Sprint("freed the Id of no bill, ", id)] = withFreed(two, id)
	}
	all["freed the Id of no bill, between"] = withFreed(two, 3, 5, 9)
	for name, wrong := range wrongBills() {
		all[name+", by itself"] = book(wrong)
		all[name+", the first"] = book(wrong, bill(9, "ann", "", "ann"))
		all[name+", the last"] = withFreed(book(bill(3, "ann", "", "ann"), wrong), 3)
		if wrong.Id == 7 {
			wrong.Id = 1000
		}
		all[name+", the 30th"] = withBill(shelf(30), 29, wrong)
	}
	return all
}
