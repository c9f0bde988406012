package tests

import (
	"fmt"
	"math"
	"slices"
	"strings"

	"loop.example/g00059/impl"
)

type boxes = []impl.Box

// letterNumbers are written out, so that no rule may hide a fault.
var letterNumbers = map[byte]int{
	'A': 10, 'B': 12, 'C': 13, 'D': 14, 'E': 15, 'F': 16, 'G': 17, 'H': 18, 'I': 19, 'J': 20, 'K': 21, 'L': 23, 'M': 24,
	'N': 25, 'O': 26, 'P': 27, 'Q': 28, 'R': 29, 'S': 30, 'T': 31, 'U': 32, 'V': 34, 'W': 35, 'X': 36, 'Y': 37, 'Z': 38,
}

// nameSum goes by bytes, from the last one on; false for what is no such name.
func nameSum(name string) (int, bool) {
	if len(name) != 10 {
		return 0, false
	}
	sum := 0
	for place := 9; place >= 0; place-- {
		number := strings.IndexByte("0123456789", name[place])
		if place < 4 {
			letter, ok := letterNumbers[name[place]]
			number = letter
			if !ok {
				return 0, false
			}
		}
		if number < 0 {
			return 0, false
		}
		sum = 2*sum + number
	}
	return sum, true
}

func digitOf(name string) int {
	sum, ok := nameSum(name)
	if !ok {
		return -1
	}
	return []int{0, 1, 2, 3, 4, 5, 6, 7, 8, 9, 0}[sum%11]
}

func isBoxName(text string) bool {
	return len(text) == 11 && digitOf(text[:10]) >= 0 && text[10:] == fmt.Sprint(digitOf(text[:10]))
}

// named is the name with the digit that belongs to it.
func named(ten string) string { return ten + fmt.Sprint(digitOf(ten)) }

// withByte is the text with another byte at a place.
func withByte(text string, place int, b byte) string {
	return text[:place] + string([]byte{b}) + text[place+1:]
}

func drawnTen(d *draws) string {
	ten := make([]byte, 10)
	for i := range ten {
		if i < 4 {
			ten[i] = byte(d.between('A', 'Z'))
		} else {
			ten[i] = byte(d.between('0', '9'))
		}
	}
	return string(ten)
}

// crate is a plain box.
func crate(weight int) impl.Box {
	return impl.Box{Name: "CSQU3054383", Weight: weight, From: 0, To: 1}
}

func crates(weights ...int) boxes {
	var list boxes
	for _, weight := range weights {
		list = append(list, crate(weight))
	}
	return list
}

func ofClass(class int) impl.Box {
	b := crate(9)
	b.Class = class
	return b
}

func cold(b impl.Box) impl.Box {
	b.Cold = true
	return b
}

// chilledAt is a stack of boxes that weigh as much, with a Cold one at a place.
func chilledAt(at, count int) boxes {
	list := slices.Repeat(crates(5), count)
	list[at] = cold(list[at])
	return list
}

func spot(bay, row, tier int) impl.Spot { return impl.Spot{Bay: bay, Row: row, Tier: tier} }

func boxOk(b impl.Box) bool {
	isPort := func(n int) bool { return n >= 0 && n < 20 }
	return isBoxName(b.Name) && b.Weight > 0 && b.Weight <= 40000 && b.Class >= 0 && b.Class < 10 && isPort(b.From) && isPort(b.To) && b.To > b.From
}

func boxesOk(list boxes) bool {
	isWrong := func(b impl.Box) bool { return !boxOk(b) }
	return len(list) <= 20 && !slices.ContainsFunc(list, isWrong)
}

// apartRows is what the classes 0 .. 9 ask for of each other, worked out by hand.
var apartRows = [10][10]int{
	{0, 0, 0, 0, 0, 0, 0, 0, 0, 0},
	{0, 0, 3, 3, 3, 3, 3, 3, 3, 3},
	{0, 3, 0, 2, 0, 1, 2, 1, 0, 2},
	{0, 3, 2, 0, 2, 0, 2, 0, 2, 0},
	{0, 3, 0, 2, 0, 1, 2, 1, 0, 2},
	{0, 3, 1, 0, 1, 0, 2, 0, 1, 0},
	{0, 3, 2, 2, 2, 2, 0, 2, 2, 2},
	{0, 3, 1, 0, 1, 0, 2, 0, 1, 0},
	{0, 3, 0, 2, 0, 1, 2, 1, 0, 2},
	{0, 3, 2, 0, 2, 0, 2, 0, 2, 0},
}

func isBeside(a, b impl.Spot) bool {
	alongRow := a.Tier == b.Tier && a.Bay == b.Bay && (a.Row == b.Row+1 || b.Row == a.Row+1)
	alongBay := a.Tier == b.Tier && a.Row == b.Row && (a.Bay == b.Bay+1 || b.Bay == a.Bay+1)
	return alongRow || alongBay
}

func isAbove(a, b impl.Spot) bool {
	return a.Bay == b.Bay && a.Row == b.Row && (a.Tier == b.Tier+1 || b.Tier == a.Tier+1)
}

func isSpot(s impl.Spot) bool {
	return min(s.Bay, s.Row, s.Tier) >= 0 && max(s.Bay, s.Row, s.Tier) < 20
}

func keepsApartOf(a impl.Box, sa impl.Spot, b impl.Box, sb impl.Spot) bool {
	if !boxOk(a) || !boxOk(b) || !isSpot(sa) || !isSpot(sb) || sa == sb {
		return false
	}
	switch apartRows[a.Class][b.Class] {
	case 0:
		return true
	case 1:
		return !isBeside(sa, sb) && !isAbove(sa, sb)
	case 2:
		return sa.Bay > sb.Bay+1 || sb.Bay > sa.Bay+1
	}
	return false
}

func weightIn(list boxes) int {
	sum := 0
	for _, b := range list {
		sum += b.Weight
	}
	return sum
}

func stackOf(list boxes, most int) bool {
	if !boxesOk(list) || most < 0 || most > 1000000 || weightIn(list) > most {
		return false
	}
	for i, b := range list {
		if i > 0 && b.Weight > list[i-1].Weight || i > 1 && b.Cold {
			return false
		}
	}
	return true
}

// lashesOf tries one lashing more until they are enough.
func lashesOf(list boxes, wind int) (int, bool) {
	if !boxesOk(list) || wind < 0 || wind > 100 {
		return 0, false
	}
	sum := 0
	for k := range list {
		lashings := 0
		for 500*lashings+weightIn(list[:k+1])/10 < 100*wind*(len(list)-k) {
			lashings++
		}
		sum += lashings
	}
	return sum, true
}

func drawnBox(d *draws, great int) impl.Box {
	to := d.between(1, 19)
	weight := []int{1, d.between(1, great), great}[d.below(3)]
	return impl.Box{Name: named(drawnTen(d)), Weight: weight, Class: d.below(10), Cold: d.below(6) == 0, From: d.below(to), To: to}
}

// drawnBoxes lie as they come, or the heavier below, with few Cold ones above.
func drawnBoxes(d *draws) boxes {
	list := make(boxes, []int{d.below(4), d.below(21), 20}[d.below(3)])
	great := []int{2, 9, 1000, 40000}[d.below(4)]
	for i := range list {
		list[i] = drawnBox(d, great)
		list[i].Cold = list[i].Cold && (i < 2 || d.below(9) == 0)
	}
	if d.below(5) > 0 {
		slices.SortStableFunc(list, func(a, b impl.Box) int { return b.Weight - a.Weight })
		for i := range list {
			list[i].Cold = list[i].Cold && (i < 2 || d.below(9) == 0)
		}
	}
	return list
}

func drawnSpot(d *draws) impl.Spot {
	far := []int{2, 4, 20}[d.below(3)]
	return spot(d.below(far), d.below(far), d.below(far))
}

// wrongTens are no ten bytes of which a digit is told.
func wrongTens() map[string]string {
	all := map[string]string{
		"empty": "", "one byte": "C", "9 bytes": "CSQU30543", "9 bytes, a letter less": "CSQ305438", "11 bytes": "CSQU3054383", "11 bytes, a letter more": "CSQUA305438", "12 bytes": "CSQU30543838",
		"small letters": "csqu305438", "one small letter": "CSQu305438", "digits alone": "0123456789", "letters alone": "CSQUABCDEF", "turned about": "305438CSQU",
		"blanks": "          ", "noughts": strings.Repeat("\x00", 10), "many bytes": strings.Repeat("CSQU305438", 300), "a blank ahead": " CSQU30543", "a line's end": "CSQU30543\n", "a sign": "CSQU-30543", "a point": "CSQU30.438",
		"a letter of two bytes": "CSÜ305438", "and 11 bytes": "CSQÜ305438", "letters of two bytes": "ÜÜ305438", "runes that are 10": "ÜSQU305438", "a Greek A": "CSΑ305438", "a letter whose low byte is B": "CSł305438", "a wide A": "CＡ305438",
		"digits of three bytes": "CSQU３０", "a digit of two bytes": "CSQU3054٣", "a digit whose low byte is 0": "CSQU3054İ", "a raised 2": "CSQU²3054", "a sign of four bytes": "CSQU30𝟎", "four bytes for the letters": "𝐀305438",
		"no right text": "CSQ\xff305438", "at the end": "CSQU30543\xff", "a beginning alone": "CSQU30543\xc3", "an end alone": "CSQ\x80305438", "A, too long": "CS\xc1\x81305438", "0, too long": "CSQU3054\xc0\xb0", "half of a pair": "C\xed\xa0\x80305438", "all of them": strings.Repeat("\xff", 10), "the sign that stands for it": "C\xef\xbf\xbd305438",
		"A with the high bit": "\xc1SQU305438", "0 with the high bit": "CSQU30543\xb0",
	}
	for place := range 4 {
		for _, b := range []byte("@[`az09\x00\x7f") {
			all[fmt.Sprintf("%q at %d", b, place)] = withByte("CSQU305438", place, b)
		}
	}
	for place := 4; place < 10; place++ {
		for _, b := range []byte("/:AZaz\x00\x7f") {
			all[fmt.Sprintf("%q at %d", b, place)] = withByte("CSQU305438", place, b)
		}
	}
	return all
}

// wrongBoxNames are no names of a box; each of wrongTens is made one of 11 bytes too.
func wrongBoxNames() map[string]string {
	all := map[string]string{
		"10 bytes": "CSQU305438", "12 bytes": "CSQU30543833", "12 bytes, a blank": "CSQU3054383 ", "a blank ahead": " CSQU3054383", "22 bytes": "CSQU3054383CSQU3054383",
		"a letter for the digit": "CSQU305438D", "a small one": "CSQU305438d", "a blank for it": "CSQU305438 ", "below 0": "CSQU305438/", "above 9": "CSQU305438:", "3 with the high bit": "CSQU305438\xb3", "0 for it": "CSQU3054380",
		"a digit of two bytes": "CSQU305438٣", "and 11 bytes": "CSQU30543٣", "A for 10": "AAAA000010A", ": for 10": "AAAA000010:",
	}
	for name, ten := range wrongTens() {
		all[name] = ten
		// The byte below 0 is what a careless sum takes for the digit -1.
		for _, last := range []string{"/", "0", "3", "9", "-1"} {
			if !isBoxName(ten + last) {
				all[fmt.Sprint(name, " and ", last)] = ten + last
			}
		}
	}
	delete(all, "11 bytes")
	for digit := range 10 {
		if digit != 3 {
			all[fmt.Sprint("the digit ", digit)] = fmt.Sprint("CSQU305438", digit)
		}
	}
	return all
}

// wrongBoxes pass one limit each, most of them by one.
func wrongBoxes() map[string]impl.Box {
	all := map[string]impl.Box{"empty": {}, "the name alone": {Name: "CSQU3054383"}}
	with := func(name string, change func(*impl.Box)) {
		b := impl.Box{Name: "CSQU3054383", Weight: 9, Class: 2, From: 3, To: 7}
		change(&b)
		all[name] = b
	}
	for name, text := range wrongBoxNames() {
		with("Name "+name, func(b *impl.Box) { b.Name = text })
	}
	for _, n := range []int{0, -1, 40001, math.MinInt, math.MaxInt} {
		with(fmt.Sprint("Weight ", n), func(b *impl.Box) { b.Weight = n })
	}
	for _, n := range []int{-1, 10, math.MinInt, math.MaxInt} {
		with(fmt.Sprint("Class ", n), func(b *impl.Box) { b.Class = n })
	}
	for _, ports := range [][2]int{
		{-1, 7}, {-1, 0}, {-2, -1}, {3, 20}, {19, 20}, {20, 21}, {7, 7}, {0, 0}, {19, 19}, {8, 7}, {19, 0}, {0, -1},
		{math.MinInt, 7}, {math.MaxInt, 7}, {3, math.MinInt}, {3, math.MaxInt}, {math.MinInt, math.MaxInt}, {math.MaxInt, math.MinInt},
	} {
		with(fmt.Sprint("ports ", ports), func(b *impl.Box) { b.From, b.To = ports[0], ports[1] })
	}
	return all
}

func wrongSpots() []impl.Spot {
	var all []impl.Spot
	for _, n := range []int{-1, -2, 20, 21, math.MinInt, math.MaxInt} {
		all = append(all, spot(n, 5, 5), spot(5, n, 5), spot(5, 5, n), spot(n, 0, 0), spot(19, n, 19), spot(n, n, n))
	}
	return all
}
