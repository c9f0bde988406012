package tests

import (
	"slices"
	"strings"
	"testing"

	"loop.example/g00059/impl"
)

// Promise 21, texts: each code is found where it is.

func checkRead(t *testing.T, text string, want segs, code, at int) {
	t.Helper()
	got, gotCode, gotAt := impl.ReadSegs(text)
	if !sameSegs(got, want) || gotCode != code || gotAt != at {
		t.Errorf("ReadSegs %q: %q %d %d, want %q %d %d", text, got, gotCode, gotAt, want, code, at)
	}
}

func checkFault(t *testing.T, text string, code, at int) {
	t.Helper()
	checkRead(t, text, nil, code, at)
}

func checkReadAsTold(t *testing.T, text string) {
	t.Helper()
	want, code, at := readSegsOf(text)
	checkRead(t, text, want, code, at)
}

// checkLastingFault has the fault whatever stands behind the text.
func checkLastingFault(t *testing.T, text string, code, at int) {
	t.Helper()
	for _, behind := range []string{"", "'", "+", ":", "?", "A", "ABC'", "+x'ABC'", "\x1f", "\xff", "a?x", "''", strings.Repeat("x", 1000)} {
		checkFault(t, text+behind, code, at)
	}
}

func TestReadByHand(t *testing.T) {
	checkRead(t, "", nil, 0, 0)
	checkRead(t, "UNT'", segs{seg("UNT")}, 0, 0)
	checkRead(t, "UNT+'", segs{seg("UNT", part(""))}, 0, 0)
	checkRead(t, "UNT+:'", segs{seg("UNT", part("", ""))}, 0, 0)
	checkRead(t, "UNT++'", segs{seg("UNT", part(""), part(""))}, 0, 0)
	checkRead(t, "UNH+a:b+c'UNT+?+?:?'??'", segs{seg("UNH", part("a", "b"), part("c")), seg("UNT", part("+:'?"))}, 0, 0)
	checkRead(t, "AAA'ZZZ'MID+ ~'", segs{seg("AAA"), seg("ZZZ"), seg("MID", part(" ~"))}, 0, 0)
	checkRead(t, "UNH+UNT'UNT+'", segs{seg("UNH", part("UNT")), seg("UNT", part(""))}, 0, 0)
}

func TestReadLong(t *testing.T) {
	for _, bytes := range []int{1999, 2000} {
		list := segsOfLength(bytes)
		checkRead(t, writtenOf(list), list, 0, 0)
	}
	for _, text := range []string{writtenOf(segsOfLength(2001)), writtenOf(segsOfLength(2002)), strings.Repeat("x", 2001), strings.Repeat("\xff", 2001), strings.Repeat("ABC'", 501), strings.Repeat("ABC'", 500) + "A", strings.Repeat("?", 100000), writtenOf(segsOfLength(2000)) + "A"} {
		checkFault(t, text, 1, 0)
	}
	checkFault(t, "ABC+"+strings.Repeat("x:", 998), 4, 4+19)
	checkFault(t, strings.Repeat("x", 2000), 2, 0)
	whole := writtenOf(segsOfLength(2000))
	checkFault(t, whole[:1999]+"?", 3, 1999)
	checkFault(t, whole[:1999]+"x", 5, 2000)
	checkFault(t, whole[:1999]+":", 5, 2000)
	checkFault(t, whole[:1999]+"+", 4, 1999)
}

// Wherever a text ends, it ends within a Tag, or behind it.
func TestReadTextsThatEnd(t *testing.T) {
	for text, want := range map[string][2]int{
		"A": {2, 0}, "AB": {2, 0}, "ABC": {2, 0},
		"ABC+": {5, 4}, "ABC+x": {5, 5}, "ABC+x:": {5, 6}, "ABC+x:y": {5, 7}, "ABC+x+": {5, 6}, "ABC+:": {5, 5}, "ABC++": {5, 5},
		"ABC+?": {3, 4}, "ABC+x?": {3, 5}, "ABC+x:?": {3, 6}, "ABC+x+?": {3, 6}, "ABC+??": {5, 6}, "ABC+???": {3, 6}, "ABC+?'": {5, 6}, "ABC+x?'": {5, 7}, "ABC+?+": {5, 6}, "ABC+?:": {5, 6},
		"?": {2, 0}, "A?": {2, 0}, "ABC?": {2, 0},
	} {
		checkFault(t, text, want[0], want[1])
		for _, ahead := range []string{"ABC'", "UNH+a:b+?''", "ABC'ABC+x'"} {
			checkFault(t, ahead+text, want[0], want[1]+len(ahead))
		}
	}
	whole := "UNH+a?'b:??'BGM'UNT++x:'"
	ends := map[int]int{0: 0, 12: 0, 16: 0, len(whole): 0}
	tags := map[int]int{1: 0, 2: 0, 3: 0, 13: 12, 14: 12, 15: 12, 17: 16, 18: 16, 19: 16}
	bare := map[int]int{6: 5, 10: 9}
	for end := range len(whole) + 1 {
		text := whole[:end]
		if _, isRight := ends[end]; isRight {
			_, code, at := impl.ReadSegs(text)
			if code != 0 || at != 0 {
				t.Errorf("%q: %d %d", text, code, at)
			}
		} else if at, isTag := tags[end]; isTag {
			checkFault(t, text, 2, at)
		} else if at, isBare := bare[end]; isBare {
			checkFault(t, text, 3, at)
		} else {
			checkFault(t, text, 5, end)
		}
	}
}

// Where a segment begins is told, not which byte of its Tag is wrong: also where
// that is one that stands nowhere.
func TestReadTags(t *testing.T) {
	aheads := []string{"", "ABC'", "UNH+x:y?''", strings.Repeat("ABC'", 59)}
	for c := range 256 {
		for at := range 3 {
			tag := withByte("ABC", at, byte(c))
			for _, ahead := range aheads {
				if isBetween(c, 'A', 'Z') {
					checkReadAsTold(t, ahead+tag+"'")
				} else {
					checkLastingFault(t, ahead+tag, 2, len(ahead))
				}
			}
		}
		for _, ahead := range aheads {
			if c == '\'' {
				checkReadAsTold(t, ahead+"ABC'")
			} else if c != '+' {
				checkLastingFault(t, ahead+"ABC"+string([]byte{byte(c)}), 2, len(ahead))
			}
		}
	}
	for _, text := range []string{"'", "+", ":", "''", "+'", "ABC:x'", "ABC?+x'", "ABC?''", "ABCD'", "ABCD+x'", " ABC'", "abc'", "A'", "AB'", "AB+'", "'ABC'", "\nABC'"} {
		checkLastingFault(t, text, 2, 0)
		checkLastingFault(t, "ABC+x'"+text, 2, 6)
	}
	checkFault(t, "ABC'\n", 2, 4)
	checkFault(t, "ABC' ", 2, 4)
}

func TestReadBytes(t *testing.T) {
	for c := range 256 {
		one := string([]byte{byte(c)})
		for _, ahead := range []string{"ABC+", "ABC+x", "ABC+x:", "ABC+x:y", "ABC+x+", "ABC'ABC+?'", "ABC+??"} {
			isMark := strings.Contains("+:'?", one) && c < 128
			if !isBetween(c, 32, 126) {
				checkLastingFault(t, ahead+one, 3, len(ahead))
				checkLastingFault(t, ahead+"?"+one, 3, len(ahead))
				checkLastingFault(t, ahead+"??"+one, 3, len(ahead)+2)
			} else if !isMark {
				checkLastingFault(t, ahead+"?"+one, 3, len(ahead))
				checkFault(t, ahead+one, 5, len(ahead)+1)
			} else {
				checkFault(t, ahead+"?"+one, 5, len(ahead)+2)
			}
			checkReadAsTold(t, ahead+one+"'")
			checkReadAsTold(t, ahead+"?"+one+"'")
			checkReadAsTold(t, ahead+"?"+one+"z'ABC'")
		}
	}
	for text, want := range map[string]string{"?+": "+", "?:": ":", "?'": "'", "??": "?", "????": "??", "???+": "?+"} {
		checkRead(t, "ABC+"+text+"'", lone(want), 0, 0)
	}
	checkRead(t, "ABC+?++'", segs{seg("ABC", part("+"), part(""))}, 0, 0)
}

func TestReadParts(t *testing.T) {
	for _, texts := range []string{"", "x", "xy", "x:y", ":", "?+", strings.Repeat("x", 40)} {
		one := "+" + texts
		for _, ahead := range []string{"", "UNH+x'"} {
			twenty := ahead + "ABC" + strings.Repeat(one, 20)
			for _, many := range []int{19, 20} {
				text := ahead + "ABC" + strings.Repeat(one, many) + "'"
				checkReadAsTold(t, text)
				if _, code, _ := impl.ReadSegs(text); code != 0 {
					t.Errorf("%q: %d", text, code)
				}
			}
			checkLastingFault(t, twenty+"+", 4, len(twenty))
			checkLastingFault(t, twenty+"+"+texts, 4, len(twenty))
			checkFault(t, twenty, 5, len(twenty))
			checkReadAsTold(t, twenty+"'ABC"+strings.Repeat(one, 20)+"'")
		}
	}
}

func TestReadTexts(t *testing.T) {
	for _, one := range []string{"", "x", "??", strings.Repeat("x", 40)} {
		for _, ahead := range []string{"ABC+", "ABC+x+", "ABC+x:y+", "ABC+:::::::::+", "ABC'UNH+::+"} {
			ten := ahead + strings.Repeat(one+":", 9) + one
			checkReadAsTold(t, ten+"'")
			checkReadAsTold(t, ten+"+:::::::::'")
			if _, code, _ := impl.ReadSegs(ten + "'"); code != 0 {
				t.Errorf("%q: %d", ten, code)
			}
			checkLastingFault(t, ten+":", 4, len(ten))
			checkFault(t, ten, 5, len(ten))
			checkLastingFault(t, ten+"+"+strings.Repeat(":", 10), 4, len(ten)+10)
		}
	}
}

// The 41st byte of a text is at its `?` where it has one; where that is wrong, it
// is so at the same place.
func TestReadBytesOfATextThatIsFull(t *testing.T) {
	for _, ahead := range []string{"ABC+", "ABC+x:", "ABC+x+", "ABC+" + strings.Repeat("y", 40) + ":", "ABC+" + strings.Repeat("y", 40) + "+", "ABC'ABC+"} {
		for _, full := range []string{strings.Repeat("x", 40), strings.Repeat("??", 40), strings.Repeat("?'", 40), strings.Repeat("x", 39) + "?+", "?:" + strings.Repeat("x", 39)} {
			text := ahead + full
			checkFault(t, text, 5, len(text))
			for _, mark := range []string{"+", ":", "'"} {
				checkReadAsTold(t, text+mark)
				checkReadAsTold(t, text+mark+"ABC'")
			}
			if _, code, _ := impl.ReadSegs(text + "'"); code != 0 {
				t.Errorf("%q: %d", text, code)
			}
			for _, over := range []string{"x", " ", "~", "A", "??", "?+", "?:", "?'"} {
				checkLastingFault(t, text+over, 4, len(text))
			}
			for _, over := range []string{"\x1f", "\x7f", "\xff", "\x00", "?x", "? ", "?\x1f", "?\x7f", "?\xff", "?A"} {
				checkLastingFault(t, text+over, 3, len(text))
			}
			checkFault(t, text+"?", 3, len(text))
			short := text[:len(text)-2]
			checkReadAsTold(t, short+"x'")
			checkReadAsTold(t, short+"xx'")
			checkReadAsTold(t, short+"xxx'")
		}
	}
}

// Where a 61st segment begins there are too many, whatever its Tag is. A byte that
// stands nowhere is told ahead of that, as at any one place.
func TestReadManySegs(t *testing.T) {
	for _, one := range []string{"ABC'", "ABC+'", "ABC+x:y'", "ABC+?''"} {
		full := strings.Repeat(one, 60)
		for _, many := range []int{58, 59, 60} {
			text := strings.Repeat(one, many)
			checkReadAsTold(t, text)
			if _, code, _ := impl.ReadSegs(text); code != 0 {
				t.Errorf("%d of %q: %d", many, one, code)
			}
		}
		for _, over := range []string{"ABC'", "ABC+", "ABC", "A", "abc", "+", ":", "'", " ", "~", "ABC+\x1f", "A\x1f", "?+", "?:", "?'", "??", "ab?x", "ABCD", "ABC:"} {
			checkLastingFault(t, full+over, 4, len(full))
		}
		for _, over := range []string{"\x1f", "\x7f", "\xff", "\x00", "?x", "? ", "?\x1f", "?\xff"} {
			checkLastingFault(t, full+over, 3, len(full))
		}
		checkFault(t, full+"?", 3, len(full))
		if one == "ABC'" {
			checkFault(t, full[:len(full)-1], 2, len(full)-4)
		} else {
			checkFault(t, full[:len(full)-1], 5, len(full)-1)
		}
	}
}

// Of two faults the first counts, whatever the other one is.
func TestReadTheFirstOfTwo(t *testing.T) {
	faults := map[string][2]int{
		"abc'":                            {2, 0},
		"ABC:'":                           {2, 0},
		"ABC+\x1f'":                       {3, 4},
		"ABC+x?x'":                        {3, 5},
		"ABC" + strings.Repeat("+", 21):   {4, 23},
		"ABC+" + strings.Repeat(":", 10):  {4, 13},
		"ABC+" + strings.Repeat("x", 41):  {4, 44},
		"ABC+" + strings.Repeat("??", 41): {4, 84},
	}
	for one, want := range faults {
		for other := range faults {
			checkFault(t, one+other, want[0], want[1])
			checkFault(t, one+"'"+other, want[0], want[1])
			checkFault(t, "UNH+x'"+one+other, want[0], want[1]+6)
		}
		checkLastingFault(t, one, want[0], want[1])
	}
}

// ediTexts are all texts of so many bytes at most, of some bytes.
func ediTexts(most int, bytes string) []string {
	all := []string{""}
	for from := 0; most > 0; most-- {
		end := len(all)
		for ; from < end; from++ {
			for i := range len(bytes) {
				all = append(all, all[from]+bytes[i:i+1])
			}
		}
	}
	return all
}

func TestReadAllShortTexts(t *testing.T) {
	for _, text := range ediTexts(6, "A+:'?\x1f") {
		checkReadAsTold(t, text)
		checkReadAsTold(t, "ABC+"+text)
		checkReadAsTold(t, "ABC"+text+"'")
	}
	for _, text := range ediTexts(4, "+:'?x\x7f") {
		checkReadAsTold(t, "ABC+x"+strings.Repeat("+x", 18)+text)
		checkReadAsTold(t, "ABC+x"+strings.Repeat(":x", 8)+text)
		checkReadAsTold(t, "ABC+"+strings.Repeat("x", 39)+text)
		checkReadAsTold(t, strings.Repeat("ABC'", 58)+"ABC+"+text+"ABC'")
		checkReadAsTold(t, strings.Repeat("ABC'", 59)+"ABC"+text)
		checkReadAsTold(t, strings.Repeat("ABC'", 60)+text)
	}
}

func TestReadDrawnTexts(t *testing.T) {
	d := &draws{state: 211}
	var found [6]int
	for range 20000 {
		text := drawnEdi(d)
		checkReadAsTold(t, text)
		_, code, _ := impl.ReadSegs(text)
		found[code]++
	}
	if slices.Min(found[:]) < 100 {
		t.Error("a code is seldom found", found)
	}
}

// Up to where a fault is found, the text is well, or ends too soon.
func TestReadUpToTheFault(t *testing.T) {
	d := &draws{state: 212}
	for range 10000 {
		text := drawnEdi(d)
		_, code, at := impl.ReadSegs(text)
		if code == impl.EdiWell || code == impl.EdiLong {
			continue
		}
		_, ahead, place := impl.ReadSegs(text[:at])
		isEnd := ahead == impl.EdiEnd && place == at
		if code == impl.EdiTag && ahead != impl.EdiWell || ahead != impl.EdiWell && !isEnd {
			t.Fatalf("%q: %d %d, and ahead of it %d %d", text, code, at, ahead, place)
		}
	}
}
