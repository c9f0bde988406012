package tests

import (
	"slices"
	"strings"
	"testing"

	"loop.example/g00059/impl"
)

// Promise 21, segments: what is written is read as itself.

func checkSegs(t *testing.T, list segs, want bool) {
	t.Helper()
	if got := impl.SegsOk(list); got != want {
		t.Errorf("SegsOk %q: %v, want %v", list, got, want)
	}
	text, ok := impl.WriteSegs(list)
	if !want {
		if text != "" || ok {
			t.Errorf("WriteSegs %q: %q %v of what is not so", list, text, ok)
		}
		return
	}
	if text != writtenOf(list) || !ok {
		t.Errorf("WriteSegs %q: %q %v, want %q", list, text, ok, writtenOf(list))
	}
	checkRead(t, text, list, 0, 0)
}

func checkWritten(t *testing.T, list segs, want string) {
	t.Helper()
	if text, ok := impl.WriteSegs(list); text != want || !ok {
		t.Errorf("WriteSegs %q: %q %v, want %q", list, text, ok, want)
	}
	checkSegs(t, list, true)
}

func TestMessageConstants(t *testing.T) {
	limits := []int{impl.MaxEdi, impl.MaxSegs, impl.MaxPost}
	if !slices.Equal(limits, []int{2000, 60, 200}) {
		t.Error(limits)
	}
	codes := []int{impl.EdiWell, impl.EdiLong, impl.EdiTag, impl.EdiByte, impl.EdiMany, impl.EdiEnd}
	if !slices.Equal(codes, []int{0, 1, 2, 3, 4, 5}) {
		t.Error(codes)
	}
	codes = []int{impl.SendDone, impl.SendBad, impl.SendFull}
	if !slices.Equal(codes, []int{0, 1, 2}) {
		t.Error(codes)
	}
}

func TestSegsByHand(t *testing.T) {
	checkWritten(t, nil, "")
	checkWritten(t, segs{}, "")
	checkWritten(t, segs{seg("UNT")}, "UNT'")
	checkWritten(t, segs{{Tag: "UNT", Parts: segParts{}}}, "UNT'")
	checkWritten(t, lone(""), "ABC+'")
	checkWritten(t, lone("a b"), "ABC+a b'")
	checkWritten(t, segs{seg("ABC", part("", ""))}, "ABC+:'")
	checkWritten(t, segs{seg("ABC", part(""), part(""))}, "ABC++'")
	checkWritten(t, segs{seg("UNH", part("1", "2"), part("3")), seg("BGM"), seg("UNT", part("x", "", "y"))}, "UNH+1:2+3'BGM'UNT+x::y'")
	checkWritten(t, lone("+"), "ABC+?+'")
	checkWritten(t, lone(":"), "ABC+?:'")
	checkWritten(t, lone("'"), "ABC+?''")
	checkWritten(t, lone("?"), "ABC+??'")
	checkWritten(t, segs{seg("ABC", part("a+b:c", "d'e?f"), part("?'"))}, "ABC+a?+b?:c:d?'e??f+???''")
	checkWritten(t, segs{seg("AZM", part(" ~"))}, "AZM+ ~'")
}

func TestTags(t *testing.T) {
	for a := byte('A'); a <= 'Z'; a++ {
		for at := range 3 {
			checkSegs(t, segs{seg(withByte("MMM", at, a))}, true)
		}
	}
	for c := range 256 {
		isCapital := isBetween(c, 'A', 'Z')
		for at := range 3 {
			checkSegs(t, segs{seg(withByte("ABC", at, byte(c)), part("x"))}, isCapital)
		}
	}
	for tag, want := range map[string]bool{"": false, "A": false, "AB": false, "ABC": true, "ABCD": false, "ABCDEF": false, "ÄB": false, "A B": false} {
		checkSegs(t, segs{seg(tag)}, want)
		checkSegs(t, segs{seg("ABC"), seg(tag)}, want)
	}
}

func TestBytesOfTexts(t *testing.T) {
	for c := range 256 {
		isRight := isBetween(c, 32, 126)
		for _, text := range []string{string([]byte{byte(c)}), string([]byte{'a', byte(c)}), string([]byte{byte(c), 'a', 'b'})} {
			checkSegs(t, lone(text), isRight)
			checkSegs(t, segs{seg("ABC"), seg("ABC", part("x"), part("y", text))}, isRight)
		}
	}
}

func TestLimitsOfSegs(t *testing.T) {
	for _, many := range []int{0, 1, 2, 19, 20, 21, 22, 40} {
		checkSegs(t, segs{seg("ABC", slices.Repeat(segParts{{""}}, many)...)}, many <= 20)
		checkSegs(t, segs{seg("ABC", slices.Repeat(segParts{{"x", "y"}}, many)...)}, many <= 20)
	}
	for _, many := range []int{0, 1, 2, 9, 10, 11, 12} {
		isRight := isBetween(many, 1, 10)
		texts := slices.Repeat([]string{"x"}, many)
		checkSegs(t, segs{seg("ABC", texts)}, isRight)
		checkSegs(t, segs{seg("ABC", part("x"), texts)}, isRight)
		checkSegs(t, segs{seg("ABC", make([]string, many), part("x"))}, isRight)
	}
	for _, many := range []int{0, 1, 39, 40, 41, 42, 300} {
		for _, c := range []string{" ", "x", "~", "+", ":", "'", "?"} {
			text := strings.Repeat(c, many)
			checkSegs(t, lone(text), many <= 40)
			checkSegs(t, segs{seg("ABC", part("x"), part("y", text))}, many <= 40)
		}
	}
	for _, many := range []int{0, 1, 59, 60, 61, 62, 400} {
		checkSegs(t, slices.Repeat(segs{seg("ABC")}, many), many <= 60)
		checkSegs(t, slices.Repeat(segs{seg("ABC", part("x"))}, many), many <= 60)
	}
}

// A text of bytes that all want one ahead may be as long as another one.
func TestLengthOfSegs(t *testing.T) {
	for _, bytes := range []int{4, 5, 44, 45, 46, 86, 87, 1999, 2000, 2001, 2002, 4000, 20000} {
		list := segsOfLength(bytes)
		if got := len(writtenOf(list)); got != bytes {
			t.Fatal("the test's own segments have", got, "bytes, not", bytes)
		}
		checkSegs(t, list, bytes <= 2000)
	}
	for _, c := range []string{"+", ":", "'", "?", " ", ".", "!", "~", "\""} {
		isMark := strings.Contains("+:'?", c)
		for _, bytes := range []int{1998, 1999, 2000} {
			list := segsOfLength(bytes)
			first, last := list[0].Parts, list[len(list)-1].Parts
			texts := last[len(last)-1]
			texts[0] = c + texts[0][1:]
			checkSegs(t, list, bytes < 2000 || !isMark)
			first[0][0] = first[0][0][:39] + c
			checkSegs(t, list, bytes < 1999 || !isMark)
		}
	}
	full := slices.Repeat([]string{strings.Repeat("?", 40)}, 10)
	checkSegs(t, segs{seg("ABC", full, full)}, true)
	checkSegs(t, segs{seg("ABC", full, full, full)}, false)
	checkSegs(t, slices.Repeat(segs{seg("ABC", slices.Repeat(segParts{full}, 20)...)}, 60), false)
}

func TestSegsWrongByOne(t *testing.T) {
	right := seg("UNH", part("x", "y"), part("z"))
	checkSegs(t, segs{right, right, right}, true)
	for name, wrong := range wrongSegsByOne() {
		if segOkOf(wrong) {
			t.Error(name, "is right")
		}
		checkSegs(t, segs{wrong}, false)
		for at := range 3 {
			list := segs{right, right, right}
			list[at] = wrong
			checkSegs(t, list, false)
		}
		checkSegs(t, append(slices.Repeat(segs{right}, 59), wrong), false)
		checkSegs(t, append(slices.Repeat(segs{right}, 60), wrong), false)
	}
}

func TestDrawnSegsAreReadAsThemselves(t *testing.T) {
	d := &draws{state: 21}
	for range 3000 {
		list := drawnSegs(d)
		checkSegs(t, list, segsOkOf(list))
		if len(list) > 0 {
			list[d.below(len(list))] = seg("ABC", part("x"), part())
			checkSegs(t, list, false)
		}
	}
}

// No two lists are written alike: what is read well is written as it was.
func TestWhatIsReadIsWrittenAsItWas(t *testing.T) {
	d := &draws{state: 121}
	well := 0
	for range 20000 {
		text := drawnEdi(d)
		list, code, at := impl.ReadSegs(text)
		if code != impl.EdiWell {
			continue
		}
		well++
		if again, ok := impl.WriteSegs(list); again != text || !ok || at != 0 {
			t.Fatalf("%q is read and written as %q %v, %d", text, again, ok, at)
		}
	}
	if well < 1000 {
		t.Error("few texts are well:", well)
	}
}
