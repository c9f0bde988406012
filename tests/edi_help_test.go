package tests

import (
	"slices"
	"strings"

	"loop.example/g00059/impl"
)

// Segments for the tests: helpers that make and draw segments and texts, and what
// each function should tell, worked out in another way.

type segs = []impl.Seg

type segParts = [][]string

func seg(tag string, list ...[]string) impl.Seg { return impl.Seg{Tag: tag, Parts: list} }

// part is a part of a segment.
func part(texts ...string) []string { return texts }

// lone is a list of one segment that has one part of one text.
func lone(text string) segs { return segs{seg("ABC", part(text))} }

func sameSegs(a, b segs) bool {
	return slices.EqualFunc(a, b, func(s, other impl.Seg) bool {
		return s.Tag == other.Tag && slices.EqualFunc(s.Parts, other.Parts, slices.Equal)
	})
}

func cloneSegs(list segs) segs {
	var own segs
	for _, s := range list {
		own = append(own, seg(s.Tag, cloneParts(s.Parts)...))
	}
	return own
}

func cloneParts(list segParts) segParts {
	var own segParts
	for _, texts := range list {
		own = append(own, slices.Clone(texts))
	}
	return own
}

// segOfLength is a segment that is written in so many bytes, from 4 on.
func segOfLength(bytes int) impl.Seg {
	s := seg("LEN")
	for left := bytes - 4; left > 0; left -= 41 {
		s.Parts = append(s.Parts, part(strings.Repeat("x", min(left, 41)-1)))
	}
	return s
}

// segsOfLength are segments that are written in so many bytes together.
func segsOfLength(bytes int) segs {
	var list segs
	for ; bytes > 800; bytes -= 400 {
		list = append(list, segOfLength(400))
	}
	return append(list, segOfLength(bytes))
}

func isTagOf(tag string) bool {
	return len(tag) == 3 && strings.Trim(tag, "ABCDEFGHIJKLMNOPQRSTUVWXYZ") == ""
}

func segTextOkOf(text string) bool {
	isNot := func(c byte) bool { return c < 32 || c > 126 }
	return len(text) <= 40 && !slices.ContainsFunc([]byte(text), isNot)
}

func segOkOf(s impl.Seg) bool {
	if !isTagOf(s.Tag) || len(s.Parts) > 20 {
		return false
	}
	for _, texts := range s.Parts {
		if len(texts) == 0 || len(texts) > 10 {
			return false
		}
		for _, text := range texts {
			if !segTextOkOf(text) {
				return false
			}
		}
	}
	return true
}

// writtenOf joins the texts with what must stand ahead of a mark put in.
func writtenOf(list segs) string {
	bare := strings.NewReplacer("+", "?+", ":", "?:", "'", "?'", "?", "??")
	told := ""
	for _, s := range list {
		told += s.Tag
		for _, texts := range s.Parts {
			own := make([]string, len(texts))
			for i, text := range texts {
				own[i] = bare.Replace(text)
			}
			told += "+" + strings.Join(own, ":")
		}
		told += "'"
	}
	return told
}

func segsOkOf(list segs) bool {
	for _, s := range list[:min(len(list), 61)] {
		if !segOkOf(s) {
			return false
		}
	}
	return len(list) <= 60 && len(writtenOf(list)) <= 2000
}

// fault is a code and where it was found. Of two at one place the one with the
// lesser rank counts.
type fault struct {
	at, rank, code int
}

// cutOf cuts a text at the first mark that ends a segment: what is ahead of it,
// and whether there is one. What stands behind a `?` is no mark.
func cutOf(text string) (string, bool) {
	for at := 0; at < len(text); at++ {
		switch text[at] {
		case '?':
			at++
		case '\'':
			return text[:at], true
		}
	}
	return text, false
}

// segFaultsOf are the faults in a segment's parts: the text from its first mark on,
// up to what ends it, which begins at a place.
func segFaultsOf(text string, begin int) []fault {
	var all []fault
	parts, texts, bytes := 0, 0, 0
	for at := 0; at < len(text); at++ {
		c, place := text[at], begin+at
		switch {
		case c == '+':
			parts, texts, bytes = parts+1, 1, 0
			if parts > 20 {
				all = append(all, fault{place, 2, 4})
			}
		case c == ':':
			texts, bytes = texts+1, 0
			if texts > 10 {
				all = append(all, fault{place, 2, 4})
			}
		default:
			bytes++
			if bytes > 40 {
				all = append(all, fault{place, 2, 4})
			}
			isLost := c == '?' && (at+1 == len(text) || !strings.Contains("+:'?", text[at+1:at+2]))
			if c < 32 || c > 126 || isLost {
				all = append(all, fault{place, 1, 3})
			} else if c == '?' {
				at++
			}
		}
	}
	return all
}

// firstFault is the one at the first place, and of two there the one that counts.
func firstFault(all []fault) fault {
	return slices.MinFunc(all, func(a, b fault) int {
		if a.at != b.at {
			return a.at - b.at
		}
		return a.rank - b.rank
	})
}

// readSegsOf cuts the text into segments, and these at their marks.
func readSegsOf(text string) (segs, int, int) {
	if len(text) > 2000 {
		return nil, 1, 0
	}
	var list segs
	for at := 0; at < len(text); {
		body, isWhole := cutOf(text[at:])
		var all []fault
		if len(list) == 60 {
			all = append(all, fault{at, 2, 4})
			if c := text[at]; c < 32 || c > 126 || c == '?' && (at+1 == len(text) || !strings.Contains("+:'?", text[at+1:at+2])) {
				all = append(all, fault{at, 1, 3})
			}
		} else if hasMark := len(body) > 3 && body[3] == '+' || len(body) == 3 && isWhole; !hasMark || !isTagOf(body[:3]) {
			all = append(all, fault{at, 0, 2})
		} else {
			all = segFaultsOf(body[3:], at+3)
		}
		if !isWhole {
			all = append(all, fault{len(text), 3, 5})
		}
		if len(all) > 0 {
			worst := firstFault(all)
			return nil, worst.code, worst.at
		}
		list = append(list, segFrom(body))
		at += len(body) + 1
	}
	return list, 0, 0
}

// segFrom reads a segment that has no fault, by marks that no text can have.
func segFrom(body string) impl.Seg {
	hidden := strings.NewReplacer("?+", "\x01", "?:", "\x02", "?'", "\x03", "??", "\x04").Replace(body)
	shown := strings.NewReplacer("\x01", "+", "\x02", ":", "\x03", "'", "\x04", "?")
	s := seg(body[:3])
	for _, texts := range strings.Split(hidden, "+")[1:] {
		var own []string
		for _, text := range strings.Split(texts, ":") {
			own = append(own, shown.Replace(text))
		}
		s.Parts = append(s.Parts, own)
	}
	return s
}

func drawnSegText(d *draws, most int) string {
	const bytes = " ~aZ09+:'?.+:'?"
	text := make([]byte, d.below(most+1))
	for i := range text {
		text[i] = bytes[d.below(len(bytes))]
		if d.below(4) == 0 {
			text[i] = byte(d.between(32, 126))
		}
	}
	return string(text)
}

func drawnTag(d *draws) string {
	return string([]byte{byte(d.between('A', 'Z')), byte(d.between('A', 'Z')), byte(d.between('A', 'Z'))})
}

func drawnSegParts(d *draws, most, texts, bytes int) segParts {
	list := make(segParts, d.below(most+1))
	for i := range list {
		list[i] = make([]string, d.between(1, texts))
		for k := range list[i] {
			list[i][k] = drawnSegText(d, bytes)
		}
	}
	return list
}

// drawnSegs are few great segments or many small ones.
func drawnSegs(d *draws) segs {
	list := make(segs, d.below([]int{2, 5, 12, 61}[d.below(4)]))
	for i := range list {
		list[i] = seg(drawnTag(d), drawnSegParts(d, 20/(len(list)/3+1), 10/(len(list)/2+1)+1, 40/(len(list)/3+1))...)
	}
	return list
}

// spoilText makes a text wrong, most often.
func spoilText(d *draws, text string) string {
	const bytes = "+:'?A\x1f\x7f\xff"
	for range d.between(1, 2) {
		at, c := d.below(len(text)+1), bytes[d.below(len(bytes))]
		switch d.below(4) {
		case 0:
			text = text[:at] + string([]byte{c}) + text[at:]
		case 1:
			text = text[:at]
		case 2:
			text = text[:at] + text[min(at+1, len(text)):]
		case 3:
			if at < len(text) {
				text = withByte(text, at, c)
			}
		}
	}
	return text
}

// drawnEdi is a text of the right length or a bit more, with faults or without.
func drawnEdi(d *draws) string {
	text := writtenOf(drawnSegs(d))
	text = text[:min(len(text), d.between(1990, 2010))]
	if d.below(3) > 0 {
		return spoilText(d, text)
	}
	return text
}

// wrongSegsByOne are each wrong by one thing.
func wrongSegsByOne() map[string]impl.Seg {
	many := func(count int, text string) []string { return slices.Repeat([]string{text}, count) }
	wrong := map[string]impl.Seg{
		"no Tag":          {},
		"a Tag of one":    seg("A"),
		"a Tag of two":    seg("AB"),
		"a Tag of four":   seg("ABCD"),
		"a great Tag":     seg(strings.Repeat("A", 1000)),
		"21 parts":        seg("ABC", slices.Repeat(segParts{{"x"}}, 21)...),
		"no text":         seg("ABC", part()),
		"no text, nil":    seg("ABC", nil),
		"11 texts":        seg("ABC", many(11, "x")),
		"11 bare texts":   seg("ABC", many(11, "")),
		"41 bytes":        seg("ABC", part(strings.Repeat("x", 41))),
		"41 marks":        seg("ABC", part(strings.Repeat("?", 41))),
		"no text, second": seg("ABC", part("x"), part()),
		"41, second":      seg("ABC", part("x", strings.Repeat("x", 41))),
		"41, last":        seg("ABC", part("x"), part("x", "y"), part("z", strings.Repeat("x", 41))),
	}
	for _, c := range []byte{0, 10, 13, 31, 127, 128, 255} {
		wrong["a text with byte "+string('0'+rune(c))] = seg("ABC", part("ab"+string([]byte{c})))
	}
	for at := range 3 {
		for _, c := range []byte("a z@[`{0 9+:'?-_\x00\x1f\x7f\x80\xc1\xff") {
			wrong["a Tag with byte "+string('0'+rune(c))+" at "+string('0'+rune(at))] = seg(withByte("ABC", at, c))
		}
	}
	return wrong
}
