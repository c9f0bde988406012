package tests

import (
	"math"
	"slices"
	"strconv"
	"strings"

	"loop.example/g00059/impl"
)

// Posts for the tests: helpers that make and draw parties and posts, and what each
// function should tell, worked out in another way.

type posts = []impl.Post

// letters are messages that are all unlike, of so many bytes at least.
func letters(name string, many int) []string {
	var list []string
	for i := range many {
		list = append(list, name+strconv.Itoa(i+1))
	}
	return list
}

func party(sent []string, acked int, got []string) impl.Party {
	return impl.Party{Sent: sent, Acked: acked, Got: got}
}

// someParty has sent and got so many.
func someParty(sent, acked, got int) impl.Party {
	return party(letters("s", sent), acked, letters("g", got))
}

func ofBytes(many int) string { return strings.Repeat("m", many) }

func post(from, number, ack int, text string) impl.Post {
	return impl.Post{From: from, Number: number, Ack: ack, Text: text}
}

func sameParty(a, b impl.Party) bool {
	return slices.Equal(a.Sent, b.Sent) && a.Acked == b.Acked && slices.Equal(a.Got, b.Got)
}

func cloneParty(p impl.Party) impl.Party {
	return party(slices.Clone(p.Sent), p.Acked, slices.Clone(p.Got))
}

func longestOf(texts []string) int {
	most := 0
	for _, text := range texts {
		most = max(most, len(text))
	}
	return most
}

func partyOkOf(p impl.Party) bool {
	return max(len(p.Sent), len(p.Got)) <= 200 && longestOf(slices.Concat(p.Sent, p.Got)) <= 40 && isBetween(p.Acked, 0, len(p.Sent))
}

func sendOf(p impl.Party, who int, text string) (impl.Party, impl.Post, int) {
	if !partyOkOf(p) || !isBetween(who, 0, 1) || len(text) > 40 {
		return p, impl.Post{}, 1
	}
	if len(p.Sent) == 200 {
		return p, impl.Post{}, 2
	}
	return party(slices.Concat(p.Sent, []string{text}), p.Acked, p.Got), post(who, len(p.Sent)+1, len(p.Got), text), 0
}

func takeOf(p impl.Party, who int, m impl.Post) (impl.Party, bool) {
	isRight := partyOkOf(p) && isBetween(who, 0, 1) && who+m.From == 1 && m.Number >= 0 && isBetween(m.Ack, 0, len(p.Sent)) && len(m.Text) <= 40
	if !isRight {
		return p, false
	}
	now := cloneParty(p)
	if m.Ack > now.Acked {
		now.Acked = m.Ack
	}
	if m.Number-1 == len(now.Got) && m.Number <= 200 {
		now.Got = append(now.Got, m.Text)
	}
	return now, true
}

func againOf(p impl.Party, who int) (posts, bool) {
	if !partyOkOf(p) || !isBetween(who, 0, 1) {
		return nil, false
	}
	var list posts
	for i, text := range p.Sent {
		if i >= p.Acked {
			list = append(list, post(who, i+1, len(p.Got), text))
		}
	}
	if list == nil {
		list = posts{post(who, 0, len(p.Got), "")}
	}
	return list, true
}

// agreeOf says whether one got a beginning of what the other sent, and that one
// knows of no more.
func agreeOf(p, other impl.Party) bool {
	for i, text := range p.Got {
		if i >= len(other.Sent) || other.Sent[i] != text {
			return false
		}
	}
	return other.Acked <= len(p.Got)
}

// settle21Of goes by numbers alone: what each has is a beginning of what the other
// one sent.
func settle21Of(a, b impl.Party, lost []bool, rounds int) (impl.Party, impl.Party, bool) {
	if !partyOkOf(a) || !partyOkOf(b) || !agreeOf(a, b) || !agreeOf(b, a) || len(lost) > 2000 || !isBetween(rounds, 0, 50) {
		return impl.Party{}, impl.Party{}, false
	}
	sent := [2]int{len(a.Sent), len(b.Sent)}
	acked := [2]int{a.Acked, b.Acked}
	got := [2]int{len(a.Got), len(b.Got)}
	used := 0
	for turn := range 2 * rounds {
		who := turn % 2
		first, last := acked[who]+1, sent[who]
		if first > last {
			first, last = 0, 0
		}
		for number := first; number <= last; number++ {
			used++
			if used <= len(lost) && lost[used-1] {
				continue
			}
			acked[1-who] = max(acked[1-who], got[who])
			if number == got[1-who]+1 {
				got[1-who]++
			}
		}
	}
	return party(a.Sent, acked[0], b.Sent[:got[0]]), party(b.Sent, acked[1], a.Sent[:got[1]]), got == [2]int{sent[1], sent[0]}
}

func drawnLetters(d *draws, most int) []string {
	var list []string
	for range d.below(most + 1) {
		list = append(list, drawnSegText(d, 40))
	}
	return list
}

func drawnMost(d *draws) int { return []int{0, 3, 8, 200}[d.below(4)] }

func drawnParty(d *draws) impl.Party {
	p := party(drawnLetters(d, drawnMost(d)), 0, drawnLetters(d, drawnMost(d)))
	p.Acked = d.between(0, len(p.Sent))
	if d.below(4) == 0 {
		spoilParty(d, &p)
	}
	return p
}

// spoilParty makes a party wrong by one thing.
func spoilParty(d *draws, p *impl.Party) {
	lists := []*[]string{&p.Sent, &p.Got}
	list := lists[d.below(2)]
	switch d.below(4) {
	case 0:
		p.Acked = len(p.Sent) + 1
	case 1:
		p.Acked = -1
	case 2:
		*list = append(*list, ofBytes(41))
	case 3:
		*list = append(*list, letters("x", 201)...)
	}
}

// drawnTwo are two parties that agree.
func drawnTwo(d *draws) (impl.Party, impl.Party) {
	a, b := party(drawnLetters(d, drawnMost(d)), 0, nil), party(drawnLetters(d, drawnMost(d)), 0, nil)
	a.Got, b.Got = slices.Clone(b.Sent[:d.between(0, len(b.Sent))]), slices.Clone(a.Sent[:d.between(0, len(a.Sent))])
	a.Acked, b.Acked = d.between(0, len(b.Got)), d.between(0, len(a.Got))
	return a, b
}

// drawnLost are so many coins, few or many of them true.
func drawnLost(d *draws, most int) []bool {
	list := make([]bool, d.between(0, most))
	some := d.between(0, 4)
	for i := range list {
		list[i] = d.below(4) < some
	}
	return list
}

func drawnPost(d *draws, p impl.Party) impl.Post {
	near := func(n int) int { return n + d.between(-2, 2) }
	return post(d.below(2), []int{0, near(len(p.Got) + 1), near(1), d.between(-1, 210)}[d.below(4)], []int{near(p.Acked), near(len(p.Sent)), near(0), d.between(0, len(p.Sent))}[d.below(4)], drawnSegText(d, 41))
}

// wrongParties are each wrong by one thing.
func wrongParties() map[string]impl.Party {
	many := letters("x", 201)
	long := []string{"x", ofBytes(41), "y"}
	return map[string]impl.Party{
		"Acked below 0":           someParty(3, -1, 2),
		"Acked below 0 of none":   someParty(0, -1, 0),
		"Acked far below 0":       someParty(3, math.MinInt, 2),
		"Acked above all":         someParty(3, 4, 2),
		"Acked above none":        someParty(0, 1, 5),
		"Acked far above":         someParty(3, math.MaxInt, 2),
		"many sent":               party(many, 3, letters("g", 2)),
		"many got":                party(letters("s", 3), 3, many),
		"very many sent":          party(letters("x", 5000), 0, nil),
		"very many got":           party(nil, 0, letters("x", 5000)),
		"a long one sent":         party(long, 1, nil),
		"a long one got":          party(nil, 0, long),
		"a long one sent, first":  party(long[1:], 1, nil),
		"a long one got, first":   party(nil, 0, long[1:]),
		"a long one sent, last":   party(long[:2], 1, nil),
		"a long one got, last":    party(nil, 0, long[:2]),
		"a very long one sent":    party([]string{ofBytes(100000)}, 0, nil),
		"a long one sent of many": party(append(letters("x", 199), ofBytes(41)), 0, nil),
	}
}
