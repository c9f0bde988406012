package tests

import (
	"slices"
	"testing"

	"loop.example/g00059/impl"
)

// Promise 21, posts: what is sent, taken and sent again.

func checkParty(t *testing.T, p impl.Party, want bool) {
	t.Helper()
	if got := impl.PartyOk(p); got != want {
		t.Errorf("PartyOk %v: %v, want %v", p, got, want)
	}
}

func checkSend(t *testing.T, p impl.Party, who int, text string, want impl.Party, wantPost impl.Post, code int) {
	t.Helper()
	got, gotPost, gotCode := impl.Send21(p, who, text)
	if !sameParty(got, want) || gotPost != wantPost || gotCode != code {
		t.Errorf("Send21 %v %d %v: %v %v %d, want %v %v %d", p, who, text, got, gotPost, gotCode, want, wantPost, code)
	}
}

// checkNoSend refuses, with the party as it was.
func checkNoSend(t *testing.T, p impl.Party, who int, text string, code int) {
	t.Helper()
	checkSend(t, p, who, text, p, impl.Post{}, code)
}

func checkTake(t *testing.T, p impl.Party, who int, m impl.Post, want impl.Party) {
	t.Helper()
	if got, ok := impl.Take21(p, who, m); !sameParty(got, want) || !ok {
		t.Errorf("Take21 %v %d %v: %v %v, want %v", p, who, m, got, ok, want)
	}
}

func checkNoTake(t *testing.T, p impl.Party, who int, m impl.Post) {
	t.Helper()
	if got, ok := impl.Take21(p, who, m); !sameParty(got, p) || ok {
		t.Errorf("Take21 %v %d %v: %v %v, and is refused", p, who, m, got, ok)
	}
}

func checkAgain(t *testing.T, p impl.Party, who int, want ...impl.Post) {
	t.Helper()
	if got, ok := impl.Again21(p, who); !slices.Equal(got, want) || !ok {
		t.Errorf("Again21 %v %d: %v %v, want %v", p, who, got, ok, want)
	}
}

func checkNoAgain(t *testing.T, p impl.Party, who int) {
	t.Helper()
	if got, ok := impl.Again21(p, who); len(got) != 0 || ok {
		t.Errorf("Again21 %v %d: %v %v of what is not so", p, who, got, ok)
	}
}

func checkTakeAsTold(t *testing.T, p impl.Party, who int, m impl.Post) {
	t.Helper()
	if want, ok := takeOf(p, who, m); ok {
		checkTake(t, p, who, m, want)
	} else {
		checkNoTake(t, p, who, m)
	}
}

func checkPartyAsTold(t *testing.T, p impl.Party, who int, text string) {
	t.Helper()
	checkParty(t, p, partyOkOf(p))
	want, wantPost, code := sendOf(p, who, text)
	checkSend(t, p, who, text, want, wantPost, code)
	if list, ok := againOf(p, who); ok {
		checkAgain(t, p, who, list...)
	} else {
		checkNoAgain(t, p, who)
	}
}

func TestPostsByHand(t *testing.T) {
	none := impl.Party{}
	ann, first, code := impl.Send21(none, 0, "hi")
	if !sameParty(ann, party([]string{"hi"}, 0, nil)) || first != post(0, 1, 0, "hi") || code != impl.SendDone {
		t.Error(ann, first, code)
	}
	checkSend(t, ann, 0, "", party([]string{"hi", ""}, 0, nil), post(0, 2, 0, ""), 0)
	bob, took := impl.Take21(none, 1, first)
	if !sameParty(bob, party(nil, 0, []string{"hi"})) || !took {
		t.Error(bob, took)
	}
	checkTake(t, bob, 1, first, bob)
	checkTake(t, bob, 1, post(0, 3, 0, "late"), bob)
	checkTake(t, bob, 1, post(0, 2, 0, "next"), party(nil, 0, []string{"hi", "next"}))
	checkAgain(t, bob, 1, post(1, 0, 1, ""))
	checkTake(t, ann, 0, post(1, 0, 1, ""), party([]string{"hi"}, 1, nil))
	checkAgain(t, ann, 0, post(0, 1, 0, "hi"))
	checkSend(t, bob, 1, "yo", party([]string{"yo"}, 0, []string{"hi"}), post(1, 1, 1, "yo"), 0)
	checkTake(t, ann, 0, post(1, 1, 1, "yo"), party([]string{"hi"}, 1, []string{"yo"}))
	checkAgain(t, none, 0, post(0, 0, 0, ""))
	checkAgain(t, none, 1, post(1, 0, 0, ""))
}

func TestPartyOk(t *testing.T) {
	checkParty(t, impl.Party{}, true)
	checkParty(t, party([]string{}, 0, []string{}), true)
	for _, many := range []int{0, 1, 199, 200, 201, 202, 1000} {
		checkParty(t, someParty(many, 0, 0), many <= 200)
		checkParty(t, someParty(0, 0, many), many <= 200)
		checkParty(t, someParty(many, many, 7), many <= 200)
		checkParty(t, someParty(7, 7, many), many <= 200)
		for acked := -2; acked <= 3; acked++ {
			checkParty(t, someParty(many, many+acked, 5), many <= 200 && many+acked >= 0 && acked <= 0)
			checkParty(t, someParty(many, acked, 5), many <= 200 && isBetween(acked, 0, many))
			checkParty(t, someParty(0, acked, many), many <= 200 && acked == 0)
		}
	}
	for _, bytes := range []int{0, 1, 39, 40, 41, 42, 1000} {
		for at := range 3 {
			texts := letters("x", 3)
			texts[at] = ofBytes(bytes)
			checkParty(t, party(texts, 0, nil), bytes <= 40)
			checkParty(t, party(texts, 3, letters("g", 2)), bytes <= 40)
			checkParty(t, party(nil, 0, texts), bytes <= 40)
			checkParty(t, party(letters("s", 2), 1, texts), bytes <= 40)
		}
	}
	checkParty(t, party([]string{"\x00\xff", "+:'?\n", "", "ä"}, 4, []string{"\x1f"}), true)
}

// What is wrong is told ahead of what is full.
func TestSend(t *testing.T) {
	for _, many := range []int{0, 1, 5, 198, 199, 200} {
		p := someParty(many, many/2, 4)
		for who := -2; who <= 3; who++ {
			for _, bytes := range []int{0, 1, 39, 40, 41, 42, 500} {
				text := ofBytes(bytes)
				if !isBetween(who, 0, 1) || bytes > 40 {
					checkNoSend(t, p, who, text, 1)
				} else if many == 200 {
					checkNoSend(t, p, who, text, 2)
				} else {
					checkSend(t, p, who, text, party(append(letters("s", many), text), many/2, letters("g", 4)), post(who, many+1, 4, text), 0)
				}
			}
		}
	}
	checkSend(t, someParty(0, 0, 200), 1, "\xff'", party([]string{"\xff'"}, 0, letters("g", 200)), post(1, 1, 200, "\xff'"), 0)
	for name, p := range wrongParties() {
		if partyOkOf(p) {
			t.Error(name, "is right")
		}
		for who := -1; who <= 2; who++ {
			checkNoSend(t, p, who, "x", 1)
			checkNoSend(t, p, who, "", 1)
			checkNoSend(t, p, who, ofBytes(41), 1)
		}
	}
}

func TestTakeFaults(t *testing.T) {
	p := someParty(5, 2, 3)
	for who := range 2 {
		right := post(1-who, 4, 3, "new")
		checkTake(t, p, who, right, party(p.Sent, 3, append(letters("g", 3), "new")))
		for _, from := range []int{-2, -1, who, 2, 3, 1 << 62} {
			m := right
			m.From = from
			checkNoTake(t, p, who, m)
		}
		for _, number := range []int{-1, -2, -4, -1 << 63} {
			m := right
			m.Number = number
			checkNoTake(t, p, who, m)
		}
		for _, ack := range []int{-1 << 63, -2, -1, 6, 7, 1<<63 - 1} {
			for _, number := range []int{0, 1, 4, 9} {
				checkNoTake(t, p, who, post(1-who, number, ack, "new"))
			}
		}
		for _, number := range []int{0, 1, 3, 4, 5, 300} {
			checkNoTake(t, p, who, post(1-who, number, 3, ofBytes(41)))
			checkTakeAsTold(t, p, who, post(1-who, number, 3, ofBytes(40)))
		}
		for name, wrong := range wrongParties() {
			for _, m := range []impl.Post{{From: 1 - who}, post(1-who, 1, 0, "x"), post(1-who, len(wrong.Got)+1, 0, "x")} {
				if _, ok := takeOf(wrong, who, m); ok {
					t.Error(name, "is right")
				}
				checkNoTake(t, wrong, who, m)
			}
		}
	}
	for _, who := range []int{-1, 2, 3, -1 << 63} {
		for _, from := range []int{0, 1, 1 - who, who} {
			checkNoTake(t, p, who, post(from, 4, 3, "new"))
			checkNoTake(t, impl.Party{}, who, post(from, 0, 0, ""))
		}
	}
}

func TestTakeNumbers(t *testing.T) {
	for _, got := range []int{0, 1, 2, 7, 198, 199, 200} {
		p := someParty(3, 1, got)
		for _, number := range []int{0, 1, 2, got - 1, got, got + 1, got + 2, 199, 200, 201, 202, 1<<63 - 1} {
			if number < 0 {
				continue
			}
			want := p
			if number == got+1 && got < 200 {
				want = party(p.Sent, 1, append(letters("g", got), "new"))
			}
			checkTake(t, p, 0, post(1, number, 1, "new"), want)
			checkTake(t, p, 1, post(0, number, 1, "new"), want)
			want.Acked = 3
			checkTake(t, p, 0, post(1, number, 3, "new"), want)
		}
	}
	checkTake(t, impl.Party{}, 0, post(1, 1, 0, ""), party(nil, 0, []string{""}))
	checkTake(t, impl.Party{}, 0, post(1, 0, 0, "new"), impl.Party{})
}

// What was told as come stays so, whatever a post that is late says.
func TestTakeAcks(t *testing.T) {
	for _, sent := range []int{0, 1, 4, 200} {
		for _, acked := range []int{0, 1, 2, sent - 1, sent} {
			for _, ack := range []int{-1, 0, 1, 2, 3, acked - 1, acked, acked + 1, sent - 1, sent, sent + 1} {
				p := someParty(sent, acked, 2)
				if !isBetween(acked, 0, sent) || !isBetween(ack, 0, sent) {
					checkNoTake(t, p, 1, post(0, 3, ack, "new"))
					continue
				}
				p.Acked = max(acked, ack)
				checkTake(t, someParty(sent, acked, 2), 1, post(0, 0, ack, ""), p)
				checkTake(t, someParty(sent, acked, 2), 1, post(0, 2, ack, "old"), p)
				p.Got = append(letters("g", 2), "new")
				checkTake(t, someParty(sent, acked, 2), 1, post(0, 3, ack, "new"), p)
			}
		}
	}
}

func TestAgain(t *testing.T) {
	for who := range 2 {
		for _, sent := range []int{0, 1, 2, 5, 199, 200} {
			for _, acked := range []int{0, 1, sent - 2, sent - 1, sent} {
				if !isBetween(acked, 0, sent) {
					continue
				}
				p := someParty(sent, acked, 6)
				var want posts
				for number := acked + 1; number <= sent; number++ {
					want = append(want, post(who, number, 6, p.Sent[number-1]))
				}
				if acked == sent {
					want = posts{post(who, 0, 6, "")}
				}
				checkAgain(t, p, who, want...)
			}
		}
		checkAgain(t, party([]string{"", "x"}, 0, nil), who, post(who, 1, 0, ""), post(who, 2, 0, "x"))
		checkAgain(t, someParty(0, 0, 200), who, post(who, 0, 200, ""))
		for _, wrong := range wrongParties() {
			checkNoAgain(t, wrong, who)
		}
	}
	for _, who := range []int{-1, 2, 3, -1 << 63, 1<<63 - 1} {
		checkNoAgain(t, impl.Party{}, who)
		checkNoAgain(t, someParty(5, 2, 1), who)
		for _, wrong := range wrongParties() {
			checkNoAgain(t, wrong, who)
		}
	}
}

func TestDrawnPosts(t *testing.T) {
	d := &draws{state: 213}
	for range 5000 {
		p := drawnParty(d)
		who := d.between(-1, 2)
		checkPartyAsTold(t, p, who, drawnSegText(d, 42))
		for range 6 {
			checkTakeAsTold(t, p, d.below(2), drawnPost(d, p))
			checkTakeAsTold(t, p, who, drawnPost(d, p))
		}
	}
}

// What is sent is at the end of what must be sent again, as it was sent.
func TestWhatIsSentIsSentAgain(t *testing.T) {
	d := &draws{state: 214}
	for range 1000 {
		p, other := drawnTwo(d)
		now, sent, code := impl.Send21(p, 0, drawnSegText(d, 40))
		if code != impl.SendDone {
			continue
		}
		list, _ := impl.Again21(now, 0)
		if list[len(list)-1] != sent || len(list) != len(now.Sent)-now.Acked {
			t.Fatal(p, sent, list)
		}
		for _, m := range list {
			other, _ = impl.Take21(other, 1, m)
		}
		if !slices.Equal(other.Got, now.Sent) || other.Acked != len(now.Got) {
			t.Fatal(p, now, other)
		}
	}
}

// Posts of any time, in any order and however often: what was got is always a
// beginning of what was sent, and never less than it was.
func TestPostsInAnyOrder(t *testing.T) {
	d := &draws{state: 215}
	for range 300 {
		sent := drawnLetters(d, 12)
		var all posts
		p := impl.Party{}
		for _, text := range sent {
			var m impl.Post
			p, m, _ = impl.Send21(p, 1, text)
			all = append(all, m, m, m)
		}
		all = append(all, post(1, 0, 0, ""), post(1, 0, 0, ""))
		other := impl.Party{}
		for _, m := range shuffled(d, all) {
			now, ok := impl.Take21(other, 0, m)
			if got := len(now.Got); !ok || got < len(other.Got) || got > len(sent) || !slices.Equal(now.Got, sent[:got]) {
				t.Fatal(other, m, now, ok)
			}
			other = now
		}
		for _, m := range first(impl.Again21(p, 1)) {
			other, _ = impl.Take21(other, 0, m)
		}
		if !slices.Equal(other.Got, sent) {
			t.Fatal(sent, other)
		}
	}
}
