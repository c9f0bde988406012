package tests

import (
	"testing"

	"loop.example/g00059/impl"
)

// Promise 21, what the Number of a post says: below 0 there is none, 0 is an
// acknowledgement without a text, and each from 1 on brings one.

func TestTakeToldOfEachNumber(t *testing.T) {
	for who := range 2 {
		p := party(letters("s", 4), 1, letters("g", 2))
		known := party(p.Sent, 3, p.Got)
		checkNoTake(t, p, who, post(1-who, -1, 3, ""))
		checkNoTake(t, p, who, post(1-who, -1, 3, "new"))
		checkNoTake(t, p, who, post(1-who, -1<<63, 3, "new"))
		checkTake(t, p, who, post(1-who, 0, 3, ""), known)
		checkTake(t, p, who, post(1-who, 0, 3, "new"), known)
		checkTake(t, p, who, post(1-who, 1, 3, "g1"), known)
		checkTake(t, p, who, post(1-who, 2, 3, "g2"), known)
		checkTake(t, p, who, post(1-who, 2, 3, "new"), known)
		checkTake(t, p, who, post(1-who, 3, 3, "new"), party(p.Sent, 3, []string{"g1", "g2", "new"}))
		checkTake(t, p, who, post(1-who, 3, 3, ""), party(p.Sent, 3, []string{"g1", "g2", ""}))
		checkTake(t, p, who, post(1-who, 4, 3, "new"), known)
		checkTake(t, p, who, post(1-who, 1<<63-1, 3, "new"), known)

		none := impl.Party{}
		checkNoTake(t, none, who, post(1-who, -1, 0, "new"))
		checkTake(t, none, who, post(1-who, 0, 0, "new"), none)
		checkTake(t, none, who, post(1-who, 1, 0, "new"), party(nil, 0, []string{"new"}))
		checkTake(t, none, who, post(1-who, 2, 0, "new"), none)
	}
}

func TestSendTellsTheNextNumber(t *testing.T) {
	for who := range 2 {
		p := party(nil, 0, letters("g", 3))
		for number := 1; number <= 200; number++ {
			now, m, code := impl.Send21(p, who, "new")
			if m != post(who, number, 3, "new") || code != impl.SendDone || len(now.Sent) != number {
				t.Fatal(who, number, now, m, code)
			}
			p = now
		}
		checkNoSend(t, p, who, "new", 2)
		checkSend(t, party([]string{"s1"}, 1, nil), who, "", party([]string{"s1", ""}, 1, nil), post(who, 2, 0, ""), 0)
	}
}

// A Number of 0 is told only where nothing must be sent again, and never with a
// text.
func TestAgainTellsEachNumber(t *testing.T) {
	for who := range 2 {
		checkAgain(t, party(nil, 0, letters("g", 2)), who, post(who, 0, 2, ""))
		checkAgain(t, party([]string{"s1"}, 0, nil), who, post(who, 1, 0, "s1"))
		checkAgain(t, party([]string{"s1"}, 1, nil), who, post(who, 0, 0, ""))
		three := []string{"s1", "", "s3"}
		checkAgain(t, party(three, 0, nil), who, post(who, 1, 0, "s1"), post(who, 2, 0, ""), post(who, 3, 0, "s3"))
		checkAgain(t, party(three, 1, nil), who, post(who, 2, 0, ""), post(who, 3, 0, "s3"))
		checkAgain(t, party(three, 2, nil), who, post(who, 3, 0, "s3"))
		checkAgain(t, party(three, 3, nil), who, post(who, 0, 0, ""))
	}
}

// Two that settle send an acknowledgement (0), the first (1), the next one, one too
// early (that ahead of it was lost) and one that came already (what told so was
// lost). None below 0 is ever sent.
func TestSettleByEachNumber(t *testing.T) {
	two := []string{"s1", "s2"}
	sender, taker := party(two, 0, nil), impl.Party{}
	checkSettled(t, sender, taker, nil, 1, party(two, 2, nil), party(nil, 0, two), true)
	checkSettled(t, sender, taker, toldOf("-+"), 1, party(two, 1, nil), party(nil, 0, two[:1]), false)
	checkSettled(t, sender, taker, toldOf("+-"), 1, sender, taker, false)
	checkSettled(t, sender, taker, toldOf("--+"), 1, sender, party(nil, 0, two), true)
	checkSettled(t, sender, taker, toldOf("--+---"), 2, party(two, 2, nil), party(nil, 0, two), true)
	checkSettled(t, sender, taker, toldOf("--+--+"), 2, sender, party(nil, 0, two), true)
	checkSettled(t, sender, taker, toldOf("-++--"), 2, party(two, 2, nil), party(nil, 0, two), true)
	checkSettled(t, sender, taker, toldOf("+--"), 2, party(two, 2, nil), party(nil, 0, two), true)
	checkSettled(t, taker, sender, toldOf("--+"), 1, party(nil, 0, two[:1]), sender, false)
	checkSettled(t, taker, sender, toldOf("-+-"), 1, taker, sender, false)
	checkSettled(t, taker, sender, toldOf("-+-"), 2, party(nil, 0, two), sender, true)
	checkSettled(t, taker, sender, nil, 2, party(nil, 0, two), party(two, 2, nil), true)
	checkSettled(t, impl.Party{}, impl.Party{}, nil, 1, impl.Party{}, impl.Party{}, true)
}
