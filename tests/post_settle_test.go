package tests

import (
	"slices"
	"testing"

	"loop.example/g00059/impl"
)

// Promise 21, two parties: whatever the post loses, both have all in the end, once
// and in order.

func checkSettled(t *testing.T, a, b impl.Party, lost []bool, rounds int, wantA, wantB impl.Party, all bool) {
	t.Helper()
	gotA, gotB, gotAll := impl.Settle21(a, b, lost, rounds)
	if !sameParty(gotA, wantA) || !sameParty(gotB, wantB) || gotAll != all {
		t.Errorf("Settle21 %v %v %v %d: %v %v %v, want %v %v %v", a, b, lost, rounds, gotA, gotB, gotAll, wantA, wantB, all)
	}
}

// checkNotSettled has the zero values.
func checkNotSettled(t *testing.T, a, b impl.Party, lost []bool, rounds int) {
	t.Helper()
	checkSettled(t, a, b, lost, rounds, impl.Party{}, impl.Party{}, false)
}

func checkSettledAsTold(t *testing.T, a, b impl.Party, lost []bool, rounds int) {
	t.Helper()
	wantA, wantB, all := settle21Of(a, b, lost, rounds)
	checkSettled(t, a, b, lost, rounds, wantA, wantB, all)
}

func allLost(many int) []bool { return slices.Repeat([]bool{true}, many) }

func TestPartiesSettleByHand(t *testing.T) {
	one, two := []string{"hi"}, []string{"yo", "so"}
	a, b := party(one, 0, nil), party(two, 0, nil)
	checkSettled(t, a, b, nil, 0, a, b, false)
	checkSettled(t, a, b, nil, 1, party(one, 1, two), party(two, 0, one), true)
	checkSettled(t, a, b, nil, 2, party(one, 1, two), party(two, 2, one), true)
	checkSettled(t, a, b, toldOf("+"), 1, party(one, 0, two), party(two, 0, nil), false)
	checkSettled(t, a, b, toldOf("+"), 2, party(one, 1, two), party(two, 2, one), true)
	checkSettled(t, a, b, toldOf("-+"), 1, party(one, 1, nil), party(two, 0, one), false)
	checkSettled(t, a, b, toldOf("-++"), 1, party(one, 0, nil), party(two, 0, one), false)
	checkSettled(t, a, b, toldOf("--+"), 1, party(one, 1, two[:1]), party(two, 0, one), false)
	checkSettled(t, a, b, toldOf("-++--+"), 2, party(one, 1, two[:1]), party(two, 0, one), false)
	checkSettled(t, a, b, toldOf("-++++-"), 2, party(one, 1, nil), party(two, 0, one), false)
	checkSettled(t, impl.Party{}, impl.Party{}, nil, 0, impl.Party{}, impl.Party{}, true)
	checkSettled(t, impl.Party{}, impl.Party{}, allLost(9), 50, impl.Party{}, impl.Party{}, true)
	checkSettled(t, a, impl.Party{}, nil, 1, party(one, 1, nil), party(nil, 0, one), true)
	checkSettled(t, impl.Party{}, b, toldOf("-+"), 1, impl.Party{}, b, false)
	checkSettled(t, impl.Party{}, b, toldOf("++"), 1, party(nil, 0, two[1:1]), b, false)
	checkSettled(t, impl.Party{}, b, toldOf("+-+"), 1, party(nil, 0, two[:1]), b, false)
}

// One that has nothing to send again has a coin for what it sends even so.
func TestCoinsOfAcknowledgements(t *testing.T) {
	two := []string{"yo", "so"}
	done, waits := party(nil, 0, two), party(two, 0, nil)
	checkSettled(t, done, waits, toldOf("+"), 1, done, waits, true)
	checkSettled(t, done, waits, toldOf("+--"), 2, done, party(two, 2, nil), true)
	checkSettled(t, done, waits, toldOf("+--+"), 2, done, waits, true)
	checkSettled(t, done, waits, toldOf("+--+--+"), 3, done, waits, true)
	checkSettled(t, done, waits, toldOf("+--+--"), 3, done, party(two, 2, nil), true)
	checkSettled(t, waits, done, toldOf("--+"), 1, waits, done, true)
	checkSettled(t, waits, done, toldOf("++"), 1, party(two, 2, nil), done, true)
}

func TestPartiesSettleRounds(t *testing.T) {
	a, b := someParty(4, 0, 0), party(letters("t", 3), 0, nil)
	for _, rounds := range []int{-1 << 63, -50, -2, -1, 51, 52, 1000, 1<<63 - 1} {
		checkNotSettled(t, a, b, nil, rounds)
		checkNotSettled(t, a, b, allLost(3), rounds)
		checkNotSettled(t, impl.Party{}, impl.Party{}, nil, rounds)
	}
	for rounds := range 51 {
		checkSettledAsTold(t, a, b, nil, rounds)
		checkSettledAsTold(t, a, b, allLost(7*rounds), rounds)
		checkSettledAsTold(t, a, b, allLost(7*max(rounds, 1)-7), rounds)
		checkSettledAsTold(t, a, b, allLost(7*max(rounds, 1)-1), rounds)
		checkSettled(t, a, b, allLost(350), rounds, a, b, false)
		checkSettled(t, a, b, allLost(2000), rounds, a, b, false)
	}
	checkSettled(t, a, b, allLost(343), 50, party(a.Sent, 4, b.Sent), party(b.Sent, 0, a.Sent), true)
	checkSettled(t, a, b, allLost(344), 50, party(a.Sent, 0, b.Sent), b, false)
}

func TestPartiesSettleCoins(t *testing.T) {
	a, b := party(letters("a", 200), 0, nil), party(letters("b", 200), 0, nil)
	for _, coins := range []int{0, 1, 199, 200, 201, 399, 400, 401, 1999, 2000} {
		for _, rounds := range []int{0, 1, 2, 5, 6, 50} {
			checkSettledAsTold(t, a, b, allLost(coins), rounds)
			checkSettledAsTold(t, a, b, make([]bool, coins), rounds)
			checkSettledAsTold(t, impl.Party{}, impl.Party{}, allLost(coins), rounds)
			checkSettledAsTold(t, a, impl.Party{}, allLost(coins), rounds)
		}
	}
	checkSettled(t, a, b, allLost(2000), 5, a, b, false)
	checkSettled(t, a, b, allLost(2000), 6, party(a.Sent, 200, b.Sent), party(b.Sent, 0, a.Sent), true)
	for _, coins := range []int{2001, 2002, 5000} {
		for _, rounds := range []int{0, 1, 50} {
			checkNotSettled(t, a, b, make([]bool, coins), rounds)
			checkNotSettled(t, impl.Party{}, impl.Party{}, make([]bool, coins), rounds)
			checkNotSettled(t, impl.Party{}, impl.Party{}, allLost(coins), rounds)
		}
	}
}

func TestPartiesSettleOfThoseThatDoNotAgree(t *testing.T) {
	texts := letters("x", 4)
	a, b := party(texts, 2, nil), party(nil, 0, texts[:2])
	both := func(one, other impl.Party) {
		t.Helper()
		for _, rounds := range []int{0, 1, 50} {
			checkNotSettled(t, one, other, nil, rounds)
			checkNotSettled(t, other, one, nil, rounds)
			checkNotSettled(t, other, one, allLost(4), rounds)
		}
	}
	checkSettled(t, a, b, nil, 0, a, b, false)
	checkSettled(t, b, a, nil, 1, party(nil, 0, texts), party(texts, 2, nil), true)
	both(party(texts, 2, nil), party(nil, 0, texts[:1]))
	both(party(texts, 1, nil), impl.Party{})
	both(party(texts, 4, nil), party(nil, 0, texts[:3]))
	both(party(texts, 2, nil), party(nil, 0, texts[1:3]))
	both(party(texts, 2, nil), party(nil, 0, []string{"x1", "other"}))
	both(party(texts, 2, nil), party(nil, 0, []string{"x1", "x2", "x"}))
	both(party(texts, 2, nil), party(nil, 0, append(slices.Clone(texts), "x5")))
	both(party(texts, 0, nil), party(nil, 0, []string{""}))
	both(impl.Party{}, party(nil, 0, []string{""}))
	both(party(texts, 2, []string{"y"}), party(nil, 0, texts[:2]))
	both(party(texts, 2, []string{"y"}), party([]string{"z", "y"}, 0, texts[:2]))
	both(party(texts, 2, nil), party([]string{"y"}, 1, texts[:2]))
	for _, wrong := range wrongParties() {
		both(wrong, impl.Party{})
		both(wrong, party(wrong.Got, 0, wrong.Sent))
		both(wrong, party(wrong.Got, len(wrong.Got), wrong.Sent))
	}
}

func TestDrawnPartiesSettle(t *testing.T) {
	d := &draws{state: 216}
	ended := [2]int{}
	for range 3000 {
		a, b := drawnTwo(d)
		lost, rounds := drawnLost(d, []int{0, 20, 200, 2001}[d.below(4)]), []int{d.between(0, 3), d.between(0, 51)}[d.below(2)]
		if d.below(5) == 0 {
			spoilParty(d, &a)
		}
		if d.below(5) == 0 && len(b.Sent) > 0 {
			b.Sent[d.below(len(b.Sent))] += "!"
		}
		checkSettledAsTold(t, a, b, lost, rounds)
		_, _, all := impl.Settle21(a, b, lost, rounds)
		ended[map[bool]int{true: 1}[all]]++
	}
	if slices.Min(ended[:]) < 300 {
		t.Error("an end is seldom come to", ended)
	}
}

// isOnTheWay says that two parties stand between what they were and their end.
func isOnTheWay(p, other, was impl.Party) bool {
	return slices.Equal(p.Sent, was.Sent) && p.Acked >= was.Acked && p.Acked <= len(other.Got) && len(p.Got) >= len(was.Got) && agreeOf(p, other)
}

// Nothing is ever got twice or out of order; and one round without loss is enough
// whatever was lost ahead of it.
func TestBothHaveAllInTheEnd(t *testing.T) {
	d := &draws{state: 217}
	for range 2000 {
		a, b := drawnTwo(d)
		nowA, nowB, all := impl.Settle21(a, b, drawnLost(d, 2000), d.between(0, 50))
		if !isOnTheWay(nowA, nowB, a) || !isOnTheWay(nowB, nowA, b) || all != (len(nowA.Got) == len(b.Sent) && len(nowB.Got) == len(a.Sent)) {
			t.Fatal(a, b, nowA, nowB, all)
		}
		checkSettled(t, nowA, nowB, nil, 1, party(a.Sent, len(a.Sent), b.Sent), party(b.Sent, len(nowA.Got), a.Sent), true)
		checkSettled(t, nowA, nowB, nil, 2, party(a.Sent, len(a.Sent), b.Sent), party(b.Sent, len(b.Sent), a.Sent), true)
	}
}

// As many rounds as coins are enough: each wants one at least.
func TestRoundsEnough(t *testing.T) {
	d := &draws{state: 218}
	for range 500 {
		a, b := drawnTwo(d)
		lost := drawnLost(d, 98)
		checkSettled(t, a, b, lost, 50, party(a.Sent, len(a.Sent), b.Sent), party(b.Sent, ackedOf(a, b, lost), a.Sent), true)
	}
}

// ackedOf is how many of b's are known as come behind all rounds.
func ackedOf(a, b impl.Party, lost []bool) int {
	_, now, _ := settle21Of(a, b, lost, 50)
	return now.Acked
}

// Rounds are done one behind the other: some now and the rest later is the same.
func TestPartiesSettleStepByStep(t *testing.T) {
	d := &draws{state: 219}
	for range 500 {
		a, b := drawnTwo(d)
		nowA, nowB := a, b
		used, lost := 0, drawnLost(d, 300)
		for rounds := range 6 {
			checkSettled(t, a, b, lost, rounds, nowA, nowB, slices.Equal(nowA.Got, b.Sent) && slices.Equal(nowB.Got, a.Sent))
			for who := range 2 {
				sender, taker := &nowA, &nowB
				if who == 1 {
					sender, taker = taker, sender
				}
				for _, m := range first(impl.Again21(*sender, who)) {
					if used >= len(lost) || !lost[used] {
						*taker, _ = impl.Take21(*taker, 1-who, m)
					}
					used++
				}
			}
		}
	}
}
