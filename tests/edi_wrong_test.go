package tests

import (
	"fmt"
	"slices"
	"strings"
	"testing"

	"loop.example/g00059/impl"
)

// Promise 24: each function of messages answers, and writes into nothing that it is
// given.

func TestPostsOfGreatNumbers(t *testing.T) {
	for _, n := range greatNumbers() {
		for _, acked := range greatNumbers() {
			p := someParty(3, acked, 2)
			checkPartyAsTold(t, p, n, "x")
			checkPartyAsTold(t, p, 1, "x")
			checkPartyAsTold(t, impl.Party{Acked: acked}, 0, "x")
			checkTakeAsTold(t, someParty(3, 1, 2), 0, post(1, n, acked, "x"))
			checkTakeAsTold(t, someParty(3, 1, 2), n, post(acked, 3, 1, "x"))
			checkTakeAsTold(t, p, 1, post(0, n, 2, "x"))
			checkTakeAsTold(t, p, 1, post(n, 3, 2, "x"))
			checkTakeAsTold(t, p, 1, post(0, 3, n, "x"))
			checkSettledAsTold(t, p, party(letters("g", 3), n, nil), allLost(2), 1)
			checkSettledAsTold(t, someParty(3, 0, 2), party(letters("g", 3), acked, nil), nil, n)
		}
	}
}

// Long lists and texts are refused without being gone through for long.
func TestMessagesOfLongLists(t *testing.T) {
	long := strings.Repeat("ABC'", 10000000)
	checkFault(t, long, 1, 0)
	checkSegs(t, make(segs, 1000000), false)
	checkSegs(t, segs{{Tag: "ABC", Parts: make(segParts, 1000000)}}, false)
	checkSegs(t, segs{seg("ABC", make([]string, 1000000))}, false)
	checkSegs(t, segs{seg("ABC", part(long))}, false)
	checkSegs(t, segs{seg(long)}, false)
	checkNoSend(t, impl.Party{}, 0, long, 1)
	checkNoTake(t, impl.Party{}, 0, post(1, 1, 0, long))
	checkParty(t, party([]string{long}, 0, nil), false)
	checkNoAgain(t, party(make([]string, 1000000), 0, nil), 0)
	checkNoTake(t, party(nil, 0, make([]string, 1000000)), 0, post(1, 0, 0, ""))
	checkNotSettled(t, party(make([]string, 1000000), 0, nil), impl.Party{}, nil, 1)
	checkNotSettled(t, impl.Party{}, impl.Party{}, make([]bool, 10000000), 1)
}

// errand is all that the functions of the chapter take.
type errand struct {
	list   segs
	text   string
	p      impl.Party
	other  impl.Party
	who    int
	m      impl.Post
	lost   []bool
	rounds int
}

func errandsOfAllKinds() []errand {
	d := &draws{state: 220}
	full := party(letters("s", 200), 0, letters("g", 200))
	all := []errand{{}, {segsOfLength(2000), writtenOf(segsOfLength(2000)), full, party(full.Got, 0, full.Sent), 0, post(1, 201, 200, "x"), allLost(2000), 50}, {segsOfLength(2001), writtenOf(segsOfLength(2001)), party(nil, 0, full.Got), party(full.Got, 3, nil), 1, post(0, 201, 0, "x"), allLost(2001), 50}}
	for range 200 {
		a, b := drawnTwo(d)
		if d.below(4) == 0 {
			spoilParty(d, &b)
		}
		all = append(all, errand{drawnSegs(d), drawnEdi(d), a, b, d.between(0, 1), drawnPost(d, a), drawnLost(d, 300), d.between(0, 6)})
	}
	for _, wrong := range wrongSegsByOne() {
		all = append(all, errand{list: segs{seg("ABC", part("x")), wrong}})
	}
	for _, wrong := range wrongParties() {
		all = append(all, errand{p: wrong, text: "x", m: post(1, 1, 0, "x"), rounds: 1})
	}
	return all
}

func roomySegs(list segs) segs {
	list = cloneSegs(list)
	for i := range list {
		for k := range list[i].Parts {
			list[i].Parts[k] = spare(list[i].Parts[k], "behind")
		}
		list[i].Parts = spare(list[i].Parts, part("behind"))
	}
	return spare(list, seg("BHD"))
}

func clippedSegs(list segs) segs {
	list = slices.Clip(cloneSegs(list))
	for i := range list {
		for k := range list[i].Parts {
			list[i].Parts[k] = slices.Clip(list[i].Parts[k])
		}
		list[i].Parts = slices.Clip(list[i].Parts)
	}
	return list
}

// roomyErrand has right things behind each list, that would make a difference.
func roomyErrand(e errand) errand {
	e.list = roomySegs(e.list)
	e.p = party(spare(e.p.Sent, "behind"), e.p.Acked, spare(e.p.Got, "behind"))
	e.other = party(spare(e.other.Sent, "behind"), e.other.Acked, spare(e.other.Got, "behind"))
	e.lost = spare(e.lost, true)
	return e
}

func clippedErrand(e errand) errand {
	e.list = clippedSegs(e.list)
	e.p = party(slices.Clip(slices.Clone(e.p.Sent)), e.p.Acked, slices.Clip(slices.Clone(e.p.Got)))
	e.other = party(slices.Clip(slices.Clone(e.other.Sent)), e.other.Acked, slices.Clip(slices.Clone(e.other.Got)))
	e.lost = slices.Clip(slices.Clone(e.lost))
	return e
}

// wholeSegs tells the list and what lies behind each of its lists.
func wholeSegs(list segs) string {
	told := fmt.Sprint(len(list))
	for _, s := range list[:cap(list)] {
		told += fmt.Sprint(" ", s.Tag, len(s.Parts))
		for _, texts := range s.Parts[:cap(s.Parts)] {
			told += fmt.Sprintf(" %d %q", len(texts), texts[:cap(texts)])
		}
	}
	return told
}

func wholeParty(p impl.Party) string {
	return fmt.Sprintf("%d %d %d %q %q", p.Acked, len(p.Sent), len(p.Got), p.Sent[:cap(p.Sent)], p.Got[:cap(p.Got)])
}

func wholeErrand(e errand) string {
	return fmt.Sprint(wholeSegs(e.list), wholeParty(e.p), wholeParty(e.other), len(e.lost), e.lost[:cap(e.lost)])
}

func overwriteSegs(list segs) {
	for _, s := range list[:cap(list)] {
		for _, texts := range s.Parts[:cap(s.Parts)] {
			overwriteTexts(texts)
		}
		clear(s.Parts[:cap(s.Parts)])
	}
	clear(list[:cap(list)])
}

func overwriteParty(p impl.Party) {
	overwriteTexts(p.Sent)
	overwriteTexts(p.Got)
}

// allOfErrand are the answers of all functions, as texts.
func allOfErrand(e errand) []string {
	text, isWritten := impl.WriteSegs(e.list)
	list, code, at := impl.ReadSegs(e.text)
	again, isParty := impl.Again21(e.p, e.who)
	sent, m, how := impl.Send21(e.p, e.who, e.text)
	taken, isTaken := impl.Take21(e.p, e.who, e.m)
	a, b, isAll := impl.Settle21(e.p, e.other, e.lost, e.rounds)
	return []string{
		fmt.Sprint(impl.SegsOk(e.list), text, isWritten),
		fmt.Sprintf("%q %d %d", list, code, at),
		fmt.Sprint(impl.PartyOk(e.p), again, isParty),
		fmt.Sprint(sent, m, how, taken, isTaken),
		fmt.Sprint(a, b, isAll),
	}
}

func TestMessageArgumentsAreNotChanged(t *testing.T) {
	for _, plain := range errandsOfAllKinds() {
		e := roomyErrand(plain)
		before := wholeErrand(e)
		got := allOfErrand(e)
		if wholeErrand(e) != before {
			t.Fatal("written into", plain)
		}
		if !slices.Equal(got, allOfErrand(clippedErrand(plain))) {
			t.Fatal("what lies behind a list is looked at", plain)
		}
	}
}

// checkPartiesNew writes over an answer: neither what was handed in, nor another
// answer, nor another list of it may change by it.
func checkPartiesNew(t *testing.T, name string, plain errand, ask func(errand) []impl.Party) {
	t.Helper()
	e := roomyErrand(plain)
	before := wholeErrand(e)
	earlier, got := ask(e), ask(e)
	want := ask(e)
	for i := range want {
		want[i] = cloneParty(want[i])
	}
	for i, p := range got {
		overwriteParty(p)
		if !sameParties(earlier, want) || wholeErrand(e) != before {
			t.Fatal(name, "shares memory with what was handed in, or with another answer", plain)
		}
		for _, other := range got[i+1:] {
			checkNotOverwritten(t, name, other)
		}
	}
	for i, p := range earlier {
		overwriteTexts(p.Sent)
		checkNotOverwritten(t, name, impl.Party{Got: p.Got})
		earlier[i].Sent = want[i].Sent
	}
	overwriteErrand(e)
	if !sameParties(earlier, want) || !sameParties(ask(roomyErrand(plain)), want) {
		t.Fatal(name, "keeps memory", plain)
	}
}

func overwriteErrand(e errand) {
	overwriteSegs(e.list)
	overwriteParty(e.p)
	overwriteParty(e.other)
	clear(e.lost[:cap(e.lost)])
}

func sameParties(a, b []impl.Party) bool { return slices.EqualFunc(a, b, sameParty) }

func checkNotOverwritten(t *testing.T, name string, p impl.Party) {
	t.Helper()
	if slices.Contains(p.Sent[:cap(p.Sent)], "overwritten") || slices.Contains(p.Got[:cap(p.Got)], "overwritten") {
		t.Fatal(name, "has two lists that share memory")
	}
}

func TestPartiesAreNewMemory(t *testing.T) {
	for _, plain := range errandsOfAllKinds() {
		for _, text := range []string{"x", plain.text, ofBytes(41)} {
			checkPartiesNew(t, "Send21", plain, func(e errand) []impl.Party {
				p, _, _ := impl.Send21(e.p, e.who, text)
				return []impl.Party{p}
			})
		}
		for _, m := range []impl.Post{plain.m, {}, post(1-plain.who, len(plain.p.Got)+1, plain.p.Acked, "x")} {
			checkPartiesNew(t, "Take21", plain, func(e errand) []impl.Party {
				p, _ := impl.Take21(e.p, e.who, m)
				return []impl.Party{p}
			})
		}
		for _, rounds := range []int{plain.rounds, 0, 1} {
			checkPartiesNew(t, "Settle21", plain, func(e errand) []impl.Party {
				a, b, _ := impl.Settle21(e.p, e.other, e.lost, rounds)
				return []impl.Party{a, b}
			})
		}
	}
}

// Parties may be handed in that share their lists: no answer does.
func TestPartiesThatShareAList(t *testing.T) {
	shared := letters("x", 6)
	p := party(shared[:4], 2, shared[:3])
	other := party(shared[:5], 1, shared[:2])
	plain := letters("x", 6)
	now, _, _ := impl.Send21(p, 0, "new")
	taken, _ := impl.Take21(p, 0, post(1, 4, 3, "new"))
	a, b, all := impl.Settle21(p, other, allLost(1), 2)
	if !slices.Equal(shared, plain) || !all {
		t.Error("written into", shared, a, b, all)
	}
	for _, got := range []impl.Party{now, taken, a, b} {
		overwriteTexts(got.Sent)
		checkNotOverwritten(t, "one", impl.Party{Got: got.Got})
		overwriteTexts(got.Got)
	}
	if !slices.Equal(shared, plain) {
		t.Error("an answer shares memory", shared)
	}
}

func TestPostsAreNewMemory(t *testing.T) {
	for _, plain := range errandsOfAllKinds() {
		e := roomyErrand(plain)
		before := wholeErrand(e)
		earlier, got := first(impl.Again21(e.p, e.who)), first(impl.Again21(e.p, e.who))
		want := slices.Clone(got)
		overwriteAll(got, post(-9, -9, -9, "overwritten"))
		if wholeErrand(e) != before || !slices.Equal(earlier, want) {
			t.Fatal("Again21 shares memory", plain)
		}
		overwriteErrand(e)
		if !slices.Equal(earlier, want) {
			t.Fatal("Again21 keeps memory", plain)
		}
	}
}

// Each list of what is read is apart from every other one, also behind its length.
func TestSegsAreNewMemory(t *testing.T) {
	for _, plain := range errandsOfAllKinds() {
		for _, text := range []string{plain.text, writtenOf(plain.list), "ABC+x:y+z'ABC'UNT++'"} {
			earlier, code, _ := impl.ReadSegs(text)
			got, _, _ := impl.ReadSegs(text)
			want := cloneSegs(got)
			for i, s := range got {
				for k, texts := range s.Parts {
					overwriteTexts(texts)
					got[i].Parts[k] = slices.Clone(want[i].Parts[k])
					if !sameSegs(got, want) {
						t.Fatalf("two lists of %q share memory", text)
					}
				}
				overwriteAll(s.Parts, part("overwritten"))
				got[i] = want[i]
				if !sameSegs(got, want) {
					t.Fatalf("two lists of %q share memory", text)
				}
			}
			overwriteAll(got, seg("OVR"))
			if !sameSegs(earlier, want) || code != 0 && len(want) > 0 {
				t.Fatalf("two answers of %q share memory", text)
			}
		}
	}
}

func TestMessagesAnswerAgainAndTogether(t *testing.T) {
	all := errandsOfAllKinds()
	ask := func() string {
		told := ""
		for _, e := range all[:120] {
			told += fmt.Sprintln(allOfErrand(e))
		}
		return told
	}
	want := ask()
	told := make(chan string)
	for range 8 {
		go func() { told <- ask() }()
	}
	for range 8 {
		if got := <-told; got != want {
			t.Error("answers hang on earlier calls")
		}
	}
}
