package tests

import (
	"slices"
	"testing"

	"loop.example/g00059/impl"
)

func checkDeedRun(t *testing.T, h impl.House, list deeds, want impl.House, codes []int) {
	t.Helper()
	if got, told := impl.RunDeeds(h, list); !sameHouse(got, want) || !slices.Equal(told, codes) {
		t.Fatal(h, list, "got", got, told, "not", want, codes)
	}
}

func TestRunDeedsByHand(t *testing.T) {
	list := deeds{
		landing(7, 0, 10, 20, 100), landing(7, 1, 1, 1, 1), splitting(7, 4, 3), doing(impl.DeedPay, 3), doing(impl.DeedTransit, 7), doing(impl.DeedTake, 7),
		doing(impl.DeedArrive, 3), doing(impl.DeedTake, 3), landing(5, 1, 6, 20, 100), doing(impl.DeedHold, 5), doing(impl.DeedPay, 5), doing(impl.DeedLift, 5),
		doing(impl.DeedPay, 5), doing(impl.DeedTransit, 5), doing(impl.DeedArrive, 7), doing(impl.DeedTake, 7), doing(impl.DeedArrive, 4), {},
	}
	codes := []int{0, 2, 0, 0, 0, 4, 4, 0, 0, 0, 4, 0, 5, 0, 0, 4, 3, 1}
	h := house(traders{trader(100, 20), trader(11, 12)})
	checkDeedRun(t, h, list[:4], withTaken(house(traders{trader(92, 20), trader(11, 12)}, lot(3, 0, 4, 20, 100, 4), lot(7, 0, 6, 20, 100, 1)), 8), codes[:4])
	checkDeedRun(t, h, list[:8], withTaken(house(traders{trader(92, 20), trader(11, 12)}, lot(3, 0, 4, 20, 100, 5), lot(7, 0, 6, 20, 100, 3)), 8), codes[:8])
	checkDeedRun(t, h, list[:11], withTaken(house(traders{trader(92, 20), trader(11, 12)}, lot(3, 0, 4, 20, 100, 5), lot(5, 1, 6, 20, 100, 2), lot(7, 0, 6, 20, 100, 3)), 8), codes[:11])
	checkDeedRun(t, h, list, withTaken(house(traders{trader(92, 20), trader(11, 12)}, lot(3, 0, 4, 20, 100, 5), lot(5, 1, 6, 20, 100, 3), lot(7, 0, 6, 20, 100, 5)), 8), codes)
}

// A deed works on what the ones ahead left, also behind one that is refused.
func TestRunDeedsWithSomeThatAreRefused(t *testing.T) {
	h := withTaken(house(traders{trader(24, 12), trader(9, 9)}, inState(3, 2), inState(7, 1), inState(9, 5)), 1)
	done := deeds{doing(impl.DeedTransit, 7), doing(impl.DeedLift, 3), doing(impl.DeedArrive, 7), doing(impl.DeedPay, 3)}
	want := withTaken(house(traders{trader(12, 12), trader(9, 9)}, inState(3, 4), inState(7, 5), inState(9, 5)), 13)
	checkDeedRun(t, h, done, want, []int{0, 0, 0, 0})
	for refused, code := range map[impl.Deed]int{
		{}: impl.DeedBad, landing(5, 2, 1, 1, 1): impl.DeedBad, splitting(3, 0, 5): impl.DeedBad, landing(9, 1, 1, 1, 1): impl.DeedHas, landing(3, 0, 1, 1, 1): impl.DeedHas,
		doing(impl.DeedPay, 8): impl.DeedNone, splitting(5, 1, 6): impl.DeedNone, doing(impl.DeedTake, 9): impl.DeedState, doing(impl.DeedHold, 9): impl.DeedState, splitting(7, 6, 8): impl.DeedState,
	} {
		for at := range 5 {
			checkDeedRun(t, h, slices.Insert(slices.Clone(done), at, refused), want, slices.Insert([]int{0, 0, 0, 0}, at, code))
		}
	}
	poor := deeds{done[0], done[1], doing(impl.DeedTransit, 3), done[2], done[3]}
	checkDeedRun(t, h, poor, want, []int{0, 0, impl.DeedPoor, 0, 0})
}

func TestRunDeedsAtTheirLimit(t *testing.T) {
	h := house(traders{trader(100, 100)}, inState(7, 1))
	held := house(traders{trader(100, 100)}, inState(7, 2))
	most := slices.Repeat(deeds{doing(impl.DeedHold, 7), doing(impl.DeedLift, 7)}, 100)
	checkDeedRun(t, h, nil, h, nil)
	checkDeedRun(t, h, deeds{}, h, nil)
	checkDeedRun(t, h, most[:1], held, []int{0})
	checkDeedRun(t, h, most[:199], held, make([]int, 199))
	checkDeedRun(t, h, most, h, make([]int, 200))
	checkDeedRun(t, h, append(most[:199:199], doing(impl.DeedPay, 7)), held, append(make([]int, 199), impl.DeedState))
	checkDeedRun(t, h, append(slices.Clone(most), doing(impl.DeedPay, 7)), h, nil)
	checkDeedRun(t, h, append(deeds{doing(impl.DeedPay, 7)}, most...), h, nil)
	checkDeedRun(t, h, make(deeds, 201), h, nil)
	checkDeedRun(t, h, make(deeds, 3000), h, nil)
	checkDeedRun(t, impl.House{}, nil, impl.House{}, nil)
	checkDeedRun(t, impl.House{}, most[:2], impl.House{}, []int{3, 3})
	checkDeedRun(t, impl.House{}, make(deeds, 200), impl.House{}, slices.Repeat([]int{1}, 200))
}

// A house is filled to its brim, by landing and by splitting, and no further.
func TestRunDeedsFillAHouse(t *testing.T) {
	var land, split deeds
	for i := range 50 {
		land = append(land, landing(500-10*i, 0, 1, 1, 1))
		split = append(split, splitting(900, 1, 500-10*i))
	}
	h := house(traders{{}})
	got, codes := impl.RunDeeds(h, land)
	if !slices.Equal(codes, slices.Concat(make([]int, 40), slices.Repeat([]int{impl.DeedHas}, 10))) || len(got.Lots) != 40 || !impl.HouseOk(got) || got.Lots[0].Id != 110 || got.Lots[39].Id != 500 {
		t.Error(got, codes)
	}
	got, codes = impl.RunDeeds(h, append(deeds{landing(900, 0, 100, 7, 8)}, split...))
	if !slices.Equal(codes, slices.Concat(make([]int, 40), slices.Repeat([]int{impl.DeedHas}, 11))) || len(got.Lots) != 40 || !impl.HouseOk(got) || got.Lots[39] != lot(900, 0, 61, 7, 8, 1) {
		t.Error(got, codes)
	}
}

// Money goes down to nothing, and what is taken up to its bound, lot by lot.
func TestRunDeedsUntilNothingIsLeft(t *testing.T) {
	var pay, bind deeds
	for i := range 5 {
		pay, bind = append(pay, doing(impl.DeedPay, 10*(i+1))), append(bind, doing(impl.DeedTransit, 10*(i+1)))
	}
	h := shed(5)
	for enough := range 6 {
		want := slices.Concat(make([]int, enough), slices.Repeat([]int{impl.DeedPoor}, 5-enough))
		h.Traders[0] = trader(12*enough+11, 12*enough+11)
		paid, codes := impl.RunDeeds(h, pay)
		if !slices.Equal(codes, want) || paid.Traders[0] != trader(11, 12*enough+11) || paid.Taken != 12*enough {
			t.Error(enough, paid, codes)
		}
		bound, codes := impl.RunDeeds(h, bind)
		if !slices.Equal(codes, want) || bound.Traders[0] != (impl.Trader{Money: 12*enough + 11, Bond: 12*enough + 11, Bound: 12 * enough}) || bound.Taken != 0 {
			t.Error(enough, bound, codes)
		}
		h.Traders[0] = trader(1000, 0)
		full, codes := impl.RunDeeds(withTaken(h, mostWealth-12*enough), pay)
		if !slices.Equal(codes, want) || full.Traders[0] != trader(1000-12*enough, 0) || full.Taken != mostWealth {
			t.Error(enough, full, codes)
		}
	}
}

func TestRunDeedsOfDrawnOnes(t *testing.T) {
	d := &draws{state: 194}
	seen := [6]int{}
	for range 500 {
		h := drawnHouse(d)
		for range d.below(8) / 7 {
			spoilHouse(d, &h)
		}
		list := drawnDeeds(d, h)
		want, codes := runDeedsOf(h, list)
		checkDeedRun(t, h, list, want, codes)
		for _, code := range codes {
			seen[code]++
		}
	}
	if slices.Min(seen[:]) < 500 {
		t.Error("few drawn of a code", seen)
	}
}

// A run is its deeds, one behind the other.
func TestRunDeedsIsEachStep(t *testing.T) {
	d := &draws{state: 195}
	for range 200 {
		h := drawnHouse(d)
		list := drawnDeeds(d, h)
		now := h
		var codes []int
		for _, deed := range list {
			var code int
			now, code = impl.DoDeed(now, deed)
			codes = append(codes, code)
		}
		checkDeedRun(t, h, list, now, codes)
	}
}

// All short rows of deeds on two lots, of which one may come of the other.
func TestAllShortRowsOfDeeds(t *testing.T) {
	all := deeds{landing(1, 0, 3, 5, 1000), landing(2, 0, 1, 4, 1000), splitting(1, 1, 2), splitting(1, 2, 2)}
	for kind := impl.DeedHold; kind <= impl.DeedTake; kind++ {
		all = append(all, doing(kind, 1), doing(kind, 2))
	}
	var walk func(h impl.House, row deeds)
	walk = func(h impl.House, row deeds) {
		if len(row) == 4 {
			want, codes := runDeedsOf(h, row)
			checkDeedRun(t, h, row, want, codes)
			return
		}
		for _, d := range all {
			walk(h, append(slices.Clone(row), d))
		}
	}
	walk(house(traders{trader(16, 12)}), nil)
}

// walkDeeds tells each step of many runs: the house ahead of it, and behind it.
func walkDeeds(t *testing.T, state uint64, look func(was impl.House, d impl.Deed, now impl.House, code int)) {
	t.Helper()
	d := &draws{state: state}
	done := [9]int{}
	for range 500 {
		now := drawnHouse(d)
		for range 200 {
			deed := drawnDeed(d, now)
			next, code := impl.DoDeed(now, deed)
			if !impl.HouseOk(next) {
				t.Fatal("no house any more", now, deed, next)
			}
			look(now, deed, next, code)
			if code == impl.DeedDone {
				done[deed.Kind]++
			}
			now = next
		}
	}
	if slices.Min(done[1:]) < 300 {
		t.Error("few were done of a kind", done)
	}
}

// What the traders have and what was taken are always as much, and each pays
// just the duty of the lot that is paid for.
func TestMoneyAndDutyBalance(t *testing.T) {
	walkDeeds(t, 196, func(was impl.House, d impl.Deed, now impl.House, code int) {
		if wealthIn(was) != wealthIn(now) || len(was.Traders) != len(now.Traders) {
			t.Fatal("made or lost", was, d, now)
		}
		if d.Kind != impl.DeedPay || code != impl.DeedDone {
			for i := range was.Traders {
				if was.Traders[i].Money != now.Traders[i].Money || was.Taken != now.Taken {
					t.Fatal("paid by something else", was, d, now)
				}
			}
			return
		}
		own := was.Lots[lotIn(was, d.Id)]
		duty, ok := impl.Duty6(own.Many, own.Value, own.Rate)
		if !ok || was.Traders[own.Owner].Money-now.Traders[own.Owner].Money != duty || now.Taken-was.Taken != duty {
			t.Fatal("another duty", was, d, now)
		}
	})
}

// Bonds stay as they are; what is bound of each is what the lots in transit bind,
// and never more than there is.
func TestBondsBalance(t *testing.T) {
	walkDeeds(t, 197, func(was impl.House, d impl.Deed, now impl.House, code int) {
		for i, has := range now.Traders {
			sum := 0
			for _, own := range now.Lots {
				if own.Owner == i && own.State == impl.LotTransit {
					sum += dutyIn(own)
				}
			}
			if has.Bond != was.Traders[i].Bond || has.Bound != sum || has.Bound > has.Bond {
				t.Fatal(was, d, now)
			}
			if has.Bound > was.Traders[i].Bound && (d.Kind != impl.DeedTransit || code != impl.DeedDone) {
				t.Fatal("bound by something else", was, d, now)
			}
			if has.Bound < was.Traders[i].Bound && (d.Kind != impl.DeedArrive || code != impl.DeedDone) {
				t.Fatal("let go by something else", was, d, now)
			}
		}
	})
}

// A lot that is gone was free, or in transit, just ahead; what is gone stays so,
// and none drops out of the list.
func TestNothingIsGoneButFreeOrByWayOfABond(t *testing.T) {
	ways := map[[2]int]int{}
	walkDeeds(t, 198, func(was impl.House, d impl.Deed, now impl.House, code int) {
		for _, own := range was.Lots {
			at := lotIn(now, own.Id)
			if at < 0 {
				t.Fatal("dropped", was, d, now)
			}
			isGone := now.Lots[at].State == impl.LotGone
			if own.State == impl.LotGone {
				if now.Lots[at] != own {
					t.Fatal("back again", was, d, now)
				}
				continue
			}
			if isGone && own.State != impl.LotFree && own.State != impl.LotTransit {
				t.Fatal("gone neither free nor under a bond", was, d, now)
			}
			if isGone {
				ways[[2]int{own.State, d.Kind}]++
			}
		}
		for _, own := range now.Lots {
			if lotIn(was, own.Id) < 0 && own.State != impl.LotLanded {
				t.Fatal("new and not landed", was, d, now)
			}
		}
	})
	if len(ways) != 2 || ways[[2]int{impl.LotFree, impl.DeedTake}] < 300 || ways[[2]int{impl.LotTransit, impl.DeedArrive}] < 300 {
		t.Error("other ways", ways)
	}
}

// A lot becomes free only by its duty, and goes under a bond only by as much.
func TestWhatIsFreeWasPaidFor(t *testing.T) {
	walkDeeds(t, 199, func(was impl.House, d impl.Deed, now impl.House, code int) {
		for _, own := range now.Lots {
			at := lotIn(was, own.Id)
			if at >= 0 && was.Lots[at].State == own.State || own.State == impl.LotLanded || own.State == impl.LotGone {
				continue
			}
			has, had := now.Traders[own.Owner], was.Traders[own.Owner]
			switch own.State {
			case impl.LotFree:
				if had.Money-has.Money != dutyIn(own) || now.Taken-was.Taken != dutyIn(own) {
					t.Fatal("free unpaid", was, d, now)
				}
			case impl.LotTransit:
				if has.Bound-had.Bound != dutyIn(own) || own.Bond != dutyIn(own) {
					t.Fatal("in transit unbound", was, d, now)
				}
			}
		}
	})
}

// What is held stays just as it is, until it is lifted.
func TestWhatIsHeldGoesNowhere(t *testing.T) {
	lifted := 0
	walkDeeds(t, 200, func(was impl.House, d impl.Deed, now impl.House, code int) {
		for _, own := range was.Lots {
			if own.State != impl.LotHeld {
				continue
			}
			got := now.Lots[lotIn(now, own.Id)]
			if d.Kind == impl.DeedLift && d.Id == own.Id {
				own.State = impl.LotLanded
				lifted++
			}
			if got != own {
				t.Fatal(was, d, now, code)
			}
		}
	})
	if lifted < 300 {
		t.Error("few were lifted", lifted)
	}
}

// Nothing that is done to a held lot but lifting it leads anywhere, however
// often and in whatever order it is tried.
func TestHeldThroughAllDeeds(t *testing.T) {
	d := &draws{state: 201}
	h := house(traders{trader(1000, 1000), trader(5, 5)}, inState(3, 1), inState(7, 2), inState(9, 4))
	for range 300 {
		list := make(deeds, d.below(201))
		for i := range list {
			list[i] = drawnDeed(d, h)
			list[i].Kind = []int{1, 2, 4, 5, 6, 7, 8}[d.below(7)]
			list[i].Id = []int{7, 7, list[i].Id}[d.below(3)]
		}
		got, codes := impl.RunDeeds(h, list)
		if at := lotIn(got, 7); at < 0 || got.Lots[at] != inState(7, 2) {
			t.Fatal(list, got)
		}
		for i, deed := range list {
			if deed.Id == 7 && codes[i] == impl.DeedDone {
				t.Fatal(deed, "was done")
			}
		}
	}
}

// Splitting leaves as many as there were, of one owner, and the duty but for
// what is rounded.
func TestSplittingChangesNoSum(t *testing.T) {
	lost := [2]int{}
	walkDeeds(t, 202, func(was impl.House, d impl.Deed, now impl.House, code int) {
		if d.Kind != impl.DeedSplit || code != impl.DeedDone {
			return
		}
		own, left, part := was.Lots[lotIn(was, d.Id)], now.Lots[lotIn(now, d.Id)], now.Lots[lotIn(now, d.New)]
		if left.Many+part.Many != own.Many || part.Many != d.Many || left.Many < 1 || len(now.Lots) != len(was.Lots)+1 {
			t.Fatal("not as many", was, d, now)
		}
		if !slices.Equal(was.Traders, now.Traders) || was.Taken != now.Taken {
			t.Fatal("somebody pays for it", was, d, now)
		}
		less := dutyIn(own) - dutyIn(left) - dutyIn(part)
		if less < 0 || less > 1 {
			t.Fatal("another duty", was, d, now)
		}
		lost[less]++
		left.Many, part.Many, part.Id = own.Many, own.Many, own.Id
		if left != own || part != own {
			t.Fatal("something else changes", was, d, now)
		}
	})
	if min(lost[0], lost[1]) < 100 {
		t.Error("few of a kind", lost)
	}
}

// A lot that is split to the last piece pays what its pieces do, one by one.
func TestSplitToTheLastPiece(t *testing.T) {
	for _, own := range []impl.Lot{lot(100, 0, 30, 7, 333, 1), lot(100, 0, 30, 1000, 1, 1), lot(100, 0, 30, 1, 999, 1)} {
		var list deeds
		for i := range 29 {
			list = append(list, splitting(100, 1, i+1), doing(impl.DeedPay, i+1), doing(impl.DeedTake, i+1))
		}
		list = append(list, doing(impl.DeedPay, 100), doing(impl.DeedTake, 100))
		got, codes := impl.RunDeeds(house(traders{trader(1000, 0)}, own), list)
		piece, _ := impl.Duty6(1, own.Value, own.Rate)
		if !slices.Equal(codes, make([]int, len(list))) || got.Taken != 30*piece || got.Traders[0].Money != 1000-30*piece || len(got.Lots) != 30 {
			t.Error(own, got, codes)
		}
		for _, gone := range got.Lots {
			if gone.Many != 1 || gone.State != impl.LotGone {
				t.Error(own, gone)
			}
		}
	}
}

func TestRefusedDeedsChangeNothing(t *testing.T) {
	refused := [6]int{}
	walkDeeds(t, 203, func(was impl.House, d impl.Deed, now impl.House, code int) {
		refused[code]++
		if code != impl.DeedDone && !sameHouse(was, now) {
			t.Fatal(was, d, now, code)
		}
		if code == impl.DeedDone && sameHouse(was, now) {
			t.Fatal("done and nothing changed", was, d)
		}
	})
	if slices.Min(refused[1:]) < 500 {
		t.Error("few were refused with a code", refused)
	}
}
