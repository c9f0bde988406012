package tests

import (
	"math"
	"slices"
	"testing"

	"loop.example/g00059/impl"
)

// Promise 9: frames come back, and one with one or two bits wrong is never
// taken; behind enough coins no two that hear each other have one slot.

func TestChecksOfTheTests(t *testing.T) {
	// The number that is known of these nine digits.
	if got := checkOf([]byte("123456789")); got != 0x29b1 {
		t.Error(got)
	}
}

func TestReportsByHand(t *testing.T) {
	for _, c := range []struct {
		r     impl.Report
		frame []byte
	}{
		{report(1, 258, -1, 2, 3, 4), []byte{1, 0, 0, 1, 2, 255, 255, 255, 0, 0, 2, 3, 4, 0, 17, 55}},
		{report(1, 1, 0, 0, 0, 0), []byte{1, 0, 0, 0, 1, 0, 0, 0, 0, 0, 0, 0, 0, 0, 189, 78}},
		{report(9, 999999999, -8388608, 8388607, 19, 19), []byte{9, 59, 154, 201, 255, 128, 0, 0, 127, 255, 255, 19, 19, 0, 254, 126}},
		{report(5, 123456789, -70000, 65537, 7, 8), []byte{5, 7, 91, 205, 21, 254, 238, 144, 1, 0, 1, 7, 8, 0, 139, 1}},
	} {
		if !impl.ReportOk(c.r) {
			t.Error("not ok", c.r)
		}
		if got, ok := impl.PackReport(c.r); !slices.Equal(got, c.frame) || !ok {
			t.Error(c.r, got, ok)
		}
		if got, code := impl.ReadReport(c.frame); got != c.r || code != impl.ReadWell {
			t.Error(c.frame, got, code)
		}
	}
}

func TestLimitsOfReports(t *testing.T) {
	limits := map[string]map[int]bool{
		"Kind": {0: false, 1: true, 9: true, 10: false},
		"Id":   {0: false, 1: true, 999999999: true, 1000000000: false},
		"X":    {-8388609: false, -8388608: true, -1: true, 0: true, 8388607: true, 8388608: false},
		"Y":    {-8388609: false, -8388608: true, -1: true, 0: true, 8388607: true, 8388608: false},
		"Slot": {-1: false, 0: true, 19: true, 20: false},
		"Next": {-1: false, 0: true, 19: true, 20: false},
	}
	for name, told := range limits {
		for n, want := range told {
			r := report(3, 4, 5, 6, 7, 8)
			*fieldOf(&r, name) = n
			frame, ok := impl.PackReport(r)
			if impl.ReportOk(r) != want || ok != want || (len(frame) == 16) != want {
				t.Error(name, n, want, frame, ok)
			}
		}
	}
}

func checkFrame(t *testing.T, r impl.Report) []byte {
	t.Helper()
	frame, ok := impl.PackReport(r)
	if !ok || !slices.Equal(frame, checked(bodyOf(r))) {
		t.Fatal("frame", r, frame, ok)
	}
	if back, code := impl.ReadReport(frame); back != r || code != impl.ReadWell {
		t.Fatal("back", r, back, code)
	}
	return frame
}

func TestFramesComeBack(t *testing.T) {
	for _, r := range edgeReports() {
		checkFrame(t, r)
	}
	d := &draws{state: 117}
	for range 5000 {
		checkFrame(t, drawnReport(d))
	}
}

func TestFramesWithOneOrTwoBitsWrong(t *testing.T) {
	d := &draws{state: 118}
	reports := []impl.Report{report(1, 1, 0, 0, 0, 0), report(9, 999999999, -8388608, 8388607, 19, 19), report(8, 16, -1, -1, 16, 16)}
	for range 20 {
		reports = append(reports, drawnReport(d))
	}
	for _, r := range reports {
		frame := checkFrame(t, r)
		turn := func(bit int) { frame[bit/8] ^= 128 >> (bit % 8) }
		for one := range 128 {
			for two := range one + 1 {
				turn(one)
				if two < one {
					turn(two)
				}
				if got, code := impl.ReadReport(frame); code != impl.ReadCheck || got != (impl.Report{}) {
					t.Fatal("taken", r, one, two, got, code)
				}
				turn(one)
				if two < one {
					turn(two)
				}
			}
		}
	}
}

// What is not told of a frame is told in this order: its length, its check,
// its fields.
func TestCodesOfFrames(t *testing.T) {
	right := checkFrame(t, report(3, 4, 5, 6, 7, 8))
	for count := range 40 {
		if count == 16 {
			continue
		}
		frame := append(slices.Clone(right), make([]byte, 40)...)[:count]
		if got, code := impl.ReadReport(frame); got != (impl.Report{}) || code != impl.ReadLength {
			t.Error(count, got, code)
		}
	}
	if got, code := impl.ReadReport(nil); got != (impl.Report{}) || code != impl.ReadLength {
		t.Error("no byte", got, code)
	}
	for at, bytes := range map[int][]byte{0: {0, 10, 255}, 1: {60, 255}, 11: {20, 128, 255}, 12: {20, 128, 255}, 13: {1, 128, 255}} {
		for _, b := range bytes {
			frame := slices.Clone(right)
			frame[at] = b
			if got, code := impl.ReadReport(frame); got != (impl.Report{}) || code != impl.ReadCheck {
				t.Error("check first", frame, got, code)
			}
			frame = checked(frame)
			if got, code := impl.ReadReport(frame); got != (impl.Report{}) || code != impl.ReadField {
				t.Error("field", frame, got, code)
			}
			frame[14]++
			if got, code := impl.ReadReport(frame); got != (impl.Report{}) || code != impl.ReadCheck {
				t.Error("check again", frame, got, code)
			}
		}
	}
	for _, id := range [][]byte{{0, 0, 0, 0}, {59, 154, 202, 0}, {128, 0, 0, 1}, {255, 255, 255, 255}} {
		frame := checked(slices.Replace(slices.Clone(right), 1, 5, id...))
		if got, code := impl.ReadReport(frame); got != (impl.Report{}) || code != impl.ReadField {
			t.Error("Id", frame, got, code)
		}
	}
	if got, code := impl.ReadReport(make([]byte, 16)); got != (impl.Report{}) || code != impl.ReadCheck {
		t.Error("nothing but 0", got, code)
	}
}

func TestDrawnFrames(t *testing.T) {
	d := &draws{state: 119}
	met := map[int]int{}
	for range 20000 {
		body := bodyOf(drawnReport(d))
		if d.below(2) == 0 {
			body[[]int{0, 1, 11, 12, 13, d.below(14)}[d.below(6)]] = byte(d.below(256))
		}
		frame := checked(body)
		if d.below(4) == 0 {
			frame[d.below(16)] += byte(d.below(3))
		}
		want, wanted := readOf(frame)
		if got, code := impl.ReadReport(frame); got != want || code != wanted {
			t.Fatal(frame, got, code, "not", want, wanted)
		}
		met[wanted]++
	}
	if met[0] < 1000 || met[2] < 1000 || met[3] < 1000 {
		t.Error("hardly drawn", met)
	}
}

func TestRadiosOfLimits(t *testing.T) {
	two := radiosOf([]int{0, 19}, [2]int{0, 1})
	for name, list := range map[string]radios{
		"one":                     crowd(0),
		"one of the last slot":    crowd(19),
		"MaxRadios":               radiosOf(make([]int, 24)),
		"MaxRadios that hear all": crowd(make([]int, 24)...),
		"MaxRadios round one":     starred(make([]int, 24)...),
		"Ids at their bounds":     withId(withId(two, 0, 1), 1, 999999999),
		"Ids beside each other":   withId(withId(two, 0, 999999998), 1, 999999999),
		"a Slot free between":     radiosOf([]int{0, 19, 0}, [2]int{0, 2}),
	} {
		if !impl.RadiosOk(list) || !radiosOk(list) {
			t.Error(name)
		}
	}
}

func TestClashesByHand(t *testing.T) {
	for name, c := range map[string]struct {
		list radios
		want []int
	}{
		"one":                        {crowd(3), nil},
		"two that hear each other":   {crowd(3, 3), []int{0, 1}},
		"two that don't":             {radiosOf([]int{3, 3}), nil},
		"two of two slots":           {crowd(3, 4), nil},
		"three of one slot":          {crowd(7, 7, 7), []int{0, 1, 2}},
		"three in a row":             {radiosOf([]int{7, 7, 7}, [2]int{0, 1}, [2]int{1, 2}), []int{0, 1, 2}},
		"three, the last unheard":    {radiosOf([]int{7, 7, 7}, [2]int{0, 1}), []int{0, 1}},
		"the ends of a row":          {radiosOf([]int{7, 8, 7}, [2]int{0, 1}, [2]int{1, 2}), nil},
		"two pairs":                  {crowd(0, 19, 5, 0, 19), []int{0, 1, 3, 4}},
		"the first and the last":     {crowd(2, 0, 1, 2), []int{0, 3}},
		"heard by one of two alike":  {radiosOf([]int{4, 4, 4, 9}, [2]int{1, 3}, [2]int{0, 2}), []int{0, 2}},
		"MaxRadios that hear all":    {crowd(make([]int, 24)...), upTo(24)},
		"MaxRadios that hear nobody": {radiosOf(make([]int, 24)), nil},
	} {
		if got := impl.Clashes(c.list); !slices.Equal(got, c.want) {
			t.Error(name, got)
		}
	}
}

func TestChooseByHand(t *testing.T) {
	// The first hears the slots 0, 2, 2 and 19; of them 17 are free.
	list := starred(5, 0, 2, 2, 19)
	lonely := crowd(6)
	full := starred(append([]int{4}, upTo(20)...)...)
	nearlyFull := starred(append([]int{4}, upTo(19)...)...)
	for _, c := range []struct {
		list     radios
		at, coin int
		slot     int
		ok       bool
	}{
		{list, 0, 0, 1, true}, {list, 0, 1, 3, true}, {list, 0, 3, 5, true}, {list, 0, 15, 17, true}, {list, 0, 16, 18, true},
		{list, 0, 17, 1, true}, {list, 0, 18, 3, true}, {list, 0, 33, 18, true}, {list, 0, 34, 1, true}, {list, 0, 17 * 1000000000000, 1, true},
		{list, 1, 0, 0, true}, {list, 1, 4, 4, true}, {list, 1, 5, 6, true}, {list, 1, 18, 19, true}, {list, 1, 19, 0, true},
		{list, 4, 5, 6, true}, {list, 4, 19, 0, true},
		{list, -1, 0, -1, false}, {list, 5, 0, -1, false}, {list, 0, -1, -1, false}, {list, 5, -1, -1, false},
		{lonely, 0, 0, 0, true}, {lonely, 0, 6, 6, true}, {lonely, 0, 19, 19, true}, {lonely, 0, 20, 0, true}, {lonely, 0, math.MaxInt, math.MaxInt % 20, true},
		{lonely, -1, 0, -1, false}, {lonely, 1, 0, -1, false}, {lonely, 0, -1, -1, false},
		{full, 0, 0, 4, false}, {full, 0, 7, 4, false}, {full, 0, math.MaxInt, 4, false}, {full, 0, -1, -1, false}, {full, 20, 4, 5, true},
		{nearlyFull, 0, 0, 19, true}, {nearlyFull, 0, 1, 19, true}, {nearlyFull, 0, math.MaxInt, 19, true},
	} {
		if slot, ok := impl.Choose(c.list, c.at, c.coin); slot != c.slot || ok != c.ok {
			t.Error(c.at, c.coin, slot, ok, "not", c.slot, c.ok)
		}
	}
}

// slotsOf are the slots of radios that are else alike.
func slotsOf(list radios) []int {
	var slots []int
	for _, r := range list {
		slots = append(slots, r.Slot)
	}
	return slots
}

func TestSettleByHand(t *testing.T) {
	row := radiosOf([]int{5, 5, 0}, [2]int{0, 1}, [2]int{1, 2})
	// None of those that hear all others has a slot left.
	full := crowd(append([]int{19, 18, 17, 16}, upTo(20)...)...)
	// The first of the clashing has none, the other one has some.
	mid := starred(append([]int{4}, upTo(20)...)...)
	for name, c := range map[string]struct {
		list  radios
		coins []int
		slots []int
		used  int
		ok    bool
	}{
		"no coin":               {row, nil, []int{5, 5, 0}, 0, false},
		"one":                   {row, []int{21}, []int{2, 5, 0}, 1, true},
		"beside the other":      {crowd(5, 5), []int{5}, []int{6, 5}, 1, true},
		"more than wanted":      {row, []int{3, 4, 5}, []int{3, 5, 0}, 1, true},
		"no clashes, no coin":   {crowd(1, 2), nil, []int{1, 2}, 0, true},
		"no clashes":            {crowd(1, 2), []int{3, 4}, []int{1, 2}, 0, true},
		"alone":                 {crowd(1), []int{3, 4}, []int{1}, 0, true},
		"three":                 {crowd(0, 0, 0), []int{0, 0}, []int{1, 2, 0}, 2, true},
		"three, one coin":       {crowd(0, 0, 0), []int{0}, []int{1, 0, 0}, 1, false},
		"two that don't hear":   {radiosOf([]int{0, 0}), []int{7}, []int{0, 0}, 0, true},
		"none is free":          {full, []int{1, 2, 3}, slotsOf(full), 0, false},
		"none is free, no coin": {full, nil, slotsOf(full), 0, false},
		"none for the first":    {mid, []int{7, 8}, slotsOf(mid), 0, false},
	} {
		got, used, ok := impl.Settle(c.list, c.coins)
		want := cloneRadios(c.list)
		for i, slot := range c.slots {
			want[i].Slot = slot
		}
		if !sameRadios(got, want) || used != c.used || ok != c.ok {
			t.Error(name, got, used, ok)
		}
	}
}

// A coin that is used ahead of one that is not: the first of the clashing has
// a slot, the one behind it has none.
func TestSettleUntilNoneIsFree(t *testing.T) {
	// Radio 0 and 1 clash; 2 hears 3 .. 22, which have all slots.
	var pairs [][2]int
	for i := range 20 {
		pairs = append(pairs, [2]int{2, i + 3})
	}
	list := radiosOf(append([]int{9, 9, 4}, upTo(20)...), append(pairs, [2]int{0, 1})...)
	got, used, ok := impl.Settle(list, []int{30, 31, 32})
	if !sameRadios(got, withSlot(list, 0, 12)) || used != 1 || ok {
		t.Error(got, used, ok)
	}
	if got := impl.Clashes(got); !slices.Equal(got, []int{2, 7}) {
		t.Error(got)
	}
}

func TestCoinsOfLimits(t *testing.T) {
	list := crowd(5, 5)
	if got, used, ok := impl.Settle(list, make([]int, 200)); !sameRadios(got, withSlot(list, 0, 0)) || used != 1 || !ok {
		t.Error(200, got, used, ok)
	}
	for name, coins := range map[string][]int{
		"201 coins": make([]int, 201), "one below 0": {-1}, "one below 0 behind those used": {1, -1},
		"the last of 200 below 0": append(make([]int, 199), math.MinInt), "many": make([]int, 5000),
	} {
		for _, list := range []radios{crowd(5, 5), crowd(5, 6), crowd(5)} {
			if got, used, ok := impl.Settle(list, coins); len(got) != 0 || used != 0 || ok {
				t.Error(name, got, used, ok)
			}
		}
	}
}

func TestRelayByHand(t *testing.T) {
	// 0 comes to 4 by way of 1, and by way of 2 and 3; nobody hears 5 but 6.
	list := radiosOf(make([]int, 7), [2]int{0, 1}, [2]int{0, 2}, [2]int{2, 3}, [2]int{3, 4}, [2]int{1, 4}, [2]int{5, 6})
	for from, want := range map[int][]int{
		0: {0, 1, 1, 2, 2, -1, -1},
		1: {1, 0, 2, 2, 1, -1, -1},
		3: {2, 2, 1, 0, 1, -1, -1},
		5: {-1, -1, -1, -1, -1, 0, 1},
		6: {-1, -1, -1, -1, -1, 1, 0},
	} {
		if got, ok := impl.Relay(list, from); !slices.Equal(got, want) || !ok {
			t.Error(from, got, ok)
		}
	}
	if got, ok := impl.Relay(crowd(3), 0); !slices.Equal(got, []int{0}) || !ok {
		t.Error("one", got, ok)
	}
	if got, ok := impl.Relay(radiosOf([]int{1, 1}), 1); !slices.Equal(got, []int{-1, 0}) || !ok {
		t.Error("nobody hears", got, ok)
	}
	for _, from := range []int{-1, 7, 8, math.MinInt, math.MaxInt} {
		if got, ok := impl.Relay(list, from); len(got) != 0 || ok {
			t.Error(from, got, ok)
		}
	}
	var row [][2]int
	for i := range 23 {
		row = append(row, [2]int{i, i + 1})
	}
	if got, ok := impl.Relay(radiosOf(make([]int, 24), row...), 0); !slices.Equal(got, upTo(24)) || !ok {
		t.Error("a row", got, ok)
	}
}

func TestDrawnRadios(t *testing.T) {
	d := &draws{state: 120}
	stuck := 0
	for range 3000 {
		list, coins := drawnRadios(d), drawnCoins(d, []int{3, 24, 200}[d.below(3)])
		if !impl.RadiosOk(list) || !radiosOk(list) {
			t.Fatal("not ok", list)
		}
		if got, want := impl.Clashes(list), clashesOf(list); !slices.Equal(got, want) {
			t.Fatal("Clashes", list, got, want)
		}
		for at := range list {
			coin := []int{d.below(25), d.below(math.MaxInt32)}[d.below(2)]
			slot, ok := impl.Choose(list, at, coin)
			if want, isThere := chooseOf(list, at, coin); slot != want || ok != isThere {
				t.Fatal("Choose", list, at, coin, slot, ok)
			}
			if got, ok := impl.Relay(list, at); !slices.Equal(got, relayOf(list, at)) || !ok {
				t.Fatal("Relay", list, at, got, ok)
			}
		}
		got, used, ok := impl.Settle(list, coins)
		want, wanted, isThere := settleOf(list, coins)
		if !sameRadios(got, want) || used != wanted || ok != isThere {
			t.Fatal("Settle", list, coins, got, used, ok)
		}
		if !ok && used < len(coins) {
			stuck++
		}
	}
	if stuck < 50 {
		t.Error("hardly drawn where none is free", stuck)
	}
}

// Lists of which some are right and some are not: a few things are changed in
// right ones.
func TestDrawnRadiosThatMayBeWrong(t *testing.T) {
	d := &draws{state: 121}
	met := map[bool]int{}
	for range 5000 {
		list := drawnRadios(d)
		at := d.below(len(list))
		switch hears := list[at].Hears; d.below(4) {
		case 0:
			list[at].Id += d.between(-20000000, 20000000)
		case 1:
			list[at].Slot += d.between(-3, 3)
		case 2:
			list[at].Hears = slices.Insert(hears, d.below(len(hears)+1), d.between(-1, len(list)))
		case 3:
			if len(hears) > 0 {
				place := d.below(len(hears))
				list[at].Hears = slices.Delete(hears, place, place+d.below(2))
			}
		}
		want := radiosOk(list)
		if got := impl.RadiosOk(list); got != want {
			t.Fatal(list, got)
		}
		met[want]++
	}
	if met[true] < 500 || met[false] < 500 {
		t.Error("hardly drawn", met)
	}
}

func TestEachCoinLeavesNoMoreClashes(t *testing.T) {
	d := &draws{state: 122}
	for range 400 {
		list, coins := drawnRadios(d), drawnCoins(d, 40)
		before, clashes := list, len(impl.Clashes(list))
		for many := range len(coins) + 1 {
			got, used, ok := impl.Settle(list, coins[:many])
			now := len(impl.Clashes(got))
			if now > clashes || ok != (now == 0) || used > many {
				t.Fatal(list, coins[:many], clashes, now, used, ok)
			}
			// One coin more goes on from where the ones ahead left it.
			step, more, _ := impl.Settle(before, coins[max(0, many-1):many])
			if !sameRadios(step, got) || many > 0 && more == 1 && now >= clashes {
				t.Fatal(list, coins[:many], step, got)
			}
			before, clashes = got, now
		}
	}
}

func TestAllSettle(t *testing.T) {
	d := &draws{state: 123}
	tried := 0
	for range 2000 {
		list := drawnRadios(d)
		most := 0
		for _, r := range list {
			most = max(most, len(r.Hears))
		}
		if most >= impl.SlotsTurn {
			continue
		}
		tried++
		coins := make([]int, len(list))
		for i := range coins {
			coins[i] = d.below(1000)
		}
		got, used, ok := impl.Settle(list, coins)
		if !ok || used > len(list) || len(clashesOf(got)) != 0 || !impl.RadiosOk(got) {
			t.Fatal(list, coins, got, used, ok)
		}
	}
	if tried < 1000 {
		t.Error("hardly drawn", tried)
	}
	// As many as can all hear one another and have a slot each.
	list := crowd(make([]int, 20)...)
	if got, used, ok := impl.Settle(list, make([]int, 20)); !ok || used != 19 || len(clashesOf(got)) != 0 {
		t.Error("twenty", got, used, ok)
	}
}
