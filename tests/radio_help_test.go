package tests

import (
	"encoding/binary"
	"fmt"
	"math"
	"slices"

	"loop.example/g00059/impl"
)

type radios = []impl.Radio

func report(kind, id, x, y, slot, next int) impl.Report {
	return impl.Report{Kind: kind, Id: id, X: x, Y: y, Slot: slot, Next: next}
}

// checkOf is what is left of the bytes, as bits of a polynomial, behind a
// division: the first sixteen turned about, sixteen times nothing behind them.
func checkOf(list []byte) int {
	var bits []int
	for _, b := range append(slices.Clone(list), 0, 0) {
		for high := 7; high >= 0; high-- {
			bits = append(bits, int(b>>high)&1)
		}
	}
	for i := range 16 {
		bits[i] = 1 - bits[i]
	}
	for i := range len(bits) - 16 {
		if bits[i] == 1 {
			for _, power := range []int{16, 12, 5, 0} {
				bits[i+16-power] = 1 - bits[i+16-power]
			}
		}
	}
	rest := 0
	for _, bit := range bits[len(bits)-16:] {
		rest = 2*rest + bit
	}
	return rest
}

// checked puts the right check behind fourteen bytes.
func checked(body []byte) []byte {
	return binary.BigEndian.AppendUint16(slices.Clone(body[:14]), uint16(checkOf(body[:14])))
}

// bodyOf is what stands ahead of the check, also of fields that are not so.
func bodyOf(r impl.Report) []byte {
	body := binary.BigEndian.AppendUint32([]byte{byte(r.Kind)}, uint32(r.Id))
	for _, n := range []int{r.X, r.Y} {
		body = append(body, binary.BigEndian.AppendUint32(nil, uint32(int32(n)))[1:]...)
	}
	return append(body, byte(r.Slot), byte(r.Next), 0)
}

func reportOk(r impl.Report) bool {
	for _, b := range [][3]int{{r.Kind, 1, 9}, {r.Id, 1, 999999999}, {r.X, -8388608, 8388607}, {r.Y, -8388608, 8388607}, {r.Slot, 0, 19}, {r.Next, 0, 19}} {
		if b[0] < b[1] || b[0] > b[2] {
			return false
		}
	}
	return true
}

func readOf(frame []byte) (impl.Report, int) {
	if len(frame) != 16 {
		return impl.Report{}, 1
	}
	if !slices.Equal(checked(frame), frame) {
		return impl.Report{}, 2
	}
	three := func(from int) int {
		return int(int32(binary.BigEndian.Uint32(append(slices.Clone(frame[from:from+3]), 0)))) / 256
	}
	r := report(int(frame[0]), int(binary.BigEndian.Uint32(frame[1:])), three(5), three(8), int(frame[11]), int(frame[12]))
	if frame[13] != 0 || !reportOk(r) {
		return impl.Report{}, 3
	}
	return r, 0
}

// edgeReports are right ones at the ends of all limits, and where a byte is
// carried into the next one.
func edgeReports() []impl.Report {
	var all []impl.Report
	fixes := []int{-8388608, -65537, -1, 0, 255, 256, 8388607}
	for _, id := range []int{1, 255, 256, 65536, 16777216, 999999999} {
		for _, x := range fixes {
			for _, y := range fixes {
				for _, few := range [][3]int{{1, 0, 0}, {9, 19, 0}, {1, 0, 19}, {5, 19, 19}} {
					all = append(all, report(few[0], id, x, y, few[1], few[2]))
				}
			}
		}
	}
	return all
}

func drawnReport(d *draws) impl.Report {
	fix := func() int { return d.between(-8388608, 8388607) }
	return report(d.between(1, 9), d.between(1, 999999999), fix(), fix(), d.below(20), d.below(20))
}

// wrongReports pass one limit each, most of them by one.
func wrongReports() map[string]impl.Report {
	all := map[string]impl.Report{"empty": {}}
	limits := map[string][]int{
		"Kind": {-1, 0, 10, 257}, "Id": {-1, 0, 1000000000, 1<<32 + 1},
		"X": {-8388609, 8388608, 1 << 24}, "Y": {-8388609, 8388608, 1 << 24},
		"Slot": {-1, 20, 256}, "Next": {-1, 20, 256},
	}
	for name, beyond := range limits {
		for _, n := range append(beyond, math.MinInt, math.MaxInt) {
			r := report(3, 4, 5, 6, 7, 8)
			*fieldOf(&r, name) = n
			all[fmt.Sprint(name, " ", n)] = r
		}
	}
	return all
}

func fieldOf(r *impl.Report, name string) *int {
	return map[string]*int{"Kind": &r.Kind, "Id": &r.Id, "X": &r.X, "Y": &r.Y, "Slot": &r.Slot, "Next": &r.Next}[name]
}

// radiosOf have these slots; the two of each pair hear each other.
func radiosOf(slots []int, pairs ...[2]int) radios {
	list := make(radios, len(slots))
	for i, slot := range slots {
		list[i] = impl.Radio{Id: 10 * (i + 1), Slot: slot}
		for other := range slots {
			if slices.Contains(pairs, [2]int{i, other}) || slices.Contains(pairs, [2]int{other, i}) {
				list[i].Hears = append(list[i].Hears, other)
			}
		}
	}
	return list
}

// crowd are radios of these slots that all hear one another.
func crowd(slots ...int) radios {
	var pairs [][2]int
	for i := range slots {
		for other := range i {
			pairs = append(pairs, [2]int{other, i})
		}
	}
	return radiosOf(slots, pairs...)
}

// starred are radios of which the first hears all others, and they it alone.
func starred(slots ...int) radios {
	var pairs [][2]int
	for i := range len(slots) - 1 {
		pairs = append(pairs, [2]int{0, i + 1})
	}
	return radiosOf(slots, pairs...)
}

// upTo are so many numbers from 0 on.
func upTo(count int) []int {
	var list []int
	for i := range count {
		list = append(list, i)
	}
	return list
}

func cloneRadios(list radios) radios {
	own := slices.Clone(list)
	for i := range own {
		own[i].Hears = slices.Clone(own[i].Hears)
	}
	return own
}

func withSlot(list radios, at, slot int) radios {
	own := cloneRadios(list)
	own[at].Slot = slot
	return own
}

func withId(list radios, at, id int) radios {
	own := cloneRadios(list)
	own[at].Id = id
	return own
}

func withHears(list radios, at int, hears ...int) radios {
	own := cloneRadios(list)
	own[at].Hears = hears
	return own
}

func isHeard(list radios, a, b int) bool { return slices.Contains(list[a].Hears, b) }

// radiosOk holds each radio against the Hears that its list should have.
func radiosOk(list radios) bool {
	if len(list) < 1 || len(list) > 24 {
		return false
	}
	for i, r := range list {
		var mutual []int
		for other := range list {
			if other != i && isHeard(list, i, other) && isHeard(list, other, i) {
				mutual = append(mutual, other)
			}
		}
		if !slices.Equal(mutual, r.Hears) || r.Id < 1 || r.Id > 999999999 || r.Slot < 0 || r.Slot > 19 {
			return false
		}
		if i > 0 && r.Id <= list[i-1].Id {
			return false
		}
	}
	return true
}

func clashesOf(list radios) []int {
	var all []int
	for a := range list {
		clashes := false
		for b := range list {
			clashes = clashes || a != b && isHeard(list, a, b) && list[a].Slot == list[b].Slot
		}
		if clashes {
			all = append(all, a)
		}
	}
	return all
}

// chooseOf goes round the turn of slots until the coin is used up.
func chooseOf(list radios, at, coin int) (int, bool) {
	var free []int
	for slot := range 20 {
		isFree := true
		for _, other := range list[at].Hears {
			isFree = isFree && list[other].Slot != slot
		}
		if isFree {
			free = append(free, slot)
		}
	}
	if free == nil {
		return list[at].Slot, false
	}
	return free[coin-coin/len(free)*len(free)], true
}

func settleOf(list radios, coins []int) (radios, int, bool) {
	now := cloneRadios(list)
	for used := 0; ; used++ {
		clashes := clashesOf(now)
		if len(clashes) == 0 {
			return now, used, true
		}
		if used == len(coins) {
			return now, used, false
		}
		slot, ok := chooseOf(now, clashes[0], coins[used])
		if !ok {
			return now, used, false
		}
		now[clashes[0]].Slot = slot
	}
}

// relayOf asks round by round who has been told.
func relayOf(list radios, from int) []int {
	passed := make([]int, len(list))
	for i := range passed {
		passed[i] = -1
	}
	passed[from] = 0
	for round := range list {
		for a := range list {
			for b := range list {
				if passed[a] == round && passed[b] == -1 && isHeard(list, a, b) {
					passed[b] = round + 1
				}
			}
		}
	}
	return passed
}

func sameRadios(a, b radios) bool {
	return slices.EqualFunc(a, b, func(x, y impl.Radio) bool {
		return x.Id == y.Id && x.Slot == y.Slot && slices.Equal(x.Hears, y.Hears)
	})
}

// drawnRadios hear few, some or nearly all others, and have slots that are
// often alike.
func drawnRadios(d *draws) radios {
	count := []int{d.between(1, 5), d.between(1, 24), 24}[d.below(3)]
	list := make(radios, count)
	few, dense, id := []int{1, 2, 5, 20, 20}[d.below(5)], []int{1, 3, 6, 10, 12}[d.below(5)], 0
	for i := range list {
		id += d.between(1, 40000000)
		list[i] = impl.Radio{Id: id, Slot: d.below(few)}
		for other := range i {
			if d.below(12) < dense {
				list[i].Hears = append(list[i].Hears, other)
				list[other].Hears = append(list[other].Hears, i)
			}
		}
	}
	return list
}

func drawnCoins(d *draws, most int) []int {
	var coins []int
	for range d.below(most + 1) {
		coins = append(coins, []int{d.below(20), d.below(1000), math.MaxInt - d.below(40)}[d.below(3)])
	}
	return coins
}

// wrongRadios pass one limit each, most of them by one.
func wrongRadios() map[string]radios {
	right := radiosOf([]int{1, 1, 2, 3}, [2]int{0, 1}, [2]int{1, 2}, [2]int{1, 3})
	all := map[string]radios{
		"none": nil, "an empty list": {}, "one more": starred(make([]int, 25)...), "many more": make(radios, 3000),
		"empty ones": make(radios, 2),
		"Ids alike":  withId(right, 2, 20), "the last two Ids alike": withId(right, 3, 30), "Ids descending": withId(right, 1, 5),
		"Id 0": withId(right, 0, 0), "Id -1": withId(right, 0, -1), "least Id": withId(right, 0, math.MinInt),
		"Id of too many": withId(right, 3, 1000000000), "Id great": withId(right, 3, math.MaxInt),
		"Id of too many alone": withId(crowd(0), 0, 1000000000), "an Id that falls to the least": withId(right, 3, math.MinInt),
		"hears itself": withHears(right, 0, 0, 1), "hears itself alone": withHears(crowd(3), 0, 0), "hears itself last": withHears(right, 1, 0, 1, 2, 3),
		"twice the same": withHears(right, 0, 1, 1), "twice the last": withHears(right, 1, 0, 2, 3, 3),
		"not ascending": withHears(right, 1, 0, 3, 2), "descending": withHears(right, 1, 3, 2, 0),
		"beyond": withHears(right, 0, 1, 4), "far beyond": withHears(right, 3, 1, math.MaxInt), "beyond alone": withHears(crowd(3), 0, 1),
		"below": withHears(right, 0, -1, 1), "far below": withHears(right, 3, math.MinInt, 1), "below alone": withHears(crowd(3), 0, -1),
		"isn't heard": withHears(right, 0, 1, 2), "doesn't hear": withHears(right, 0), "isn't heard by the last": withHears(right, 3),
		"hears one that hears another": withHears(right, 0, 3), "hears far too many": withHears(right, 0, make([]int, 5000)...),
	}
	for _, slot := range []int{-1, 20, 21, math.MinInt, math.MaxInt} {
		for at := range right {
			all[fmt.Sprint("Slot ", slot, " at ", at)] = withSlot(right, at, slot)
		}
	}
	many := make(radios, 25)
	for i := range many {
		many[i].Id = i + 1
	}
	all["one more that hears none"] = many
	return all
}
