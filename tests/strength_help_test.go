package tests

import (
	"math"
	"math/big"
	"slices"

	"loop.example/g00059/impl"
)

// beam is what a hull is handed in as: strips, and how far apart its stations.
type beam struct {
	weights []int
	buoys2  []int
	step    int
}

// evenBeam has the same weight and buoyancy at each strip.
func evenBeam(strips, weight, buoy2, step int) beam {
	return beam{slices.Repeat([]int{weight}, strips), slices.Repeat([]int{buoy2}, strips), step}
}

func drawnBeam(d *draws) beam {
	b := beam{step: d.between(1, 100)}
	for range d.below(impl.MaxStrips + 1) {
		b.weights = append(b.weights, d.below(1000001)/d.between(1, 1000))
		b.buoys2 = append(b.buoys2, d.below(2000001)/d.between(1, 1000))
	}
	return b
}

func someBeams() []beam {
	list := []beam{
		{nil, nil, 1},
		{[]int{}, []int{}, 100},
		evenBeam(1, 0, 0, 1),
		evenBeam(1, 1000000, 0, 100),
		evenBeam(1, 0, 2000000, 100),
		evenBeam(1, 1000000, 2000000, 1),
		evenBeam(impl.MaxStrips, 0, 0, 1),
		evenBeam(impl.MaxStrips, 1000000, 0, 100),
		evenBeam(impl.MaxStrips, 0, 2000000, 100),
		evenBeam(impl.MaxStrips, 1000000, 2000000, 100),
	}
	d := &draws{state: 11}
	for range 300 {
		list = append(list, drawnBeam(d))
	}
	return list
}

// shearOf and bendingOf add up, for each station, what all strips ahead of it
// do there: a strip's bending grows by the way from its middle.
func shearOf(b beam, station int) int {
	sum := 0
	for s := range station {
		sum += 2*b.weights[s] - b.buoys2[s]
	}
	return sum
}

func bendingOf(b beam, station int) int {
	sum := 0
	for s := range station {
		sum += (2*b.weights[s] - b.buoys2[s]) * b.step * (2*(station-s) - 1)
	}
	return sum
}

// wrongBeams pass one limit each, most of them by one.
func wrongBeams() map[string]beam {
	list := map[string]beam{
		"a strip too many":        evenBeam(impl.MaxStrips+1, 1, 2, 1),
		"an empty strip too many": evenBeam(impl.MaxStrips+1, 0, 0, 1),
		"a weight too many":       {[]int{1, 1}, []int{2}, 1},
		"a buoyancy too many":     {[]int{1}, []int{2, 2}, 1},
		"weights alone":           {[]int{0}, nil, 1},
		"buoyancies alone":        {nil, []int{0}, 1},
		"40 weights, 41 buoys":    {make([]int, 40), make([]int, 41), 1},
		"41 weights, 40 buoys":    {make([]int, 41), make([]int, 40), 1},
	}
	places := []string{", first", ", middle", ", last"}
	for name, n := range map[string]int{"below 0": -1, "too great": 1000001, "the least": math.MinInt, "the greatest": math.MaxInt} {
		for i, place := range places {
			weights := []int{1, 1, 1}
			weights[i] = n
			list["weight "+name+place] = beam{weights, []int{2, 2, 2}, 1}
		}
	}
	for name, n := range map[string]int{"below 0": -1, "too great": 2000001, "the least": math.MinInt, "the greatest": math.MaxInt} {
		for i, place := range places {
			buoys2 := []int{2, 2, 2}
			buoys2[i] = n
			list["buoyancy "+name+place] = beam{[]int{1, 1, 1}, buoys2, 1}
		}
	}
	return list
}

func wrongSteps() []int { return []int{0, -1, -100, 101, math.MinInt, math.MaxInt} }

func plate(width, thick, height int) impl.Plate {
	return impl.Plate{Width: width, Thick: thick, Height: height}
}

func drawnPlates(d *draws) []impl.Plate {
	var list []impl.Plate
	small := d.below(2)*99 + 1
	for range d.between(1, impl.MaxPlates) {
		list = append(list, plate(d.between(1, 1000/small), d.between(1, 1000/small), d.below(10001)/small))
	}
	return list
}

func somePlates() [][]impl.Plate {
	list := [][]impl.Plate{
		{plate(1, 1, 0)},
		{plate(1, 1, 10000)},
		{plate(1000, 1000, 10000)},
		{plate(1000, 1, 0), plate(1, 1000, 10000)},
		slices.Repeat([]impl.Plate{plate(1, 1, 0)}, impl.MaxPlates),
		slices.Repeat([]impl.Plate{plate(1, 1, 10000)}, impl.MaxPlates),
		slices.Repeat([]impl.Plate{plate(1000, 1000, 10000)}, impl.MaxPlates),
		append(slices.Repeat([]impl.Plate{plate(1000, 1000, 10000)}, impl.MaxPlates-1), plate(999, 997, 9999)),
		append(slices.Repeat([]impl.Plate{plate(1000, 1000, 10000)}, impl.MaxPlates/2), slices.Repeat([]impl.Plate{plate(1000, 1000, 0)}, impl.MaxPlates/2)...),
		append(slices.Repeat([]impl.Plate{plate(1000, 1000, 10000)}, impl.MaxPlates/2), slices.Repeat([]impl.Plate{plate(1000, 999, 0)}, impl.MaxPlates/2)...),
	}
	d := &draws{state: 12}
	for range 2000 {
		list = append(list, drawnPlates(d))
	}
	return list
}

// sectionOf takes each plate about the height that it finds, in fractions of
// any size, and so doesn't lean on the chapter's difference.
func sectionOf(list []impl.Plate) (*big.Rat, *big.Rat) {
	area, moment := new(big.Rat), new(big.Rat)
	for _, p := range list {
		area.Add(area, big.NewRat(int64(p.Width*p.Thick), 1))
		moment.Add(moment, big.NewRat(int64(p.Width*p.Thick*p.Height), 1))
	}
	height := moment.Quo(moment, area)
	inertia := new(big.Rat)
	for _, p := range list {
		arm := new(big.Rat).Sub(big.NewRat(int64(p.Height), 1), height)
		arm.Mul(arm, arm).Mul(arm, big.NewRat(12, 1)).Add(arm, big.NewRat(int64(p.Thick*p.Thick), 1))
		inertia.Add(inertia, arm.Mul(arm, big.NewRat(int64(p.Width*p.Thick), 1)))
	}
	return height, inertia
}

// floorOf takes a fraction that is not below 0.
func floorOf(r *big.Rat) *big.Int { return new(big.Int).Quo(r.Num(), r.Denom()) }

func wrongPlates() map[string][]impl.Plate {
	right := plate(1, 1, 1)
	list := map[string][]impl.Plate{
		"no plates":               nil,
		"no plates, but a list":   {},
		"a plate too many":        slices.Repeat([]impl.Plate{right}, impl.MaxPlates+1),
		"plates that are nothing": {{}},
	}
	for name, p := range map[string]impl.Plate{
		"width 0":         plate(0, 1, 1),
		"width below 0":   plate(-1, 1, 1),
		"width 1001":      plate(1001, 1, 1),
		"least width":     plate(math.MinInt, 1, 1),
		"greatest width":  plate(math.MaxInt, 1, 1),
		"thick 0":         plate(1, 0, 1),
		"thick below 0":   plate(1, -1, 1),
		"thick 1001":      plate(1, 1001, 1),
		"least thick":     plate(1, math.MinInt, 1),
		"greatest thick":  plate(1, math.MaxInt, 1),
		"height below 0":  plate(1, 1, -1),
		"height 10001":    plate(1, 1, 10001),
		"least height":    plate(1, 1, math.MinInt),
		"greatest height": plate(1, 1, math.MaxInt),
		"both below 0":    plate(-1, -1, 1),
	} {
		list[name] = []impl.Plate{p}
		list[name+", first"] = []impl.Plate{p, right, right}
		list[name+", last"] = []impl.Plate{right, right, p}
	}
	return list
}

const level = 1000000000

// drawnHistory goes in steps of a few sizes, so that swings are often alike.
func drawnHistory(d *draws) []int {
	count := d.below(impl.MaxTurns + 1)
	if d.below(2) == 0 {
		count = d.below(12)
	}
	high := []int{1, 2, 5, 30, 1000, level}[d.below(6)]
	list := make([]int, count)
	for i := range list {
		list[i] = d.between(-high, high)
	}
	return list
}

func zigzag(count int) []int {
	list := make([]int, count)
	for i := range list {
		list[i] = level * (1 - i%2*2)
	}
	return list
}

func someHistories() [][]int {
	list := [][]int{
		nil, {}, {0}, {-level}, {level}, {1, 1}, {1, 2}, {2, 1}, {-level, level}, {level, -level},
		slices.Repeat([]int{3}, impl.MaxTurns), zigzag(impl.MaxTurns), zigzag(impl.MaxTurns - 1), rising(impl.MaxTurns), falling(impl.MaxTurns),
		widening(impl.MaxTurns), narrowing(impl.MaxTurns),
	}
	d := &draws{state: 13}
	for range 3000 {
		list = append(list, drawnHistory(d))
	}
	return append(list, allShort()...)
}

// allShort are all histories of up to six numbers of four sizes.
func allShort() [][]int {
	list := [][]int{{}}
	for from := 0; len(list[from]) < 6; from++ {
		for n := range 4 {
			list = append(list, append(slices.Clone(list[from]), n))
		}
	}
	return list
}

func rising(count int) []int {
	list := make([]int, count)
	for i := range list {
		list[i] = i - 7
	}
	return list
}

func falling(count int) []int { return backwards(rising(count)) }

func widening(count int) []int {
	list := make([]int, count)
	for i := range list {
		list[i] = i * (1 - i%2*2)
	}
	return list
}

func narrowing(count int) []int { return backwards(widening(count)) }

func backwards(list []int) []int {
	list = slices.Clone(list)
	slices.Reverse(list)
	return list
}

// turnsOf looks at each number of a history without repeats by its place.
func turnsOf(list []int) []int {
	list = slices.Compact(slices.Clone(list))
	var turns []int
	for i, n := range list {
		switch {
		case i == 0 || i == len(list)-1:
			turns = append(turns, n)
		case n > list[i-1] && n > list[i+1] || n < list[i-1] && n < list[i+1]:
			turns = append(turns, n)
		}
	}
	return turns
}

// swingsOf follows the document's words over a list that is written anew each
// time.
func swingsOf(list []int) []impl.Swing {
	var told []impl.Swing
	var left []int
	for _, n := range turnsOf(list) {
		left = append(left, n)
		for k := len(left); k >= 3; k = len(left) {
			x, y := apart(left[k-1], left[k-2]), apart(left[k-2], left[k-3])
			if x < y {
				break
			}
			told = append(told, impl.Swing{Range: y, Half: k == 3})
			if k == 3 {
				left = slices.Delete(left, 0, 1)
			} else {
				left = slices.Delete(left, k-3, k-1)
			}
		}
	}
	for i := 1; i < len(left); i++ {
		told = append(told, impl.Swing{Range: apart(left[i-1], left[i]), Half: true})
	}
	return told
}

func apart(a, b int) int { return int(math.Abs(float64(a - b))) }

func halvesOf(s impl.Swing) int {
	if s.Half {
		return 1
	}
	return 2
}

func wrongHistories() map[string][]int {
	list := map[string][]int{
		"a number too many":         zigzag(impl.MaxTurns + 1),
		"too many of one number":    make([]int, impl.MaxTurns+1),
		"a rise too long":           rising(impl.MaxTurns + 1),
		"far too many":              make([]int, 10*impl.MaxTurns),
		"all that is wrong at once": slices.Repeat([]int{level + 1}, impl.MaxTurns+1),
	}
	for name, n := range map[string]int{"below the least": -level - 1, "above the greatest": level + 1, "the least": math.MinInt, "the greatest": math.MaxInt} {
		list[name+" alone"] = []int{n}
		list[name+" first"] = []int{n, 1, 0, 2}
		list[name+" within"] = []int{0, 1, n, 1, 0}
		list[name+" last"] = []int{0, 2, 1, n}
		list[name+" twice"] = []int{0, n, n, 0}
	}
	return list
}
