package tests

import (
	"math"
	"math/big"
	"slices"

	"loop.example/g00059/impl"
)

// raft has a box's hull: 2 stations, 2 water lines, a volume of 24 up to the
// upper one, and a metacentre 5/2 above its lowest water line there.
func raft() impl.Hull { return impl.Hull{Step: 2, Rise: 2, Half: [][]int{{3, 3}, {3, 3}}} }

func one(weight, x, z int) []impl.Mass { return []impl.Mass{{Weight: weight, X: x, Z: z}} }

func frac(num, den int) impl.Frac { return impl.Frac{Num: num, Den: den} }

func ratio(f impl.Frac) *big.Rat { return big.NewRat(int64(f.Num), int64(f.Den)) }

// heavy is as many of the same masses.
func heavy(count int, m impl.Mass) []impl.Mass { return slices.Repeat([]impl.Mass{m}, count) }

func drawnMasses(d *draws) []impl.Mass {
	var list []impl.Mass
	for range d.below(impl.MaxMasses + 1) {
		weight := d.below(10) * d.below(10) * d.below(10) * d.below(14)
		list = append(list, impl.Mass{Weight: weight, X: d.between(-1200, 2400), Z: d.below(1001) / d.between(1, 50)})
	}
	return list
}

func drawnTanks(d *draws) []impl.Tank {
	var list []impl.Tank
	for range d.below(impl.MaxTanks + 1) {
		list = append(list, impl.Tank{Length: d.below(101), Breadth: d.below(51) / d.between(1, 10)})
	}
	return list
}

// drawnRooms lie one behind the other, some with stations between, so that no
// station is in two; they are told in a drawn order.
func drawnRooms(d *draws, stations int) []impl.Room {
	var list []impl.Room
	for s := d.below(3); s < stations && len(list) < impl.MaxRooms; {
		last := min(s+d.below(3), stations-1)
		list = append(list, impl.Room{First: s, Last: last, Perm: d.below(101) * d.below(2)})
		s = last + 1 + d.below(3)
	}
	for i := len(list) - 1; i > 0; i-- {
		j := d.below(i + 1)
		list[i], list[j] = list[j], list[i]
	}
	return list
}

// metacentreOf follows the document's words in fractions of any size.
func metacentreOf(h impl.Hull, w int, list []impl.Mass, tanks []impl.Tank) *big.Rat {
	volume2 := int64(impl.Volume2(h, w))
	sum := big.NewRat(int64(impl.Height4(h, w)), 2*volume2)
	sum.Add(sum, big.NewRat(2*int64(impl.Inertia3(h, w)), 3*volume2))
	var weight, mz, surface int64
	for _, m := range list {
		weight += int64(m.Weight)
		mz += int64(m.Weight * m.Z)
	}
	for _, k := range tanks {
		surface += int64(k.Length * k.Breadth * k.Breadth * k.Breadth)
	}
	sum.Sub(sum, big.NewRat(mz, weight))
	return sum.Sub(sum, big.NewRat(surface, 6*volume2))
}

func weightOf(list []impl.Mass) int {
	sum := 0
	for _, m := range list {
		sum += m.Weight
	}
	return sum
}

// floodOf goes through the rooms station by station.
func floodOf(h impl.Hull, rooms []impl.Room) impl.Hull {
	got := impl.Hull{Step: h.Step, Rise: h.Rise}
	for s, row := range h.Half {
		perm := 0
		for _, r := range rooms {
			if r.First <= s && s <= r.Last {
				perm = r.Perm
			}
		}
		var left []int
		for _, y := range row {
			left = append(left, int(math.Floor(float64(y*(100-perm))/100)))
		}
		got.Half = append(got.Half, left)
	}
	return got
}

// standsOf follows the document's words for right arguments.
func standsOf(h impl.Hull, list []impl.Mass, tanks []impl.Tank, rooms []impl.Room, least impl.Frac) int {
	holed := floodOf(h, rooms)
	w := impl.Afloat(holed, weightOf(list))
	if w < 0 {
		return impl.StandsSunk
	}
	if metacentreOf(holed, w, list, tanks).Cmp(ratio(least)) < 0 {
		return impl.StandsTender
	}
	return impl.StandsWell
}

// wrongMasses pass one limit each, most of them by one.
func wrongMasses() map[string][]impl.Mass {
	right := impl.Mass{Weight: 1, X: 1, Z: 1}
	list := map[string][]impl.Mass{
		"a mass too many":            heavy(impl.MaxMasses+1, right),
		"a mass of nothing too many": heavy(impl.MaxMasses+1, impl.Mass{}),
	}
	wrong := map[string]impl.Mass{
		"weight below 0":  {Weight: -1, X: 1, Z: 1},
		"weight 10001":    {Weight: 10001, X: 1, Z: 1},
		"x -1201":         {Weight: 1, X: -1201, Z: 1},
		"x 2401":          {Weight: 1, X: 2401, Z: 1},
		"z below 0":       {Weight: 1, X: 1, Z: -1},
		"z 1001":          {Weight: 1, X: 1, Z: 1001},
		"least weight":    {Weight: math.MinInt, X: 1, Z: 1},
		"greatest weight": {Weight: math.MaxInt, X: 1, Z: 1},
		"least x":         {Weight: 1, X: math.MinInt, Z: 1},
		"greatest x":      {Weight: 1, X: math.MaxInt, Z: 1},
		"least z":         {Weight: 1, X: 1, Z: math.MinInt},
		"greatest z":      {Weight: 1, X: 1, Z: math.MaxInt},
		"weightless, x":   {Weight: 0, X: 2401, Z: 1},
		"weightless, z":   {Weight: 0, X: 1, Z: 1001},
	}
	for name, m := range wrong {
		list[name+", first"] = []impl.Mass{m, right, right}
		list[name+", last"] = []impl.Mass{right, right, m}
	}
	return list
}

// weighNothing are right masses that no water line is asked for.
func weighNothing() map[string][]impl.Mass {
	return map[string][]impl.Mass{
		"no masses":                 nil,
		"no masses, but a list":     {},
		"a mass of nothing":         one(0, 5, 5),
		"many masses of nothing":    heavy(impl.MaxMasses, impl.Mass{X: 2400, Z: 1000}),
		"masses that are no masses": {{}, {}},
	}
}

func wrongTanks() map[string][]impl.Tank {
	right := impl.Tank{Length: 1, Breadth: 1}
	list := map[string][]impl.Tank{
		"a tank too many":            slices.Repeat([]impl.Tank{right}, impl.MaxTanks+1),
		"a tank of nothing too many": make([]impl.Tank, impl.MaxTanks+1),
	}
	wrong := map[string]impl.Tank{
		"length below 0":     {Length: -1, Breadth: 1},
		"length 101":         {Length: 101, Breadth: 1},
		"breadth below 0":    {Length: 1, Breadth: -1},
		"breadth 51":         {Length: 1, Breadth: 51},
		"no length, breadth": {Length: 0, Breadth: 51},
		"no breadth, length": {Length: 101, Breadth: 0},
		"least length":       {Length: math.MinInt, Breadth: 1},
		"greatest length":    {Length: math.MaxInt, Breadth: 1},
		"least breadth":      {Length: 1, Breadth: math.MinInt},
		"greatest breadth":   {Length: 1, Breadth: math.MaxInt},
	}
	for name, k := range wrong {
		list[name+", first"] = []impl.Tank{k, right}
		list[name+", last"] = []impl.Tank{right, k}
	}
	return list
}

// roomed is a hull of MaxStations stations, which has place for MaxRooms rooms.
func roomed() impl.Hull { return box(impl.MaxStations, 3, 2, 2, 40) }

// singles are rooms of one station each, from station 0 on.
func singles(count, perm int) []impl.Room {
	var list []impl.Room
	for s := range count {
		list = append(list, impl.Room{First: s, Last: s, Perm: perm})
	}
	return list
}

// wrongRooms are none of roomed.
func wrongRooms() map[string][]impl.Room {
	right := impl.Room{First: 2, Last: 3, Perm: 50}
	list := map[string][]impl.Room{
		"a room too many":           singles(impl.MaxRooms+1, 50),
		"a dry room too many":       singles(impl.MaxRooms+1, 0),
		"the same room twice":       {right, right},
		"the same dry room twice":   {{First: 2, Last: 2}, {First: 2, Last: 2}},
		"last is the next's first":  {right, {First: 3, Last: 4, Perm: 50}},
		"first is the next's last":  {right, {First: 1, Last: 2, Perm: 50}},
		"a room in another":         {{First: 1, Last: 5, Perm: 50}, right},
		"a room about another":      {right, {First: 1, Last: 5, Perm: 50}},
		"first and third meet":      {right, {First: 6, Last: 7, Perm: 50}, {First: 3, Last: 5, Perm: 50}},
		"one of them all and all":   {{First: 0, Last: 11, Perm: 50}, {First: 11, Last: 11, Perm: 50}},
		"second and the last meet":  {right, {First: 6, Last: 7, Perm: 50}, {First: 9, Last: 9}, {First: 7, Last: 8}},
		"dry and holed meet":        {{First: 2, Last: 3}, {First: 3, Last: 3, Perm: 100}},
		"a wrong one that meets it": {right, {First: 3, Last: 2, Perm: 50}},
	}
	wrong := map[string]impl.Room{
		"first below 0":         {First: -1, Last: 0, Perm: 50},
		"both below 0":          {First: -1, Last: -1, Perm: 50},
		"last past the end":     {First: 11, Last: 12, Perm: 50},
		"both past the end":     {First: 12, Last: 12, Perm: 50},
		"first above last":      {First: 6, Last: 5, Perm: 50},
		"perm below 0":          {First: 5, Last: 6, Perm: -1},
		"perm 101":              {First: 5, Last: 6, Perm: 101},
		"least first":           {First: math.MinInt, Last: 0, Perm: 50},
		"greatest last":         {First: 5, Last: math.MaxInt, Perm: 50},
		"greatest first":        {First: math.MaxInt, Last: 5, Perm: 50},
		"least last":            {First: 5, Last: math.MinInt, Perm: 50},
		"greatest both":         {First: math.MaxInt, Last: math.MaxInt, Perm: 50},
		"least perm":            {First: 5, Last: 5, Perm: math.MinInt},
		"greatest perm":         {First: 5, Last: 5, Perm: math.MaxInt},
		"first above last, dry": {First: 6, Last: 5},
	}
	for name, r := range wrong {
		list[name] = []impl.Room{r}
		list[name+", last"] = []impl.Room{right, r}
		list[name+", first"] = []impl.Room{r, right}
	}
	return list
}

// wrongLeasts are no fractions, or greater than the chapter takes.
func wrongLeasts() []impl.Frac {
	list := []impl.Frac{
		{}, frac(1, 0), frac(-1, 0), frac(0, -1), frac(1, -1), frac(1, -2), frac(-1, -1), frac(-3, -2),
		frac(0, 2), frac(0, 1000), frac(2, 2), frac(2, 4), frac(-2, 4), frac(6, 4), frac(-9, 3), frac(1000, 1000),
		frac(999, 999), frac(-1000, 1000), frac(500, 1000),
		frac(1001, 1), frac(-1001, 1), frac(1, 1001), frac(-1, 1001), frac(0, 1001), frac(1001, 1001),
		frac(math.MaxInt, 1), frac(math.MinInt, 1), frac(1, math.MaxInt), frac(1, math.MinInt),
		frac(math.MinInt, math.MinInt), frac(math.MinInt, -1), frac(math.MaxInt, math.MaxInt), frac(math.MinInt, 0),
	}
	return list
}
