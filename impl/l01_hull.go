package impl

const (
	MaxMinute   = 100000000
	MaxStations = 12
	MaxWaters   = 10
	MaxHalf     = 50
)

const (
	minStations = 2
	minWaters   = 2
	maxStep     = 100
	maxRise     = 20
	maxVolume   = 1000000000
)

type Hull struct {
	Step int
	Rise int
	Half [][]int
}

func HullOk(h Hull) bool {
	if !within(h.Step, 1, maxStep) || !within(h.Rise, 1, maxRise) {
		return false
	}
	if !within(len(h.Half), minStations, MaxStations) {
		return false
	}
	waters := len(h.Half[0])
	if !within(waters, minWaters, MaxWaters) {
		return false
	}
	for s := range len(h.Half) {
		if len(h.Half[s]) != waters || !halvesOk(station(h, s)) {
			return false
		}
	}
	return true
}

func Plane(h Hull, w int) int {
	if !isWater(h, w) {
		return 0
	}
	sum := 0
	for s := range stripCount(h) {
		a, b := bothHalves(h, s, w)
		sum += h.Step * (a + b)
	}
	return sum
}

func Inertia3(h Hull, w int) int {
	if !isWater(h, w) {
		return 0
	}
	sum := 0
	for s := range stripCount(h) {
		a, b := bothHalves(h, s, w)
		sum += h.Step * (a*a*a + b*b*b)
	}
	return sum
}

func Strips2(h Hull, w int) []int {
	if !isWater(h, w) {
		return nil
	}
	list := make([]int, stripCount(h))
	for s := range len(list) {
		list[s] = h.Rise * h.Step * stripHalves(h, s, w)
	}
	return list
}

func Volume2(h Hull, w int) int {
	sum := 0
	for _, strip := range Strips2(h, w) {
		sum += strip
	}
	return sum
}

func Height4(h Hull, w int) int {
	if !isWater(h, w) {
		return 0
	}
	sum := 0
	for k := range w {
		sum += h.Rise * (Plane(h, k) + Plane(h, k+1)) * h.Rise * (2*k + 1)
	}
	return sum
}

func Along4(h Hull, w int) int {
	sum := 0
	for s, strip := range Strips2(h, w) {
		sum += strip * h.Step * (2*s + 1)
	}
	return sum
}

func Afloat(h Hull, volume int) int {
	// The bound comes ahead of the doubling, which could wrap round otherwise.
	if !HullOk(h) || !within(volume, 0, maxVolume) {
		return -1
	}
	for w := range waterCount(h) {
		if Volume2(h, w) >= 2*volume {
			return w
		}
	}
	return -1
}

func Mirror(h Hull) Hull {
	if !HullOk(h) {
		return Hull{}
	}
	last := len(h.Half) - 1
	half := make([][]int, len(h.Half))
	for s := range len(half) {
		half[s] = ownCopy(station(h, last-s))
	}
	return Hull{Step: h.Step, Rise: h.Rise, Half: half}
}

func within(n int, low int, high int) bool {
	return low <= n && n <= high
}

func halvesOk(halves []int) bool {
	for _, half := range halves {
		if !within(half, 0, MaxHalf) {
			return false
		}
	}
	return true
}

func isWater(h Hull, w int) bool {
	return HullOk(h) && within(w, 0, waterCount(h)-1)
}

// waterCount and stripCount are asked of right hulls alone: these have a
// station, and as many water lines at each.
func waterCount(h Hull) int {
	return len(h.Half[0])
}

func stripCount(h Hull) int {
	return len(h.Half) - 1
}

// station is cut to its own length, so that what is put behind it can't land
// in the spare room of the list that was handed in.
func station(h Hull, s int) []int {
	row := h.Half[s]
	return row[:len(row):len(row)]
}

func ownCopy[T any](list []T) []T {
	own := make([]T, len(list))
	copy(own, list)
	return own
}

func bothHalves(h Hull, strip int, w int) (int, int) {
	return station(h, strip)[w], station(h, strip+1)[w]
}

// stripHalves counts a water line between the lowest and w twice: it bounds a
// layer above it and one below it.
func stripHalves(h Hull, strip int, w int) int {
	sum := 0
	for k := range w {
		a, b := bothHalves(h, strip, k)
		c, d := bothHalves(h, strip, k+1)
		sum += a + b + c + d
	}
	return sum
}
