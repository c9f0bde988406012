package tests

import (
	"math"
	"reflect"
	"slices"
	"testing"

	"loop.example/g00059/impl"
)

// Promise 24: each function answers, and a wrong input has one fixed answer.

func TestHullFunctionsOfWrongHulls(t *testing.T) {
	for name, h := range wrongHulls() {
		for _, w := range append(wrongWaters(3), 0, 1, 2) {
			checkNothing(t, name, h, w)
		}
		for _, volume := range []int{math.MinInt, -1, 0, 1, 1000000000, 1000000001, math.MaxInt} {
			if got := impl.Afloat(h, volume); got != -1 {
				t.Error("Afloat", name, volume, got)
			}
		}
		if got := impl.Mirror(h); !reflect.DeepEqual(got, impl.Hull{}) {
			t.Error("Mirror", name, got)
		}
	}
}

func TestHullFunctionsOfWrongWaters(t *testing.T) {
	for _, h := range someHulls() {
		for _, w := range wrongWaters(len(h.Half[0])) {
			checkNothing(t, "right hull", h, w)
		}
	}
}

func checkNothing(t *testing.T, name string, h impl.Hull, w int) {
	t.Helper()
	if got := impl.Strips2(h, w); len(got) != 0 {
		t.Error("Strips2", name, w, got)
	}
	for i, got := range numbersAt(h, w) {
		if got != 0 {
			t.Error("number", i, "of", name, w, got)
		}
	}
}

func numbersAt(h impl.Hull, w int) []int {
	return []int{impl.Plane(h, w), impl.Inertia3(h, w), impl.Volume2(h, w), impl.Height4(h, w), impl.Along4(h, w)}
}

// answers are all that the chapter tells of a hull.
type answers struct {
	ok      bool
	numbers [][]int
	strips  [][]int
	afloat  []int
	mirror  impl.Hull
}

func allAnswers(h impl.Hull) answers {
	a := answers{ok: impl.HullOk(h), mirror: impl.Mirror(h)}
	for w := -1; w <= impl.MaxWaters+1; w++ {
		a.numbers = append(a.numbers, numbersAt(h, w))
		a.strips = append(a.strips, impl.Strips2(h, w))
	}
	for _, volume := range []int{-1, 0, 1, 10, 100, 1000, 100000, 1000000000, 1000000001} {
		a.afloat = append(a.afloat, impl.Afloat(h, volume))
	}
	return a
}

const behind = 7

// roomy is the hull with room behind the list of stations and behind each
// station, filled with a number that would be a right half-breadth.
func roomy(h impl.Hull) impl.Hull {
	half := make([][]int, 0, len(h.Half)+3)
	for _, row := range h.Half {
		half = append(half, append(slices.Clone(row), behind, behind, behind)[:len(row)])
	}
	for i := len(half); i < cap(half); i++ {
		half[:cap(half)][i] = slices.Repeat([]int{behind}, impl.MaxWaters)
	}
	return impl.Hull{Step: h.Step, Rise: h.Rise, Half: half}
}

// wholeOf copies all that a hull's lists have, the room behind them too.
func wholeOf(h impl.Hull) [][]int {
	var whole [][]int
	for _, row := range h.Half[:cap(h.Half)] {
		whole = append(whole, slices.Clone(row[:cap(row)]))
	}
	return whole
}

func hullsOfAllKinds() []impl.Hull {
	list := someHulls()
	for _, h := range wrongHulls() {
		list = append(list, h)
	}
	return list
}

func TestHullArgumentsAreNotChanged(t *testing.T) {
	for _, plain := range hullsOfAllKinds() {
		h := roomy(plain)
		before := wholeOf(h)
		a := allAnswers(h)
		if !reflect.DeepEqual(wholeOf(h), before) {
			t.Error("written into", plain)
		}
		if !reflect.DeepEqual(a, allAnswers(plain)) {
			t.Error("what lies behind the lists is looked at", plain)
		}
	}
}

// overwrite writes all over a list and the room behind it.
func overwrite(list []int) {
	for i := range list[:cap(list)] {
		list[:cap(list)][i] = -99
	}
}

func TestStrips2IsNewMemory(t *testing.T) {
	for _, plain := range someHulls() {
		h := roomy(plain)
		before := wholeOf(h)
		for w := range h.Half[0] {
			got := impl.Strips2(h, w)
			want := slices.Clone(got)
			overwrite(got)
			if !reflect.DeepEqual(wholeOf(h), before) {
				t.Fatal("Strips2 shares memory with its hull", plain, w)
			}
			if !slices.Equal(impl.Strips2(h, w), want) {
				t.Fatal("Strips2 shares memory with an earlier answer", plain, w)
			}
		}
	}
}

func TestMirrorIsNewMemory(t *testing.T) {
	for _, plain := range someHulls() {
		h := roomy(plain)
		before := wholeOf(h)
		m := impl.Mirror(h)
		for s := range m.Half {
			others := wholeOf(m)
			overwrite(m.Half[s])
			others[s] = m.Half[s][:cap(m.Half[s])]
			if !reflect.DeepEqual(wholeOf(m)[:len(m.Half)], others[:len(m.Half)]) {
				t.Fatal("two stations of a mirrored hull share memory", plain, s)
			}
		}
		m.Half = m.Half[:cap(m.Half)]
		clear(m.Half)
		if !reflect.DeepEqual(wholeOf(h), before) {
			t.Fatal("Mirror shares memory with its hull", plain)
		}
	}
}

func TestMirrorStaysWhenItsHullChanges(t *testing.T) {
	for _, plain := range someHulls() {
		h := roomy(plain)
		m := impl.Mirror(h)
		before := wholeOf(m)
		for _, row := range h.Half {
			overwrite(row)
		}
		clear(h.Half)
		if !reflect.DeepEqual(wholeOf(m), before) {
			t.Fatal("Mirror keeps its hull's memory", plain)
		}
	}
}

// One list may be handed in as several stations, or lists that lie in one
// piece of memory; the answer's stations are apart all the same.
func TestMirrorPartsWhatIsShared(t *testing.T) {
	row := []int{1, 2, 3}
	m := impl.Mirror(impl.Hull{Step: 1, Rise: 1, Half: [][]int{row, row, row}})
	m.Half[0][0] = 9
	if row[0] != 1 || m.Half[1][0] != 1 || m.Half[2][0] != 1 {
		t.Error("one list as three stations", row, m)
	}
	piece := []int{1, 2, 3, 4, 5, 6}
	m = impl.Mirror(impl.Hull{Step: 1, Rise: 1, Half: [][]int{piece[:3], piece[3:]}})
	m.Half[1] = append(m.Half[1], 9)
	m.Half[0] = append(m.Half[0], 9)
	want := [][]int{{4, 5, 6, 9}, {1, 2, 3, 9}}
	if !slices.Equal(piece, []int{1, 2, 3, 4, 5, 6}) || !reflect.DeepEqual(m.Half, want) {
		t.Error("lists of one piece", piece, m)
	}
}

func TestHullAnswersAgainAndTogether(t *testing.T) {
	h := unlike()
	want := allAnswers(h)
	told := make(chan answers)
	for range 8 {
		go func() { told <- allAnswers(h) }()
	}
	for range 8 {
		if !reflect.DeepEqual(<-told, want) {
			t.Error("answers hang on earlier calls")
		}
	}
}
