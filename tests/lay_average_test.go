package tests

import (
	"slices"
	"testing"

	"loop.example/g00059/impl"
)

func checkAverage(t *testing.T, values []int, loss int, want []int, ok bool) {
	t.Helper()
	if got, told := impl.Average(values, loss); !slices.Equal(got, want) || told != ok {
		t.Error(values, loss, "got", got, told, "not", want, ok)
	}
}

func checkNoAverage(t *testing.T, values []int, loss int) {
	t.Helper()
	checkAverage(t, values, loss, nil, false)
}

func TestAverageByHand(t *testing.T) {
	checkAverage(t, []int{1, 1, 1}, 2, []int{1, 1, 0}, true)
	checkAverage(t, []int{10, 20, 30}, 6, []int{1, 2, 3}, true)
	checkAverage(t, []int{10, 20, 30}, 7, []int{1, 2, 4}, true)
	checkAverage(t, []int{10, 20, 30}, 8, []int{1, 3, 4}, true)
	checkAverage(t, []int{10, 20, 30}, 9, []int{2, 3, 4}, true)
	checkAverage(t, []int{10, 20, 30}, 10, []int{2, 3, 5}, true)
	checkAverage(t, []int{10, 20, 30}, 11, []int{2, 4, 5}, true)
	checkAverage(t, []int{5, 3, 1}, 4, []int{2, 1, 1}, true)
	checkAverage(t, []int{1, 3, 5}, 4, []int{1, 1, 2}, true)
	checkAverage(t, []int{0, 7, 0}, 3, []int{0, 3, 0}, true)
}

func TestAverageOfOneValue(t *testing.T) {
	for _, value := range []int{1, 2, 7, mostMoney} {
		for _, loss := range []int{0, 1, value / 2, value - 1, value} {
			checkAverage(t, []int{value}, loss, []int{loss}, true)
		}
		checkNoAverage(t, []int{value}, value+1)
		checkNoAverage(t, []int{value}, -1)
	}
	checkNoAverage(t, []int{0}, 0)
	checkNoAverage(t, []int{0}, 1)
	checkNoAverage(t, []int{-1}, 0)
	checkNoAverage(t, []int{mostMoney + 1}, 5)
}

func TestAverageOfHowMany(t *testing.T) {
	checkNoAverage(t, nil, 0)
	checkNoAverage(t, []int{}, 0)
	for _, count := range []int{1, 2, 39, 40} {
		for _, loss := range []int{0, 1, count - 1, count} {
			want := append(slices.Repeat([]int{1}, loss), make([]int, count-loss)...)
			checkAverage(t, slices.Repeat([]int{1}, count), loss, want, true)
		}
		checkNoAverage(t, slices.Repeat([]int{1}, count), count+1)
	}
	for _, loss := range []int{0, 1, 40, 41} {
		checkNoAverage(t, slices.Repeat([]int{1}, 41), loss)
	}
}

func TestAverageAtTheEdgesOfAValue(t *testing.T) {
	checkAverage(t, []int{0, 5}, 4, []int{0, 4}, true)
	checkAverage(t, []int{5, 0}, 4, []int{4, 0}, true)
	checkAverage(t, []int{mostMoney, 0}, mostMoney, []int{mostMoney, 0}, true)
	checkAverage(t, []int{mostMoney, mostMoney}, mostMoney, []int{mostMoney / 2, mostMoney / 2}, true)
	checkAverage(t, []int{mostMoney, mostMoney}, mostMoney-1, []int{mostMoney / 2, mostMoney/2 - 1}, true)
	checkAverage(t, append(make([]int, 39), 9), 5, append(make([]int, 39), 5), true)
	for _, values := range [][]int{{-1, 5}, {5, -1}, {mostMoney + 1, 5}, {5, mostMoney + 1}, {0, 0}, {0, 0, 0}, make([]int, 40)} {
		for _, loss := range []int{0, 1, 4} {
			checkNoAverage(t, values, loss)
		}
	}
}

func TestAverageAtTheEdgesOfALoss(t *testing.T) {
	values := []int{mostMoney, mostMoney, 7}
	checkNoAverage(t, values, -1)
	checkAverage(t, values, 0, []int{0, 0, 0}, true)
	checkAverage(t, values, mostMoney, []int{499999998, 499999998, 4}, true)
	checkNoAverage(t, values, mostMoney+1)
	checkNoAverage(t, values, 2*mostMoney+7)
	checkAverage(t, []int{3, 4}, 7, []int{3, 4}, true)
	checkNoAverage(t, []int{3, 4}, 8)
	checkAverage(t, []int{mostMoney - 1, 1}, mostMoney, []int{mostMoney - 1, 1}, true)
	checkNoAverage(t, []int{mostMoney - 1}, mostMoney)
	checkNoAverage(t, []int{mostMoney - 2, 1}, mostMoney)
	checkAverage(t, slices.Repeat([]int{mostMoney}, 40), mostMoney, slices.Repeat([]int{mostMoney / 40}, 40), true)
}

// Of rests that are alike the first ones are given to, whatever the values.
func TestAverageOfRestsThatAreAlike(t *testing.T) {
	checkAverage(t, []int{5, 5, 5, 5}, 2, []int{1, 1, 0, 0}, true)
	checkAverage(t, []int{1, 3, 1, 3}, 4, []int{1, 2, 0, 1}, true)
	checkAverage(t, []int{3, 1, 3, 1}, 4, []int{2, 1, 1, 0}, true)
	checkAverage(t, []int{1, 5, 9, 1}, 4, []int{1, 1, 2, 0}, true)
	checkAverage(t, []int{9, 5, 1, 1}, 4, []int{3, 1, 0, 0}, true)
	for loss := range 11 {
		want := append(slices.Repeat([]int{1}, loss), make([]int, 10-loss)...)
		checkAverage(t, slices.Repeat([]int{100}, 10), loss, want, true)
		for i := range want {
			want[i] += 7
		}
		checkAverage(t, slices.Repeat([]int{100}, 10), 70+loss, want, true)
	}
}

// Who bears nothing of it, or just whole units, is given none of what is left.
func TestAverageOfRestsOfNothing(t *testing.T) {
	checkAverage(t, []int{0, 1, 0, 1, 0}, 1, []int{0, 1, 0, 0, 0}, true)
	checkAverage(t, []int{4, 1, 1, 2}, 2, []int{1, 0, 0, 1}, true)
	checkAverage(t, []int{4, 2, 2, 8}, 4, []int{1, 1, 0, 2}, true)
	checkAverage(t, []int{8, 0, 2, 4, 2}, 4, []int{2, 0, 1, 1, 0}, true)
	for factor := range 20 {
		checkAverage(t, []int{20, 40, 0, 60}, 6*factor, []int{factor, 2 * factor, 0, 3 * factor}, true)
	}
}

func TestAverageOfManyKinds(t *testing.T) {
	d := &draws{state: 162}
	for range 5000 {
		values := drawnValues(d)
		loss := drawnLoss(d, values)
		want, ok := averageOf(values, loss)
		checkAverage(t, values, loss, want, ok)
	}
}

// All short lists of small values, with each loss and those just beyond.
func TestAverageOfAllSmallOnes(t *testing.T) {
	for a := -1; a <= 4; a++ {
		for b := -1; b <= 4; b++ {
			for c := -1; c <= 4; c++ {
				for loss := -1; loss <= 13; loss++ {
					values := []int{a, b, c}
					want, ok := averageOf(values, loss)
					checkAverage(t, values, loss, want, ok)
				}
			}
		}
	}
}

// Shares come to the loss, each within one unit of its part.
func TestSharesComeToTheLoss(t *testing.T) {
	d := &draws{state: 163}
	for range 20000 {
		values := drawnValues(d)
		loss := drawnLoss(d, values)
		shares, ok := impl.Average(values, loss)
		if !ok || len(shares) != len(values) || sumOf(shares) != loss {
			t.Fatal(values, loss, shares, ok)
		}
		whole := sumOf(values)
		for i, share := range shares {
			lower := loss * values[i] / whole
			isWhole := loss*values[i]%whole == 0
			if share < lower || share > lower+1 || isWhole && share != lower || share > values[i] {
				t.Fatal(values, loss, shares, "at", i)
			}
		}
	}
}

// Nobody is given a unit ahead of one whose rest is greater, or as great and
// who stands ahead.
func TestUnitsGoToTheGreatestRests(t *testing.T) {
	d := &draws{state: 164}
	for range 10000 {
		values := drawnValues(d)
		loss := drawnLoss(d, values)
		shares, _ := impl.Average(values, loss)
		whole := sumOf(values)
		rest := func(i int) int { return loss * values[i] % whole }
		for i := range shares {
			for k := range shares {
				isAhead := rest(k) > rest(i) || rest(k) == rest(i) && k < i
				if isAhead && shares[i] > loss*values[i]/whole && shares[k] == loss*values[k]/whole {
					t.Fatal(values, loss, shares, i, "ahead of", k)
				}
			}
		}
	}
}
