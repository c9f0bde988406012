package tests

import (
	"slices"
	"testing"

	"loop.example/g00059/impl"
)

// Promise 13: cargo is neither made nor lost by moves; nothing that is done may
// burn; what stands below the top never grows with more.

func TestCargoConstants(t *testing.T) {
	got := []int{impl.MaxCargoTanks, impl.MaxCargoOps, impl.CargoFill, impl.CargoEmpty, impl.CargoMove, impl.CargoInert, impl.CargoVent,
		impl.CargoDone, impl.CargoBad, impl.CargoDry, impl.CargoOver, impl.CargoBurns, impl.CargoLeans}
	if want := []int{12, 100, 1, 2, 3, 4, 5, 0, 1, 2, 3, 4, 5}; !slices.Equal(got, want) {
		t.Error(got, "not", want)
	}
}

func TestTanksOkAtTheirLimits(t *testing.T) {
	for name, c := range map[string]impl.CargoTank{
		"empty": {}, "Has 0": inert(0, 9), "just Most": inert(9, 9), "one below Most": inert(8, 9), "Most 10^5": inert(0, 100000), "full of 10^5": inert(100000, 100000),
		"Side -50": cargo(5, 9, -50, 0, 0), "Side 50": cargo(5, 9, 50, 0, 0), "Side -1": cargo(5, 9, -1, 0, 0), "Gas 0": above(0, 500), "Gas 1000": above(1000, 0),
		"Air 0": above(500, 0), "Air 1000": above(0, 1000), "together 1000": above(400, 600), "together 999": above(400, 599), "Gas 999 and Air 1": above(999, 1),
		"one that may burn": above(300, 300), "full, with air": cargo(9, 9, 0, 300, 700),
	} {
		if !impl.TanksOk(cargoes{c}) {
			t.Error(name, "is not ok")
		}
		if !impl.TanksOk(slices.Repeat(cargoes{c}, 12)) {
			t.Error("12 of", name, "are not ok")
		}
		if impl.TanksOk(slices.Repeat(cargoes{c}, 13)) {
			t.Error("13 of", name, "are ok")
		}
	}
	if impl.TanksOk(nil) || impl.TanksOk(cargoes{}) {
		t.Error("no tank is ok")
	}
	for name, list := range wrongCargoes() {
		if impl.TanksOk(list) {
			t.Error(name, "is ok")
		}
	}
}

func TestTanksOkOfDrawnOnes(t *testing.T) {
	d := &draws{state: 159}
	seen := map[bool]int{}
	for range 5000 {
		list := drawnCargoes(d)
		c := &list[d.below(len(list))]
		for range d.below(5) {
			*[]*int{&c.Has, &c.Most, &c.Side, &c.Gas, &c.Air}[d.below(5)] += d.between(-2, 2)
		}
		if impl.TanksOk(list) != cargoesOk(list) {
			t.Fatal(list)
		}
		seen[cargoesOk(list)]++
	}
	if seen[true] < 1000 || seen[false] < 1000 {
		t.Error("few drawn", seen)
	}
}

func checkCargo(t *testing.T, list cargoes, op impl.CargoOp, lean int, want cargoes, code int) {
	t.Helper()
	if got, told := impl.CargoStep(list, op, lean); !slices.Equal(got, want) || told != code {
		t.Error(list, op, lean, "got", got, told, "not", want, code)
	}
}

// checkCargoDone is a step of a single tank, without a bound for its lean.
func checkCargoDone(t *testing.T, c impl.CargoTank, op impl.CargoOp, want impl.CargoTank) {
	t.Helper()
	checkCargo(t, cargoes{c}, op, 100000000, cargoes{want}, impl.CargoDone)
}

func checkCargoNot(t *testing.T, list cargoes, op impl.CargoOp, lean, code int) {
	t.Helper()
	checkCargo(t, list, op, lean, list, code)
}

func TestCargoStepByHand(t *testing.T) {
	list := cargoes{cargo(50, 100, 1, 100, 50), cargo(0, 60, -1, 0, 0), cargo(7, 20, 3, 900, 100)}
	checkCargo(t, list, filling(0, 20), 1000, cargoes{cargo(70, 100, 1, 100, 50), list[1], list[2]}, impl.CargoDone)
	checkCargo(t, list, filling(2, 1), 1000, cargoes{list[0], list[1], cargo(8, 20, 3, 900, 100)}, impl.CargoDone)
	checkCargo(t, list, emptying(0, 50), 1000, cargoes{cargo(0, 100, 1, 50, 25), list[1], list[2]}, impl.CargoDone)
	checkCargo(t, list, emptying(2, 7), 1000, cargoes{list[0], list[1], cargo(0, 20, 3, 585, 65)}, impl.CargoDone)
	checkCargo(t, list, pouring(0, 1, 50), 1000, cargoes{cargo(0, 100, 1, 50, 25), cargo(50, 60, -1, 0, 0), list[2]}, impl.CargoDone)
	checkCargo(t, list, pouring(0, 2, 10), 1000, cargoes{cargo(40, 100, 1, 83, 41), list[1], cargo(17, 20, 3, 900, 100)}, impl.CargoDone)
	checkCargo(t, list, pouring(2, 0, 2), 1000, cargoes{cargo(52, 100, 1, 100, 50), list[1], cargo(5, 20, 3, 780, 86)}, impl.CargoDone)
	checkCargo(t, list, inerting(2, 50), 1000, cargoes{list[0], list[1], cargo(7, 20, 3, 450, 50)}, impl.CargoDone)
	checkCargo(t, list, inerting(1, 100), 1000, list, impl.CargoDone)
	checkCargo(t, list, venting(0, 5), 1000, cargoes{cargo(50, 100, 1, 95, 97), list[1], list[2]}, impl.CargoDone)
	checkCargo(t, list, venting(1, 100), 1000, cargoes{list[0], cargo(0, 60, -1, 0, 1000), list[2]}, impl.CargoDone)
	checkCargo(t, list, venting(2, 30), 1000, cargoes{list[0], list[1], cargo(7, 20, 3, 630, 370)}, impl.CargoDone)
}

// The room ahead and that behind count, not what the tank has.
func TestWhatGoesOutDrawsInInertGas(t *testing.T) {
	checkCargoDone(t, cargo(9, 9, 0, 600, 400), emptying(0, 1), cargo(8, 9, 0, 0, 0))
	checkCargoDone(t, cargo(9, 9, 0, 1000, 0), emptying(0, 9), cargo(0, 9, 0, 0, 0))
	checkCargoDone(t, cargo(100000, 100000, 0, 20, 980), emptying(0, 100000), cargo(0, 100000, 0, 0, 0))
	checkCargoDone(t, cargo(8, 9, 0, 0, 1000), emptying(0, 1), cargo(7, 9, 0, 0, 500))
	checkCargoDone(t, cargo(8, 9, 0, 0, 1000), emptying(0, 2), cargo(6, 9, 0, 0, 333))
	checkCargoDone(t, cargo(8, 9, 0, 1000, 0), emptying(0, 8), cargo(0, 9, 0, 111, 0))
	checkCargoDone(t, cargo(6, 9, 0, 1, 1), emptying(0, 1), cargo(5, 9, 0, 0, 0))
	checkCargoDone(t, cargo(6, 9, 0, 7, 5), emptying(0, 1), cargo(5, 9, 0, 5, 3))
	checkCargoDone(t, cargo(6, 9, 0, 4, 8), emptying(0, 1), cargo(5, 9, 0, 3, 6))
	checkCargoDone(t, cargo(1, 100000, 0, 0, 1000), emptying(0, 1), cargo(0, 100000, 0, 0, 999))
	checkCargoDone(t, cargo(1, 100000, 0, 1000, 0), emptying(0, 1), cargo(0, 100000, 0, 999, 0))
	checkCargoDone(t, cargo(99999, 100000, 0, 1000, 0), emptying(0, 99999), cargo(0, 100000, 0, 0, 0))
	checkCargoDone(t, cargo(50000, 100000, 0, 999, 1), emptying(0, 49999), cargo(1, 100000, 0, 499, 0))
	full := cargoes{cargo(9, 9, 0, 600, 400), cargo(0, 9, 0, 700, 300)}
	checkCargo(t, full, pouring(0, 1, 1), 0, cargoes{cargo(8, 9, 0, 0, 0), cargo(1, 9, 0, 700, 300)}, impl.CargoDone)
	checkCargo(t, full, pouring(0, 1, 9), 0, cargoes{cargo(0, 9, 0, 0, 0), cargo(9, 9, 0, 700, 300)}, impl.CargoDone)
}

func TestWhatComesInLeavesGasAndAir(t *testing.T) {
	for _, c := range []impl.CargoTank{above(0, 1000), above(1000, 0), above(19, 981), above(601, 399), above(300, 110), above(7, 3)} {
		for _, many := range []int{1, 7, 49, 50} {
			want := c
			want.Has += many
			checkCargoDone(t, c, filling(0, many), want)
			list := cargoes{inert(60, 60), c}
			checkCargo(t, list, pouring(0, 1, many), 0, cargoes{inert(60-many, 60), want}, impl.CargoDone)
		}
	}
}

func TestGasThatIsBlownIn(t *testing.T) {
	checkCargoDone(t, above(999, 1), inerting(0, 1), above(989, 0))
	checkCargoDone(t, above(1000, 0), inerting(0, 99), above(10, 0))
	checkCargoDone(t, above(600, 400), inerting(0, 100), above(0, 0))
	checkCargoDone(t, above(0, 99), inerting(0, 1), above(0, 98))
	checkCargoDone(t, above(0, 101), inerting(0, 1), above(0, 99))
	checkCargoDone(t, above(7, 3), inerting(0, 50), above(3, 1))
	checkCargoDone(t, above(0, 0), venting(0, 1), above(0, 10))
	checkCargoDone(t, above(0, 1000), venting(0, 1), above(0, 1000))
	checkCargoDone(t, above(0, 999), venting(0, 1), above(0, 999))
	checkCargoDone(t, above(1000, 0), venting(0, 1), above(990, 10))
	checkCargoDone(t, above(999, 1), venting(0, 1), above(989, 10))
	checkCargoDone(t, above(1000, 0), venting(0, 100), above(0, 1000))
	checkCargoDone(t, above(1000, 0), venting(0, 99), above(10, 990))
	checkCargoDone(t, above(19, 33), venting(0, 33), above(12, 352))
	// Neither has to do with how much room there is.
	checkCargoDone(t, cargo(9, 9, 5, 700, 300), inerting(0, 10), cargo(9, 9, 5, 630, 270))
	checkCargoDone(t, cargo(0, 0, 5, 700, 300), venting(0, 10), cargo(0, 0, 5, 630, 370))
}

func TestCargoDryAndOver(t *testing.T) {
	list := cargoes{inert(5, 9), inert(0, 4), inert(7, 7)}
	checkCargo(t, list, emptying(0, 5), 0, cargoes{inert(0, 9), list[1], list[2]}, impl.CargoDone)
	checkCargoNot(t, list, emptying(0, 6), 0, impl.CargoDry)
	checkCargoNot(t, list, emptying(1, 1), 0, impl.CargoDry)
	checkCargoNot(t, list, emptying(0, 100000), 0, impl.CargoDry)
	checkCargo(t, list, filling(0, 4), 0, cargoes{inert(9, 9), list[1], list[2]}, impl.CargoDone)
	checkCargoNot(t, list, filling(0, 5), 0, impl.CargoOver)
	checkCargoNot(t, list, filling(2, 1), 0, impl.CargoOver)
	checkCargoNot(t, list, filling(1, 100000), 0, impl.CargoOver)
	checkCargo(t, list, pouring(0, 1, 4), 0, cargoes{inert(1, 9), inert(4, 4), list[2]}, impl.CargoDone)
	checkCargoNot(t, list, pouring(2, 1, 5), 0, impl.CargoOver)
	checkCargo(t, list, pouring(2, 0, 4), 0, cargoes{inert(9, 9), list[1], inert(3, 7)}, impl.CargoDone)
	checkCargoNot(t, list, pouring(2, 0, 5), 0, impl.CargoOver)
	checkCargoNot(t, list, pouring(0, 2, 5), 0, impl.CargoOver)
	checkCargoNot(t, list, pouring(1, 0, 1), 0, impl.CargoDry)
	great := cargoes{inert(100000, 100000), inert(0, 100000)}
	checkCargo(t, great, pouring(0, 1, 100000), 0, cargoes{inert(0, 100000), inert(100000, 100000)}, impl.CargoDone)
	checkCargo(t, great, filling(1, 100000), 0, cargoes{great[0], inert(100000, 100000)}, impl.CargoDone)
	checkCargo(t, great, emptying(0, 100000), 0, cargoes{inert(0, 100000), great[1]}, impl.CargoDone)
	checkCargoNot(t, great, filling(0, 1), 0, impl.CargoOver)
	checkCargoNot(t, great, emptying(1, 1), 0, impl.CargoDry)
	checkCargoNot(t, cargoes{inert(0, 0)}, filling(0, 1), 0, impl.CargoOver)
	checkCargoNot(t, cargoes{inert(0, 0)}, emptying(0, 1), 0, impl.CargoDry)
}

// burningBounds are shares at both sides of each bound of what may burn.
func burningBounds() map[[2]int]bool {
	return map[[2]int]bool{
		{300, 110}: false, {300, 111}: true, {19, 500}: false, {20, 500}: true, {600, 400}: true, {601, 399}: false,
		{20, 110}: false, {20, 111}: true, {19, 111}: false, {600, 110}: false, {600, 111}: true, {601, 111}: false, {20, 980}: true, {19, 981}: false,
		{0, 1000}: false, {1000, 0}: false, {300, 0}: false, {300, 700}: true,
	}
}

// An op that changes neither Gas nor Air asks whether the tank may burn all the
// same.
func TestCargoBurnsAtItsBounds(t *testing.T) {
	for shares, mayBurn := range burningBounds() {
		c := above(shares[0], shares[1])
		filled := c
		filled.Has++
		code, want, poured := impl.CargoDone, cargoes{filled}, cargoes{inert(49, 60), filled}
		if mayBurn {
			code, want, poured = impl.CargoBurns, cargoes{c}, cargoes{inert(50, 60), c}
		}
		checkCargo(t, cargoes{c}, filling(0, 1), 0, want, code)
		checkCargo(t, cargoes{inert(50, 60), c}, pouring(0, 1, 1), 0, poured, code)
		// One that is not named may burn.
		checkCargo(t, cargoes{inert(5, 9), c}, filling(0, 1), 0, cargoes{inert(6, 9), c}, impl.CargoDone)
		checkCargo(t, cargoes{inert(5, 9), c}, withB(emptying(0, 1), 1), 0, cargoes{inert(4, 9), c}, impl.CargoDone)
		checkCargo(t, cargoes{c, inert(5, 9)}, inerting(1, 5), 0, cargoes{c, inert(5, 9)}, impl.CargoDone)
		checkCargo(t, cargoes{c, inert(5, 9)}, venting(1, 5), 0, cargoes{c, cargo(5, 9, 0, 0, 50)}, impl.CargoDone)
		checkCargo(t, cargoes{inert(5, 9), c, inert(0, 9)}, pouring(0, 2, 5), 0, cargoes{inert(0, 9), c, inert(5, 9)}, impl.CargoDone)
	}
}

// What counts is what stands above behind the op, not ahead of it.
func TestCargoBurnsBehindTheOp(t *testing.T) {
	burning := cargo(8, 9, 0, 300, 220)
	checkCargoDone(t, burning, emptying(0, 1), cargo(7, 9, 0, 150, 110))
	checkCargoNot(t, cargoes{cargo(8, 9, 0, 300, 222)}, emptying(0, 1), 0, impl.CargoBurns)
	checkCargoDone(t, cargo(8, 9, 0, 39, 600), emptying(0, 1), cargo(7, 9, 0, 19, 300))
	checkCargoNot(t, cargoes{cargo(8, 9, 0, 40, 600)}, emptying(0, 1), 0, impl.CargoBurns)
	checkCargoNot(t, cargoes{cargo(6, 9, 0, 720, 280)}, emptying(0, 1), 0, impl.CargoBurns)
	checkCargo(t, cargoes{burning, inert(0, 9)}, pouring(0, 1, 1), 0, cargoes{cargo(7, 9, 0, 150, 110), inert(1, 9)}, impl.CargoDone)
	checkCargoNot(t, cargoes{cargo(8, 9, 0, 300, 222), inert(0, 9)}, pouring(0, 1, 1), 0, impl.CargoBurns)
	checkCargoNot(t, cargoes{cargo(8, 9, 0, 300, 220), above(20, 111)}, pouring(0, 1, 1), 0, impl.CargoBurns)

	checkCargoDone(t, above(300, 221), inerting(0, 50), above(150, 110))
	checkCargoNot(t, cargoes{above(300, 222)}, inerting(0, 50), 0, impl.CargoBurns)
	checkCargoDone(t, above(39, 600), inerting(0, 50), above(19, 300))
	checkCargoNot(t, cargoes{above(40, 600)}, inerting(0, 50), 0, impl.CargoBurns)
	checkCargoDone(t, above(751, 249), inerting(0, 19), above(608, 201))
	checkCargoNot(t, cargoes{above(751, 249)}, inerting(0, 20), 0, impl.CargoBurns)
	checkCargoNot(t, cargoes{above(500, 500)}, inerting(0, 77), 0, impl.CargoBurns)
	checkCargoDone(t, above(500, 500), inerting(0, 78), above(110, 110))

	checkCargoDone(t, above(300, 0), venting(0, 11), above(267, 110))
	checkCargoDone(t, above(300, 1), venting(0, 11), above(267, 110))
	checkCargoNot(t, cargoes{above(300, 2)}, venting(0, 11), 0, impl.CargoBurns)
	checkCargoNot(t, cargoes{above(300, 0)}, venting(0, 12), 0, impl.CargoBurns)
	checkCargoDone(t, above(1000, 0), venting(0, 39), above(610, 390))
	checkCargoNot(t, cargoes{above(1000, 0)}, venting(0, 40), 0, impl.CargoBurns)
	checkCargoNot(t, cargoes{above(1000, 0)}, venting(0, 98), 0, impl.CargoBurns)
	checkCargoDone(t, above(999, 0), venting(0, 98), above(19, 980))
	checkCargoDone(t, above(1000, 0), venting(0, 99), above(10, 990))
}

func TestCargoLeansAtItsBound(t *testing.T) {
	for _, side := range []int{1, -1} {
		list := cargoes{cargo(50, 100, side, 0, 0), cargo(10, 60, -side, 0, 0), cargo(20, 60, 0, 0, 0)}
		// It leans by 40 to that side.
		checkCargo(t, list, filling(0, 50), 90, withCargo(list, 0, cargo(100, 100, side, 0, 0)), impl.CargoDone)
		checkCargoNot(t, list, filling(0, 50), 89, impl.CargoLeans)
		checkCargo(t, list, emptying(1, 5), 45, withCargo(list, 1, cargo(5, 60, -side, 0, 0)), impl.CargoDone)
		checkCargoNot(t, list, emptying(1, 5), 44, impl.CargoLeans)
		checkCargo(t, list, pouring(1, 0, 5), 50, cargoes{cargo(55, 100, side, 0, 0), cargo(5, 60, -side, 0, 0), list[2]}, impl.CargoDone)
		checkCargoNot(t, list, pouring(1, 0, 5), 49, impl.CargoLeans)
		checkCargo(t, list, pouring(1, 2, 5), 45, cargoes{list[0], cargo(5, 60, -side, 0, 0), cargo(25, 60, 0, 0, 0)}, impl.CargoDone)
		checkCargoNot(t, list, pouring(1, 2, 5), 44, impl.CargoLeans)
		checkCargoNot(t, list, filling(0, 1), 0, impl.CargoLeans)
		checkCargoNot(t, list, filling(0, 1), 40, impl.CargoLeans)
		checkCargo(t, list, filling(0, 1), 41, withCargo(list, 0, cargo(51, 100, side, 0, 0)), impl.CargoDone)
	}
}

// One that leans too far already may lean less, or as far, also to the other
// side.
func TestCargoThatLeansTooFarAlready(t *testing.T) {
	for _, side := range []int{2, -2} {
		list := cargoes{cargo(50, 100, side, 0, 0), cargo(10, 90, -side, 0, 0), cargo(20, 60, 0, 7, 7)}
		// It leans by 80 to that side.
		for _, lean := range []int{0, 1, 78, 79} {
			checkCargo(t, list, emptying(0, 1), lean, withCargo(list, 0, cargo(49, 100, side, 0, 0)), impl.CargoDone)
			checkCargo(t, list, filling(1, 1), lean, withCargo(list, 1, cargo(11, 90, -side, 0, 0)), impl.CargoDone)
			checkCargo(t, list, filling(1, 79), lean, withCargo(list, 1, cargo(89, 90, -side, 0, 0)), impl.CargoDone)
			checkCargo(t, list, filling(1, 80), lean, withCargo(list, 1, cargo(90, 90, -side, 0, 0)), impl.CargoDone)
			checkCargo(t, list, pouring(0, 1, 40), lean, cargoes{cargo(10, 100, side, 0, 0), cargo(50, 90, -side, 0, 0), list[2]}, impl.CargoDone)
			checkCargoNot(t, list, pouring(1, 0, 1), lean, impl.CargoLeans)
			checkCargo(t, list, filling(2, 40), lean, withCargo(list, 2, cargo(60, 60, 0, 7, 7)), impl.CargoDone)
			checkCargo(t, list, inerting(2, 50), lean, withCargo(list, 2, cargo(20, 60, 0, 3, 3)), impl.CargoDone)
			checkCargo(t, list, venting(2, 1), lean, withCargo(list, 2, cargo(20, 60, 0, 6, 16)), impl.CargoDone)
			further := withCargo(list, 1, cargo(10, 91, -side, 0, 0))
			checkCargoNot(t, further, filling(1, 81), lean, impl.CargoLeans)
			checkCargoNot(t, list, filling(0, 1), lean, impl.CargoLeans)
		}
	}
}

func TestCargoLeanBounds(t *testing.T) {
	far := slices.Repeat(cargoes{cargo(100000, 100000, 50, 0, 0)}, 12)
	far[11].Has = 99999
	for _, lean := range []int{60000000, 60000001, 99999999, 100000000} {
		checkCargo(t, far, filling(11, 1), lean, withCargo(far, 11, cargo(100000, 100000, 50, 0, 0)), impl.CargoDone)
	}
	checkCargoNot(t, far, filling(11, 1), 59999999, impl.CargoLeans)
	checkCargoNot(t, far, filling(11, 1), 100000001, impl.CargoBad)
	checkCargoNot(t, far, filling(11, 1), 0, impl.CargoLeans)
	checkCargoNot(t, far, filling(11, 1), -1, impl.CargoBad)
	checkCargo(t, far, emptying(0, 100000), 0, withCargo(far, 0, cargo(0, 100000, 50, 0, 0)), impl.CargoDone)
	checkCargo(t, cargoes{inert(5, 9)}, filling(0, 1), 0, cargoes{inert(6, 9)}, impl.CargoDone)
}

// Each pair of reasons that can be so at once: the one named first counts.
func TestCargoCodesInTheirOrder(t *testing.T) {
	list := cargoes{cargo(5, 9, 1, 300, 300), cargo(0, 4, -9, 300, 300), cargo(7, 7, 9, 0, 0), cargo(50, 90, 0, 0, 0)}
	checkCargoNot(t, list, pouring(1, 2, 1), 0, impl.CargoDry)
	checkCargoNot(t, list, pouring(0, 2, 6), 0, impl.CargoDry)
	checkCargoNot(t, list, emptying(1, 1), 0, impl.CargoDry)
	checkCargoNot(t, list, emptying(0, 6), 100, impl.CargoDry)
	checkCargoNot(t, list, emptying(3, 51), 0, impl.CargoDry)
	checkCargoNot(t, list, filling(0, 5), 0, impl.CargoOver)
	checkCargoNot(t, list, filling(1, 5), 100, impl.CargoOver)
	checkCargoNot(t, list, filling(2, 1), 0, impl.CargoOver)
	checkCargoNot(t, list, pouring(3, 1, 5), 0, impl.CargoOver)
	checkCargoNot(t, list, pouring(0, 2, 1), 0, impl.CargoOver)
	checkCargoNot(t, list, filling(0, 1), 0, impl.CargoBurns)
	checkCargoNot(t, list, pouring(3, 0, 1), 0, impl.CargoBurns)
	checkCargoNot(t, list, filling(1, 1), 1000, impl.CargoBurns)
	checkCargoNot(t, list, filling(2, 1), -1, impl.CargoBad)
	checkCargoNot(t, list, emptying(1, 1), 100000001, impl.CargoBad)
	checkCargoNot(t, list, filling(0, 1), -1, impl.CargoBad)
	checkCargoNot(t, list, emptying(4, 100000), 0, impl.CargoBad)
	checkCargoNot(t, list, emptying(1, 100001), 0, impl.CargoBad)
	checkCargoNot(t, list, filling(2, 100001), 0, impl.CargoBad)
	checkCargoNot(t, list, pouring(1, 1, 5), 0, impl.CargoBad)
	checkCargoNot(t, withCargo(list, 3, inert(8, 7)), emptying(1, 1), 0, impl.CargoBad)
	checkCargoNot(t, withCargo(list, 3, inert(8, 7)), filling(2, 1), 0, impl.CargoBad)
	checkCargoNot(t, withCargo(list, 3, inert(-1, 7)), inerting(0, 100), 0, impl.CargoBad)
}

func TestCargoOpLimitsThatAreMet(t *testing.T) {
	list := slices.Repeat(cargoes{inert(50, 100)}, 12)
	for _, place := range []int{0, 1, 10, 11} {
		checkCargo(t, list, filling(place, 50), 0, withCargo(list, place, inert(100, 100)), impl.CargoDone)
		checkCargo(t, list, emptying(place, 50), 0, withCargo(list, place, inert(0, 100)), impl.CargoDone)
		checkCargo(t, list, inerting(place, 100), 0, list, impl.CargoDone)
		checkCargo(t, list, venting(place, 100), 0, withCargo(list, place, above(0, 1000)), impl.CargoDone)
		checkCargo(t, list, pouring(place, 5, 1), 0, withCargo(withCargo(list, place, inert(49, 100)), 5, inert(51, 100)), impl.CargoDone)
		checkCargo(t, list, pouring(5, place, 1), 0, withCargo(withCargo(list, place, inert(51, 100)), 5, inert(49, 100)), impl.CargoDone)
	}
	for _, op := range []impl.CargoOp{filling(12, 1), emptying(12, 1), inerting(12, 1), venting(12, 1), pouring(12, 0, 1), pouring(0, 12, 1), pouring(-1, 0, 1), pouring(0, -1, 1), pouring(11, 11, 1)} {
		checkCargoNot(t, list, op, 0, impl.CargoBad)
	}
	// Places end with the list, not with what twelve tanks have room for.
	for _, op := range []impl.CargoOp{filling(3, 1), emptying(3, 1), inerting(3, 1), venting(3, 1), pouring(3, 0, 1), pouring(0, 3, 1)} {
		checkCargoNot(t, list[:3], op, 0, impl.CargoBad)
	}
}

// B is not looked at but by CargoMove.
func TestWhatAnOpDoesNotName(t *testing.T) {
	list := cargoes{cargo(50, 100, 0, 300, 50), cargo(50, 100, 0, 300, 300), cargo(50, 100, 0, 0, 0)}
	for _, op := range []impl.CargoOp{filling(0, 50), emptying(0, 50), inerting(0, 100), venting(0, 2), filling(1, 1), emptying(0, 51), filling(0, 51)} {
		want, code := cargoStepOf(list, op, 0)
		for _, b := range []int{-1, 0, 1, 2, 3, -1 << 63, 1<<63 - 1} {
			checkCargo(t, list, withB(op, b), 0, want, code)
		}
	}
}

func TestCargoStepOfManyTanks(t *testing.T) {
	d := &draws{state: 160}
	seen, alone := [6]int{}, [6]int{}
	for range 20000 {
		list := drawnCargoes(d)
		op, lean := drawnCargoOp(d, list), drawnLean(d, list)
		want, code := cargoStepOf(list, op, lean)
		checkCargo(t, list, op, lean, want, code)
		seen[code]++
		if code > impl.CargoBad && len(faultsOf(list, behindOp(list, op), op, lean)) == 1 {
			alone[code]++
		}
	}
	for code, times := range seen {
		if times < 500 || code > impl.CargoBad && alone[code] < 200 {
			t.Error("few drawn of code", code, seen, alone)
		}
	}
}
