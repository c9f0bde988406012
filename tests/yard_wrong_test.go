package tests

import (
	"fmt"
	"math"
	"slices"
	"testing"

	"loop.example/g00059/impl"
)

// Promise 24: each function of the yard answers, and writes into nothing that it
// is given.

func TestYardsOfGreatNumbers(t *testing.T) {
	great := []int{math.MinInt, math.MinInt + 1, -1, 0, 1, 2, 3, 6, 7, 12, 1000000, 1000001, math.MaxInt - 1, math.MaxInt}
	for _, n := range great {
		for _, m := range great {
			for _, y := range []impl.Yard{yard(3, rows{{1, 2}, {}, {3}}), yard(n, rows{{m}}), yard(n, rows{{5, m}, {}}), yard(3, rows{{n, m}}), yard(3, rows{{n}, {m, 5}, {}}), yard(m, make(rows, 3))} {
				checkYardOk(t, y, yardOkOf(y))
				at, tier, _ := findBoxOf(y, n)
				checkFind(t, y, n, at, tier)
				for _, op := range []impl.YardOp{bringing(n, m), withStack(fetching(n), m), shifting(n, m), bringing(n, 0), shifting(0, m), {Kind: n, Box: m, Stack: 0}} {
					want, many, code := doYardOf(y, op)
					checkYard(t, y, op, want, many, code)
					want, codes, many := runYardOf(y, yardOps{op, fetching(1), op})
					checkYardRun(t, y, yardOps{op, fetching(1), op}, want, codes, many)
				}
				checkOrders(t, y, [][]int{{n}, {n, m}, {m, 1, n}}, []int{n, m, 8})
			}
		}
	}
}

func checkOrders(t *testing.T, y impl.Yard, orders [][]int, mosts []int) {
	t.Helper()
	for _, order := range orders {
		count, ok := blockingOf(y, order)
		if got, told := impl.Blocking(y, order); got != count || told != ok {
			t.Error(y, order, "got", got, told, "not", count, ok)
		}
		for _, most := range mosts {
			least, _ := leastOf(y, order, most)
			checkLeast(t, y, order, most, least)
		}
	}
}

// A list that is nil and one that is empty are the same.
func TestYardsOfNilAndEmptyLists(t *testing.T) {
	bare, listed := yard(2, rows{nil, nil}), yard(2, rows{{}, {}})
	for _, op := range []impl.YardOp{{}, bringing(1, 1), fetching(1), shifting(0, 1), shifting(0, 0)} {
		want, many, code := doYardOf(bare, op)
		checkYard(t, bare, op, want, many, code)
		checkYard(t, listed, op, want, many, code)
	}
	for _, y := range []impl.Yard{bare, listed} {
		checkYardOk(t, y, true)
		checkBlocking(t, y, nil, 0)
		checkBlocking(t, y, []int{}, 0)
		checkNeeds(t, y, nil, 0)
		checkNeeds(t, y, []int{}, 0)
		checkYardRun(t, y, nil, bare, nil, 0)
		checkYardRun(t, y, yardOps{}, bare, nil, 0)
	}
	checkYardNot(t, impl.Yard{High: 2, Stacks: rows{}}, bringing(1, 0), impl.YardBad)
	checkYardNot(t, impl.Yard{High: 2}, bringing(1, 0), impl.YardBad)
}

// Great yards that are not so, and great lists, are answered too.
func TestYardsThatAreFarTooGreat(t *testing.T) {
	deep, wide := yard(6, rows{numbers(1, 100000)}), yard(6, make(rows, 100000))
	for _, y := range []impl.Yard{deep, wide} {
		checkYardOk(t, y, false)
		checkFind(t, y, 1, -1, -1)
		for _, op := range []impl.YardOp{bringing(1, 0), fetching(100000), shifting(0, 1)} {
			if got, many, code := impl.DoYard(y, op); !sameYard(got, y) || many != 0 || code != impl.YardBad {
				t.Error(op, many, code)
			}
		}
		got, codes, many := impl.RunYard(y, make(yardOps, 200))
		if !sameYard(got, y) || !slices.Equal(codes, slices.Repeat([]int{1}, 200)) || many != 0 {
			t.Error(codes, many)
		}
	}
	y := yard(6, rows{{1, 2}, {}})
	if got, ok := impl.Blocking(y, numbers(1, 100000)); got != 0 || ok {
		t.Error(got, ok)
	}
	if got, ok := impl.LeastShuffles(y, numbers(1, 100000), 8); got != -1 || ok {
		t.Error(got, ok)
	}
	if got, codes, many := impl.RunYard(y, slices.Repeat(yardOps{fetching(1)}, 100000)); !sameYard(got, y) || len(codes) != 0 || many != 0 {
		t.Error(got, len(codes), many)
	}
}

// plot is all that the functions of the chapter take.
type plot struct {
	y     impl.Yard
	ops   yardOps
	order []int
	most  int
}

func plotsOfAllKinds() []plot {
	d := &draws{state: 260}
	all := []plot{{}, {fullYard(6, 12), make(yardOps, 200), numbers(1, 72), 8}, {fullYard(6, 13), make(yardOps, 201), numbers(1, 73), 9}}
	for range 150 {
		y := drawnYard(d)
		all = append(all, plot{y, drawnYardOps(d, y), drawnOrderOf(d, y, true), d.between(-1, 9)})
		y, order := drawnSmall(d)
		all = append(all, plot{y, drawnYardOps(d, y), order, 8})
	}
	for _, y := range wrongYards() {
		if len(y.Stacks) < 20 && len(inYard(y)) < 100 {
			all = append(all, plot{y, yardOps{bringing(9, 0), fetching(1), shifting(0, 1)}, []int{1, 2}, 8})
		}
	}
	return all
}

func roomyYard(y impl.Yard) impl.Yard {
	y = cloneYard(y)
	for i, stack := range y.Stacks {
		y.Stacks[i] = spare(stack, 500+i)
	}
	y.Stacks = spare(y.Stacks, []int{600, 601})
	return y
}

// roomyPlot has right things behind each list, that would make a difference.
func roomyPlot(p plot) plot {
	return plot{roomyYard(p.y), spare(p.ops, fetching(1)), spare(p.order, 700), p.most}
}

func clippedPlot(p plot) plot {
	y := cloneYard(p.y)
	for i, stack := range y.Stacks {
		y.Stacks[i] = slices.Clip(stack)
	}
	y.Stacks = slices.Clip(y.Stacks)
	return plot{y, slices.Clip(slices.Clone(p.ops)), slices.Clip(slices.Clone(p.order)), p.most}
}

// wholePlot tells all of it, and what lies behind each list.
func wholePlot(p plot) string {
	told := fmt.Sprint(p.y.High, len(p.y.Stacks), p.ops[:cap(p.ops)], p.order[:cap(p.order)])
	for _, stack := range p.y.Stacks[:cap(p.y.Stacks)] {
		told += fmt.Sprint(len(stack), stack[:cap(stack)])
	}
	return told
}

func overwriteYard(y impl.Yard) {
	for _, stack := range y.Stacks[:cap(y.Stacks)] {
		overwrite(stack)
	}
	clear(y.Stacks[:cap(y.Stacks)])
}

// opsOn are some of the plot's own, and some of each kind for the ends of its
// yard.
func opsOn(p plot) yardOps {
	last := len(p.y.Stacks) - 1
	ops := append(slices.Clone(p.ops[:min(len(p.ops), 6)]), yardOps{{}, bringing(900, 0), bringing(900, last), shifting(0, last), shifting(last, 0), fetching(1)}...)
	for _, stack := range p.y.Stacks[:min(len(p.y.Stacks), 3)] {
		if len(stack) > 0 {
			ops = append(ops, fetching(stack[0]), fetching(stack[len(stack)-1]))
		}
	}
	return ops
}

// allOfPlot are the answers of all functions, as texts.
func allOfPlot(p plot) []string {
	blocks, isOrder := impl.Blocking(p.y, p.order)
	least, isDone := impl.LeastShuffles(p.y, p.order, p.most)
	ran, codes, many := impl.RunYard(p.y, p.ops)
	all := []string{fmt.Sprint(impl.YardOk(p.y), blocks, isOrder, least, isDone, ran, codes, many)}
	for _, box := range append([]int{0, 1, 500, 600, 700}, p.order[:min(len(p.order), 5)]...) {
		at, tier, ok := impl.FindBox(p.y, box)
		all = append(all, fmt.Sprint(at, tier, ok))
	}
	for _, op := range opsOn(p) {
		now, count, code := impl.DoYard(p.y, op)
		all = append(all, fmt.Sprint(now, count, code))
	}
	return all
}

func TestYardArgumentsAreNotChanged(t *testing.T) {
	for _, plain := range plotsOfAllKinds() {
		p := roomyPlot(plain)
		before := wholePlot(p)
		got := allOfPlot(p)
		if wholePlot(p) != before {
			t.Fatal("written into", plain)
		}
		if !slices.Equal(got, allOfPlot(clippedPlot(plain))) {
			t.Fatal("what lies behind a list is looked at", plain)
		}
	}
}

// checkYardNew writes over an answer: neither what was handed in nor another
// answer may change by it.
func checkYardNew(t *testing.T, name string, plain plot, ask func(plot) impl.Yard) {
	t.Helper()
	p := roomyPlot(plain)
	before := wholePlot(p)
	earlier, got := ask(p), ask(p)
	want := cloneYard(got)
	overwriteYard(got)
	if wholePlot(p) != before {
		t.Fatal(name, "shares memory with what was handed in", plain)
	}
	if !sameYard(earlier, want) || !sameYard(ask(p), want) {
		t.Fatal(name, "shares memory with another answer", plain)
	}
	overwriteYard(p.y)
	clear(p.ops[:cap(p.ops)])
	if !sameYard(earlier, want) {
		t.Fatal(name, "keeps the memory of what was handed in", plain)
	}
	checkOwnStacks(t, name, plain, earlier)
}

// checkOwnStacks writes over one stack of an answer and behind it: no other stack
// of it may change.
func checkOwnStacks(t *testing.T, name string, plain plot, y impl.Yard) {
	t.Helper()
	for at := range y.Stacks {
		want := cloneYard(y)
		overwrite(y.Stacks[at])
		overwrite(want.Stacks[at])
		if !sameYard(y, want) {
			t.Fatal(name, "has two stacks that share memory", plain)
		}
	}
}

func TestYardAnswersAreNewMemory(t *testing.T) {
	for _, plain := range plotsOfAllKinds() {
		for _, op := range opsOn(plain) {
			checkYardNew(t, "DoYard", plain, func(p plot) impl.Yard {
				now, _, _ := impl.DoYard(p.y, op)
				return now
			})
		}
		for _, count := range []int{0, 1, len(plain.ops)} {
			count = min(count, len(plain.ops))
			checkYardNew(t, "RunYard", plain, func(p plot) impl.Yard {
				now, _, _ := impl.RunYard(p.y, p.ops[:count])
				return now
			})
		}
	}
}

// The codes of a run are apart from its yard, and from all that was handed in.
func TestYardCodesAreNewMemory(t *testing.T) {
	for _, plain := range plotsOfAllKinds() {
		p := roomyPlot(plain)
		before := wholePlot(p)
		now, codes, _ := impl.RunYard(p.y, p.ops)
		want, told := cloneYard(now), slices.Clone(codes)
		overwrite(codes)
		if !sameYard(now, want) || wholePlot(p) != before {
			t.Fatal("codes share memory", plain)
		}
		now, codes, _ = impl.RunYard(p.y, p.ops)
		overwriteYard(now)
		if !slices.Equal(codes, told) || wholePlot(p) != before {
			t.Fatal("the yard shares memory", plain)
		}
	}
}

// Stacks that are handed in may stand side by side in one list, each with the next
// one behind it: no answer does, and none is written into.
func TestStacksThatShareAList(t *testing.T) {
	shared := numbers(1, 8)
	y := yard(3, rows{shared[:2], shared[2:5], shared[5:6], shared[6:6], shared[6:8]})
	wrong := yard(3, rows{shared[:2], shared[1:4], shared[:2], shared})
	for _, y := range []impl.Yard{y, wrong} {
		for _, op := range []impl.YardOp{bringing(9, 0), bringing(9, 3), shifting(1, 0), shifting(4, 3), shifting(0, 2), fetching(3), fetching(1), fetching(7), fetching(9), {}} {
			want, many, code := doYardOf(y, op)
			checkYard(t, y, op, want, many, code)
			got, _, _ := impl.DoYard(y, op)
			checkOwnStacks(t, "DoYard", plot{y: y}, got)
			want, codes, many := runYardOf(y, yardOps{op, op})
			checkYardRun(t, y, yardOps{op, op}, want, codes, many)
			got, _, _ = impl.RunYard(y, yardOps{op, op})
			checkOwnStacks(t, "RunYard", plot{y: y}, got)
			got, _, _ = impl.RunYard(y, make(yardOps, 201))
			checkOwnStacks(t, "RunYard of too many", plot{y: y}, got)
		}
	}
	checkBlocking(t, y, []int{1, 3, 6, 7}, 4)
	if !slices.Equal(shared, numbers(1, 8)) {
		t.Error("written into", shared)
	}
}

// An order may be a stack of the yard itself.
func TestOrdersThatAreStacks(t *testing.T) {
	y := yard(3, rows{{3, 1, 2}, {}, {4}})
	checkBlocking(t, y, y.Stacks[0], 2)
	checkNeeds(t, y, y.Stacks[0], 2)
	checkNeeds(t, y, y.Stacks[0][:2], 2)
	if !sameYard(y, yard(3, rows{{3, 1, 2}, {}, {4}})) {
		t.Error("written into", y)
	}
}

func TestYardAnswersAgainAndTogether(t *testing.T) {
	plots := plotsOfAllKinds()[:150]
	ask := func() string {
		told := ""
		for _, p := range plots {
			told += fmt.Sprintln(allOfPlot(p))
		}
		return told
	}
	want := ask()
	told := make(chan string)
	for range 8 {
		go func() { told <- ask() }()
	}
	for range 8 {
		if got := <-told; got != want {
			t.Error("answers hang on earlier calls")
		}
	}
}
