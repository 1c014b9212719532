package tso_test

import (
	"fmt"
	"math"
	"slices"
	"testing"

	"latchgarth/api"
	"latchgarth/plain"
	"latchgarth/prog"
	"latchgarth/sc"
	"latchgarth/tso"
)

// draw gives numbers from 0 to below n by a short rule, the same ones each time.
type draw uint64

func (d *draw) below(n int) int {
	*d = *d*6364136223846793005 + 1442695040888963407
	return int(uint64(*d) >> 33 % uint64(n))
}

// program with so many hands; the kind of each line is one of those at its place, and the first line is a Put, so that hands tell what they store. Words are few, so that hands meet.
func (d *draw) program(hands int, kinds ...[]int) api.Prog {
	p := api.Prog{Words: 1 + (1+d.below(4))/2}
	for range hands {
		own := hand(put(0, 1+d.below(3)))
		for _, k := range kinds {
			own = append(own, api.Line{Kind: k[d.below(len(k))], Reg: d.below(3) / 2, Word: d.below(p.Words), Value: d.below(4)})
		}
		p.Hands = append(p.Hands, own[:len(own)-d.below(3)/2])
	}
	return p
}

// Kinds that may stand at a place of a line.
var (
	all    = []int{api.Put, api.Load, api.Load, api.Store, api.Store, api.Store, api.Swap, api.Fence, api.Leave}
	shared = []int{api.Load, api.Store, api.Store, api.Swap}
	swaps  = []int{api.Load, api.Store, api.Swap, api.Swap, api.Leave}
	stores = []int{api.Store}
	loads  = []int{api.Load}
)

// event is a line that a hand does at a place of one order that is the same for all; a store stands where it comes. Lines that touch no word have no place there.
type event struct{ hand, line int }

// order is another way to tell all that may be: nothing waits, but all events stand in one order, in which of a hand's lines only a load may stand ahead of stores that it has ahead of it.
type order struct {
	paths [][]api.Line // without the lines that are left out
	zero  [][]bool     // of each line whether, if it is a Leave, its register is to be 0
	words int
	told  [][]int
}

// lay all orders behind what is laid; at is how many of a hand's lines are done, late what it stored of them and is not laid yet.
func (o *order) lay(laid []event, at []int, late [][]event) {
	at, late = slices.Clone(at), slices.Clone(late)
	last := true
	for h := range o.paths {
		o.pass(h, at, late)
		last = last && at[h] == len(o.paths[h]) && len(late[h]) == 0
	}
	if last {
		o.tell(laid)
		return
	}
	for h, lines := range o.paths {
		if len(late[h]) > 0 {
			rest := slices.Clone(late)
			rest[h] = late[h][1:]
			o.lay(append(slices.Clip(laid), late[h][0]), at, rest)
		}
		if at[h] < len(lines) && (lines[at[h]].Kind == api.Load || len(late[h]) == 0) {
			on := slices.Clone(at)
			on[h]++
			o.lay(append(slices.Clip(laid), event{h, at[h]}), on, late)
		}
	}
}

// pass the lines of a hand that have no place where they are done.
func (o *order) pass(h int, at []int, late [][]event) {
	for lines := o.paths[h]; at[h] < len(lines); at[h]++ {
		switch k := lines[at[h]].Kind; {
		case k == api.Store:
			late[h] = append(slices.Clip(late[h]), event{h, at[h]})
		case k == api.Load || k == api.Swap || k == api.Fence && len(late[h]) > 0:
			return
		}
	}
}

// tell what comes of an order; nothing, if a Leave's register is not as it is to be.
func (o *order) tell(laid []event) {
	regs := make([][]int, len(o.paths))
	gave := map[event]int{} // what a store or a swap put into its word
	at := make([]int, len(o.paths))
	for h := range regs {
		regs[h] = make([]int, api.MaxRegs)
	}
	good := true
	do := func(e event) {
		l, own := o.paths[e.hand][e.line], regs[e.hand]
		switch l.Kind {
		case api.Put:
			own[l.Reg] = l.Value
		case api.Load:
			own[l.Reg] = o.source(laid, e, l.Word, gave)
		case api.Store:
			gave[e] = own[l.Reg]
		case api.Swap:
			gave[e], own[l.Reg] = own[l.Reg], o.source(laid, e, l.Word, gave)
		case api.Leave:
			good = good && (own[l.Reg] == 0) == o.zero[e.hand][e.line]
		}
	}
	for _, e := range laid {
		for ; at[e.hand] <= e.line; at[e.hand]++ {
			do(event{e.hand, at[e.hand]})
		}
	}
	for h, lines := range o.paths {
		for ; at[h] < len(lines); at[h]++ {
			do(event{h, at[h]})
		}
	}
	told := slices.Concat(regs...)
	for w := range o.words {
		told = append(told, o.source(laid, event{-1, 0}, w, gave))
	}
	if good {
		o.told = append(o.told, told)
	}
}

// source is what a word is for an event: of all that stands ahead of it in the order, or ahead of it in its hand, what stands last in the order.
func (o *order) source(laid []event, e event, word int, gave map[event]int) int {
	out, ahead := 0, true
	for _, f := range laid {
		if f == e {
			ahead = false
			continue
		}
		l := o.paths[f.hand][f.line]
		writes := (l.Kind == api.Store || l.Kind == api.Swap) && l.Word == word
		if writes && (ahead || f.hand == e.hand && f.line < e.line) {
			out = gave[f]
		}
	}
	return out
}

// paths of a hand: by all choices of which of its Leaves leave out.
func paths(lines []api.Line, yield func(path []api.Line, zero []bool)) {
	var more func(left, path []api.Line, zero []bool)
	more = func(left, path []api.Line, zero []bool) {
		if len(left) == 0 {
			yield(path, zero)
			return
		}
		path = append(slices.Clip(path), left[0])
		more(left[1:], path, append(slices.Clip(zero), false))
		if left[0].Kind == api.Leave {
			more(left[min(1+left[0].Value, len(left)):], path, append(slices.Clip(zero), true))
		}
	}
	more(lines, nil, nil)
}

// ordered is all that comes of all paths and all orders, each once, rising.
func ordered(p api.Prog) [][]int {
	o := order{words: p.Words}
	var more func(left [][]api.Line)
	more = func(left [][]api.Line) {
		if len(left) == 0 {
			o.lay(nil, make([]int, len(o.paths)), make([][]event, len(o.paths)))
			return
		}
		paths(left[0], func(path []api.Line, zero []bool) {
			o.paths, o.zero = append(o.paths, path), append(o.zero, zero)
			more(left[1:])
			o.paths, o.zero = o.paths[:len(o.paths)-1], o.zero[:len(o.zero)-1]
		})
	}
	more(p.Hands)
	slices.SortFunc(o.told, slices.Compare)
	return slices.CompactFunc(o.told, slices.Equal)
}

// TestModel: many programs, against another way to tell all that may be, and against chapter 2: there is nothing less, and nothing else where nothing races.
func TestModel(t *testing.T) {
	d := draw(1)
	more, calm := 0, 0
	for range 800 {
		for _, p := range []api.Prog{
			d.program(1, all, all, all, all), d.program(2, all, all, all), d.program(3, all, all),
			d.program(2, stores, all, loads), d.program(2, all, stores, all, loads), d.program(2, stores, loads, loads, all), d.program(3, stores, loads),
		} {
			got, err := tso.Results(p)
			if want := ordered(p); err != nil || !same(got, want) {
				t.Fatalf("%+v: got %v %v, want %v", p, got, err, want)
			}
			least, _ := sc.Results(p)
			for _, l := range least {
				if _, ok := slices.BinarySearchFunc(got, l, slices.Compare); !ok {
					t.Fatalf("%+v: got %v, not %v", p, got, l)
				}
			}
			if len(got) > len(least) {
				more++
			}
			if races, _ := sc.Races(p); !races && len(p.Hands) > 1 {
				calm++
			}
		}
	}
	if more < 100 || calm < 200 {
		t.Errorf("of the programs, %d tell that something waits, and %d don't race", more, calm)
	}
}

// TestCalm: where nothing races, what is stored waits, and nobody tells; of greater programs, too.
func TestCalm(t *testing.T) {
	d := draw(2)
	calm, several := 0, 0
	for range 6000 {
		p := d.program(2+d.below(2), swaps, swaps, swaps, swaps)
		if races, err := sc.Races(p); races || err != nil {
			continue
		}
		got, err := tso.Results(p)
		if want, _ := sc.Results(p); err != nil || !same(got, want) {
			t.Fatalf("%+v: got %v %v, want %v", p, got, err, want)
		}
		calm++
		if len(got) > 1 {
			several++
		}
	}
	if calm < 200 || several < 30 {
		t.Errorf("%d programs don't race, %d of them tell several things", calm, several)
	}
}

// TestFenced: with a fence behind each store, all is as in chapter 2, whatever races.
func TestFenced(t *testing.T) {
	d := draw(3)
	several := 0
	for range 500 {
		p := d.program(3, shared, shared)
		for h, lines := range p.Hands {
			var own []api.Line
			for _, l := range lines {
				own = append(own, l)
				if l.Kind == api.Store {
					own = append(own, fence())
				}
			}
			p.Hands[h] = own
		}
		got, err := tso.Results(p)
		want, _ := sc.Results(p)
		if err != nil || !same(got, want) {
			t.Fatalf("%+v: got %v %v, want %v", p, got, err, want)
		}
		if len(got) > 1 {
			several++
		}
	}
	if several < 100 {
		t.Errorf("%d programs tell several things", several)
	}
}

// TestWild: whatever the numbers are, nothing panics, it tells what Check does, and nothing beside an error.
func TestWild(t *testing.T) {
	numbers := []int{0, 0, 1, 1, 2, 3, 4, 5, 6, -1, 1000, 1001, math.MinInt, math.MaxInt}
	d := draw(4)
	wild := func() int { return numbers[d.below(len(numbers))] }
	good := 0
	for range 20000 {
		p := api.Prog{Words: wild()}
		for range d.below(5) {
			var lines []api.Line
			for range d.below(4) {
				lines = append(lines, api.Line{Kind: wild(), Reg: wild(), Word: wild(), Value: wild()})
			}
			p.Hands = append(p.Hands, lines)
		}
		want := plain.Told(prog.Check(p))
		l, err := tso.Results(p)
		if plain.Told(err) != want || (l == nil) != (want != api.OK) {
			t.Fatalf("%+v: got %v %v, want %v", p, l, err, want)
		}
		if want == api.OK {
			good++
		}
	}
	if good < 100 {
		t.Errorf("%d programs were good", good)
	}
}

// ExampleResults: two hands store, and load what the other one stores; what they store waits, so that both may see nothing of it.
func ExampleResults() {
	p := program(2, hand(put(0, 1), store(0, 0), load(1, 1)), hand(put(0, 1), store(0, 1), load(1, 0)))
	fmt.Println(tso.Results(p))
	// Output:
	// [[1 0 1 0 1 1] [1 0 1 1 1 1] [1 1 1 0 1 1] [1 1 1 1 1 1]] <nil>
}
