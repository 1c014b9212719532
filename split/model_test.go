package split_test

import (
	"fmt"
	"testing"

	"latchgarth/api"
	"latchgarth/split"
)

// draw gives numbers from 0 to below n by a short rule, the same ones each time.
type draw uint64

func (d *draw) below(n int) int {
	*d = *d*6364136223846793005 + 1442695040888963407
	return int(uint64(*d) >> 33 % uint64(n))
}

// steps of n hands: one of them takes some, then one does again.
func (d *draw) steps(n, count, longest int) []int {
	var out []int
	for len(out) < count {
		p := d.below(n)
		for range 1 + d.below(longest) {
			out = append(out, p)
		}
	}
	return out[:count]
}

// drawn is a script of n hands, the same one each time.
func drawn(n, count int) []int {
	d := draw(n)
	return d.steps(n, count, 4)
}

// What a hand of the model does, at its place.
const (
	comes = iota
	sees  // it sees whether the place is shut
	shuts
	asks // it asks whether another one has come since it came
	named
)

// model is another way to tell what hands do, without X: who comes tells all that have come there and not gone on. It is a value: two that are the same do the same.
type model struct {
	n     int8
	hands [api.MaxHands]guest
	shut  [api.MaxHands][api.MaxHands]bool // by row and column
	last  [api.MaxHands][api.MaxHands]int8 // who came last to each place, from 1 on: nothing asks for it, but that two grids of one model are to be the same
}

// guest is a hand of the model.
type guest struct {
	does, row, column int8
	late              bool // another one has come to its place since it came
}

func freshModel(n int) model { return model{n: int8(n)} }

// then is what a step of a hand leads to.
func (w model) then(p int) model {
	h := &w.hands[p]
	shut := &w.shut[h.row][h.column]
	switch {
	case h.does == comes:
		w.tell(p)
		w.last[h.row][h.column] = int8(p + 1)
		h.does = sees
	case h.does == sees && *shut:
		*h = guest{row: h.row, column: h.column + 1}
	case h.does == sees:
		h.does = shuts
	case h.does == shuts:
		*shut = true
		h.does = asks
	case h.does == asks && h.late:
		*h = guest{row: h.row + 1, column: h.column}
	case h.does == asks:
		h.does = named
	}
	return w
}

// tell those that have come to a hand's place, and have not gone on, that it comes too.
func (w *model) tell(p int) {
	here := w.hands[p]
	for q := range w.hands[:w.n] {
		h := &w.hands[q]
		if sees <= h.does && h.does <= asks && h.row == here.row && h.column == here.column {
			h.late = true
		}
	}
}

// shown is all that a grid is to tell where the model is.
func (w model) shown() string {
	lines, names := "", make([]int, w.n)
	for p, h := range w.hands[:w.n] {
		lines += fmt.Sprint(h.line(), " ")
		names[p] = h.name()
	}
	return lines + fmt.Sprint(names)
}

// line at which a hand is to stand.
func (h guest) line() int { return [...]int{comes: 1, sees: 2, shuts: 3, asks: 4, named: 5}[h.does] }

// name that a hand is to have.
func (h guest) name() int {
	if h.does != named {
		return -1
	}
	return numbers[h.row][h.column]
}

// TestModel: many scripts, against another way to tell what hands do.
func TestModel(t *testing.T) {
	d := draw(5)
	for n := 1; n <= api.MaxHands; n++ {
		for round := range 1000 {
			g, w := fresh(t, n), freshModel(n)
			steps := d.steps(n, 4*n*n, 1+round%6)
			for i, p := range steps {
				step(t, g, p)
				w = w.then(p)
				if got, want := shown(g, n), w.shown(); got != want {
					t.Fatalf("of %d, after %v: got %s, want %s", n, steps[:i+1], got, want)
				}
			}
		}
	}
}

// spot is one of the things that a grid may come to, and what the model says of it.
type spot struct {
	grid split.Grid
	told model
}

// gone is which ways a hand has gone at a place: from a line to a line.
type gone [api.MaxHands][api.MaxHands * (api.MaxHands + 1) / 2][6][6]bool

// TestEverywhere: by whatever script, a grid tells what the model does, no hand leaves it, no two have one name, and all have names in the end; and each hand goes each way at each place. It leans on a grid being a value: two that are the same do the same. All that so many steps lead to is looked through behind what one step less does; a hand with a name takes none, since it changes nothing.
func TestEverywhere(t *testing.T) {
	for n := 1; n <= api.MaxHands; n++ {
		var went gone
		layer := []spot{{*fresh(t, n), freshModel(n)}}
		for steps := 0; len(layer) > 0; steps++ {
			if steps > 4*n*n {
				t.Fatalf("of %d, after %d steps not all have names: %s", n, steps, shown(&layer[0].grid, n))
			}
			layer = stepOn(t, n, layer, &went)
		}
		checkWent(t, n, &went)
	}
}

// stepOn is all to which one step leads, each once.
func stepOn(t *testing.T, n int, layer []spot, went *gone) []spot {
	t.Helper()
	var next []spot
	known := map[model]int{}
	for i := range layer {
		here := &layer[i]
		for p := range n {
			then := spot{here.grid, here.told.then(p)}
			if err := then.grid.Step(p); err != nil {
				t.Fatalf("of %d, step of hand %d: got %v", n, p, err)
			}
			h := here.told.hands[p]
			went[p][numbers[h.row][h.column]][here.grid.At(p)][then.grid.At(p)] = true
			number, ok := known[then.told]
			switch {
			case h.does == named:
				checkSame(t, n, here, &then)
			case ok:
				checkSame(t, n, &next[number], &then)
			default:
				checkTold(t, n, &then)
				known[then.told] = len(next)
				next = append(next, then)
			}
		}
	}
	return next
}

// checkSame: what a grid has come to does not hang on how it came there.
func checkSame(t *testing.T, n int, one, other *spot) {
	if *one != *other {
		t.Fatalf("of %d, two ways lead to what is not the same: %s, and %s", n, shown(&one.grid, n), shown(&other.grid, n))
	}
}

// checkTold: a grid tells what the model does, and each name is one of a place, and of one hand.
func checkTold(t *testing.T, n int, here *spot) {
	names := 0
	for p, h := range here.told.hands[:n] {
		line, name := here.grid.At(p), here.grid.Name(p)
		if line != h.line() || name != h.name() {
			t.Fatalf("of %d, got %s, want %s", n, shown(&here.grid, n), here.told.shown())
		}
		if line != 5 {
			continue
		}
		if name < 0 || name >= n*(n+1)/2 || names>>name&1 == 1 {
			t.Fatalf("of %d, no name, or that of another one: %s", n, shown(&here.grid, n))
		}
		names |= 1 << name
	}
}

// checkWent: each hand goes each way at each place; the two ways on, at places that are not the last ones.
func checkWent(t *testing.T, n int, went *gone) {
	t.Helper()
	var want gone
	for p := range n {
		for number := range n * (n + 1) / 2 {
			at := &want[p][number]
			for line := 1; line <= 4; line++ {
				at[line][line+1] = true
			}
			at[5][5] = true
			if number < (n-1)*n/2 {
				at[2][1], at[4][1] = true, true
			}
		}
	}
	if *went != want {
		t.Errorf("of %d, the ways that are gone are %v, want %v", n, *went, want)
	}
}
