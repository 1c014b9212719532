package sc_test

import (
	"fmt"
	"math"
	"slices"
	"testing"

	"latchgarth/api"
	"latchgarth/plain"
	"latchgarth/prog"
	"latchgarth/sc"
)

// draw gives numbers from 0 to below n by a short rule, the same ones each time.
type draw uint64

func (d *draw) below(n int) int {
	*d = *d*6364136223846793005 + 1442695040888963407
	return int(uint64(*d) >> 33 % uint64(n))
}

// program with at most so many hands and lines; words are few, so that hands meet, and each hand begins by a Put, so that they tell of it.
func (d *draw) program(hands, lines int) api.Prog {
	kinds := []int{api.Put, api.Load, api.Store, api.Store, api.Swap, api.Swap, api.Fence, api.Leave}
	p := api.Prog{Words: 1 + d.below(2)}
	for range 1 + d.below(hands) {
		own := hand(put(0, 1+d.below(3)))
		for range lines - 1 {
			own = append(own, api.Line{Kind: kinds[d.below(len(kinds))], Reg: d.below(2), Word: d.below(p.Words), Value: d.below(4)})
		}
		p.Hands = append(p.Hands, own[:lines-d.below(2)*d.below(lines+1)])
	}
	return p
}

// byScripts is what Run tells by all scripts by which each hand is asked as often as it has lines, each once, rising.
func byScripts(p api.Prog) [][]int {
	var out [][]int
	left := make([]int, len(p.Hands))
	for h, lines := range p.Hands {
		left[h] = len(lines)
	}
	var more func(script []int)
	more = func(script []int) {
		last := true
		for h := range left {
			if left[h] > 0 {
				last = false
				left[h]--
				more(append(slices.Clip(script), h))
				left[h]++
			}
		}
		if last {
			told, _ := prog.Run(p, script)
			out = append(out, told)
		}
	}
	more(nil)
	slices.SortFunc(out, slices.Compare)
	return slices.CompactFunc(out, slices.Equal)
}

// walk is another way to go through all that a program may do: hands give away the lines that they did or left out, and nothing that was found is known again.
type walk struct {
	left  [][]api.Line
	regs  map[[2]int]int
	words map[int]int
	races bool
}

// met tells whether the first lines that are left race.
func (w *walk) met() bool {
	touched := map[int][]int{} // by word: the kinds of lines
	for _, lines := range w.left {
		if len(lines) > 0 && (lines[0].Kind == api.Load || lines[0].Kind == api.Store || lines[0].Kind == api.Swap) {
			touched[lines[0].Word] = append(touched[lines[0].Word], lines[0].Kind)
		}
	}
	for _, kinds := range touched {
		slices.Sort(kinds)
		one := kinds[0] == kinds[len(kinds)-1]
		if len(kinds) > 1 && !(one && kinds[0] != api.Store) {
			return true
		}
	}
	return false
}

// do the next line of a hand; undone by what comes back.
func (w *walk) do(h int) (undo func()) {
	lines, l := w.left[h], w.left[h][0]
	key := [2]int{h, l.Reg}
	reg, word := w.regs[key], w.words[l.Word]
	w.left[h] = lines[1:]
	switch l.Kind {
	case api.Put:
		w.regs[key] = l.Value
	case api.Load:
		w.regs[key] = word
	case api.Store:
		w.words[l.Word] = reg
	case api.Swap:
		w.regs[key], w.words[l.Word] = word, reg
	case api.Leave:
		if reg == 0 {
			w.left[h] = lines[min(1+l.Value, len(lines)):]
		}
	}
	return func() { w.left[h], w.regs[key], w.words[l.Word] = lines, reg, word }
}

func (w *walk) on() {
	w.races = w.races || w.met()
	for h := range w.left {
		if len(w.left[h]) > 0 && !w.races {
			undo := w.do(h)
			w.on()
			undo()
		}
	}
}

func walked(p api.Prog) bool {
	w := walk{left: slices.Clone(p.Hands), regs: map[[2]int]int{}, words: map[int]int{}}
	w.on()
	return w.races
}

func testModel(t *testing.T, p api.Prog) (many int, races bool) {
	t.Helper()
	got, err := sc.Results(p)
	if want := byScripts(p); err != nil || !same(got, want) {
		t.Fatalf("%+v: got %v %v, want %v", p, got, err, want)
	}
	for i := 1; i < len(got); i++ {
		if slices.Compare(got[i-1], got[i]) >= 0 {
			t.Fatalf("%+v: %v stands ahead of %v", p, got[i-1], got[i])
		}
	}
	is, err := sc.Races(p)
	if want := walked(p); err != nil || is != want {
		t.Fatalf("%+v: got %v %v, want %v", p, is, err, want)
	}
	return len(got), is
}

// TestModel: many programs, against what Run tells by all scripts, and against another way to look for races.
func TestModel(t *testing.T) {
	d := draw(1)
	several, race := 0, 0
	for range 1500 {
		for _, p := range []api.Prog{d.program(3, 3), d.program(2, 5)} {
			many, is := testModel(t, p)
			if many > 1 {
				several++
			}
			if is {
				race++
			}
		}
	}
	if several < 300 || race < 300 || race > 2700 {
		t.Errorf("of the programs, %d tell several things, and %d race", several, race)
	}
}

// TestModelGreatest: one of the greatest programs, so that scripts are as long as can be.
func TestModelGreatest(t *testing.T) {
	of := func(n int) []api.Line { return hand(put(0, n), swap(0, 0), store(0, 1), load(1, 2), swap(1, 0)) }
	p := program(4, of(1), of(2), hand(put(1, 1000), store(1, 2), swap(1, 3), load(0, 1), store(0, 3)))
	if many, is := testModel(t, p); many < 10 || !is {
		t.Errorf("%d things are told, races: %v", many, is)
	}
}

// TestWild: whatever the numbers are, nothing panics, both calls tell what Check does, and nothing beside an error.
func TestWild(t *testing.T) {
	numbers := []int{0, 0, 1, 1, 2, 3, 4, 5, 6, -1, 1000, 1001, math.MinInt, math.MaxInt}
	d := draw(2)
	wild := func() int { return numbers[d.below(len(numbers))] }
	good := 0
	for range 20000 {
		p := api.Prog{Words: wild()}
		for range d.below(5) {
			var lines []api.Line
			for range d.below(4) {
				lines = append(lines, api.Line{Kind: wild(), Reg: wild(), Word: wild(), Value: wild()})
			}
			p.Hands = append(p.Hands, lines)
		}
		want := plain.Told(prog.Check(p))
		l, err := sc.Results(p)
		is, err2 := sc.Races(p)
		if plain.Told(err) != want || plain.Told(err2) != want || (l == nil) != (want != api.OK) || want != api.OK && is {
			t.Fatalf("%+v: got %v %v, %v %v, want %v", p, l, err, is, err2, want)
		}
		if want == api.OK {
			good++
		}
	}
	if good < 100 {
		t.Errorf("%d programs were good", good)
	}
}

// ExampleResults: two hands store, and load what the other one stores; one of them at least sees it.
func ExampleResults() {
	p := program(2, hand(put(0, 1), store(0, 0), load(1, 1)), hand(put(0, 1), store(0, 1), load(1, 0)))
	fmt.Println(sc.Results(p))
	fmt.Println(sc.Races(p))
	// Output:
	// [[1 0 1 1 1 1] [1 1 1 0 1 1] [1 1 1 1 1 1]] <nil>
	// true <nil>
}
