package pair_test

import (
	"fmt"
	"iter"
	"testing"

	"latchgarth/pair"
)

// draw gives numbers from 0 to below n by a short rule, the same ones each time.
type draw uint64

func (d *draw) below(n int) int {
	*d = *d*6364136223846793005 + 1442695040888963407
	return int(uint64(*d) >> 33 % uint64(n))
}

// words of the other way to tell it.
type words struct {
	flags [2]bool
	turn  int
}

// hand is another way to tell what a hand does, without lines that are gone to: it says at which line it stands, and does it when it is asked for the next one.
func (w *words) hand(p int) iter.Seq[int] {
	q := 1 - p
	return func(stands func(int) bool) {
		for stands(1) {
			w.flags[p] = true
			if !stands(2) {
				return
			}
			w.turn = q
			for waits := true; waits; {
				if !stands(3) {
					return
				}
				if !w.flags[q] {
					break
				}
				if !stands(4) {
					return
				}
				waits = w.turn == q
			}
			if !stands(5) || !stands(6) {
				return
			}
			w.flags[p] = false
		}
	}
}

func (w *words) list() []int {
	bit := map[bool]int{true: 1}
	return []int{bit[w.flags[0]], bit[w.flags[1]], w.turn}
}

// TestModel: many scripts, against another way to tell what both hands do.
func TestModel(t *testing.T) {
	d := draw(1)
	for range 300 {
		var w words
		next, stop := [2]func() (int, bool){}, [2]func(){}
		at := [2]int{}
		for p := range 2 {
			next[p], stop[p] = iter.Pull(w.hand(p))
			at[p], _ = next[p]()
		}
		l := pair.New()
		var script []int
		bias := 2 + d.below(5)
		for range 120 {
			p := min(d.below(bias), 1)
			script = append(script, p)
			at[p], _ = next[p]()
			err := l.Step(p)
			if want := fmt.Sprint(at[0], at[1], w.list()); err != nil || shown(l) != want {
				t.Fatalf("after %v: got %s %v, want %s", script, shown(l), err, want)
			}
		}
		stop[0]()
		stop[1]()
	}
}

// everywhere is a script to each thing that a lock may tell, a shortest one.
func everywhere(t *testing.T) map[string][]int {
	known := map[string][]int{shown(pair.New()): nil}
	for left := [][]int{nil}; len(left) > 0; left = left[1:] {
		for p := range 2 {
			script := append(append([]int{}, left[0]...), p)
			told := shown(after(t, script...))
			if _, ok := known[told]; !ok {
				known[told] = script
				left = append(left, script)
			}
		}
	}
	return known
}

// TestOneIn: by whatever script, one hand at most is in; and each hand may be.
func TestOneIn(t *testing.T) {
	known := everywhere(t)
	in := [2]int{}
	for told, script := range known {
		l := after(t, script...)
		if l.At(0) == 5 && l.At(1) == 5 {
			t.Errorf("after %v both are in: %s", script, told)
		}
		for p := range 2 {
			if l.At(p) == 5 {
				in[p]++
			}
		}
	}
	if in[0] == 0 || in[1] == 0 {
		t.Errorf("of %d things that are told, so many have a hand in: %v", len(known), in)
	}
}

// TestNoneWaits: from wherever, turn by turn, each hand comes in; and while one waits, the other one comes in once at most.
func TestNoneWaits(t *testing.T) {
	for told, script := range everywhere(t) {
		for first := range 2 {
			l := after(t, script...)
			in := [2]bool{}
			for i := range 40 {
				p := (first + i) % 2
				if err := l.Step(p); err != nil {
					t.Fatal(err)
				}
				in[p] = in[p] || l.At(p) == 5
			}
			if !in[0] || !in[1] {
				t.Errorf("from %s on, hand %d first: in were %v", told, first, in)
			}
		}
	}
	d := draw(2)
	for range 200 {
		l := pair.New()
		ahead := [2]int{} // how often the other one came in while a hand waits
		for range 200 {
			p := d.below(2)
			if err := l.Step(p); err != nil {
				t.Fatal(err)
			}
			if l.At(p) != 5 {
				continue
			}
			ahead[p] = 0
			if q := 1 - p; l.At(q) == 3 || l.At(q) == 4 {
				if ahead[q]++; ahead[q] > 1 {
					t.Fatalf("hand %d waits, and the other one came in %d times", q, ahead[q])
				}
			}
		}
	}
}
