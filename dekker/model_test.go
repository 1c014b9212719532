package dekker_test

import (
	"fmt"
	"iter"
	"testing"

	"latchgarth/dekker"
)

// draw gives numbers from 0 to below n by a short rule, the same ones each time.
type draw uint64

func (d *draw) below(n int) int {
	*d = *d*6364136223846793005 + 1442695040888963407
	return int(uint64(*d) >> 33 % uint64(n))
}

// words of the other way to tell it.
type words struct {
	flags [2]bool
	turn  int
}

// hand is another way to tell what a hand does, without lines that are gone to: it says at which line it stands, and does it when it is asked for the next one.
func (w *words) hand(p int) iter.Seq[int] {
	return func(stands func(int) bool) {
		for stands(1) {
			w.flags[p] = true
			if !w.comesIn(p, stands) || !stands(7) || !stands(8) {
				return
			}
			w.turn = 1 - p
			if !stands(9) {
				return
			}
			w.flags[p] = false
		}
	}
}

// comesIn does what a hand does from its flag on until the other one's is down; false, if it is asked no more.
func (w *words) comesIn(p int, stands func(int) bool) bool {
	for stands(2) {
		if !w.flags[1-p] {
			return true
		}
		if !stands(3) {
			return false
		}
		if w.turn != p && !w.givesWay(p, stands) {
			return false
		}
	}
	return false
}

// givesWay does what a hand does while it isn't its turn; false, if it is asked no more.
func (w *words) givesWay(p int, stands func(int) bool) bool {
	if !stands(4) {
		return false
	}
	w.flags[p] = false
	for waits := true; waits; waits = w.turn != p {
		if !stands(5) {
			return false
		}
	}
	if !stands(6) {
		return false
	}
	w.flags[p] = true
	return true
}

func (w *words) list() []int {
	bit := map[bool]int{true: 1}
	return []int{bit[w.flags[0]], bit[w.flags[1]], w.turn}
}

// TestModel: many scripts, against another way to tell what both hands do.
func TestModel(t *testing.T) {
	d := draw(1)
	for round := range 300 {
		var w words
		next, stop := [2]func() (int, bool){}, [2]func(){}
		at := [2]int{}
		for p := range 2 {
			next[p], stop[p] = iter.Pull(w.hand(p))
			at[p], _ = next[p]()
		}
		l := dekker.New()
		var steps []int
		bias, often := 2+d.below(5), round%2
		for range 120 {
			p := min(d.below(bias), 1)
			if often == 0 {
				p = 1 - p
			}
			steps = append(steps, p)
			at[p], _ = next[p]()
			err := l.Step(p)
			if want := fmt.Sprint(at[0], at[1], w.list()); err != nil || shown(l) != want {
				t.Fatalf("after %v: got %s %v, want %s", steps, shown(l), err, want)
			}
		}
		stop[0]()
		stop[1]()
	}
}

// place is one of the things that a lock may come to: a shortest script to it, where its hands stand, and what it tells behind a step of either.
type place struct {
	script []int
	at     [2]int
	next   [2]string
}

// everywhere is all that a lock may come to, by what it tells there.
func everywhere(t *testing.T) map[string]place {
	known := map[string]place{}
	seen := map[string]bool{shown(dekker.New()): true}
	for left := [][]int{nil}; len(left) > 0; left = left[1:] {
		l := after(t, left[0])
		told := shown(l)
		here := place{script: left[0], at: [2]int{l.At(0), l.At(1)}}
		for p := range 2 {
			script := append(append([]int{}, left[0]...), p)
			here.next[p] = shown(after(t, script))
			if !seen[here.next[p]] {
				seen[here.next[p]] = true
				left = append(left, script)
			}
		}
		known[told] = here
	}
	return known
}

// TestOneIn: by whatever script, one hand at most is in; and each hand may be.
func TestOneIn(t *testing.T) {
	in := [2]int{}
	for told, here := range everywhere(t) {
		if here.at == [2]int{7, 7} {
			t.Errorf("after %v both are in: %s", here.script, told)
		}
		for p := range 2 {
			if here.at[p] == 7 {
				in[p]++
			}
		}
	}
	if in[0] == 0 || in[1] == 0 {
		t.Errorf("with a hand in there are so many: %v", in)
	}
}

// TestAlone: from wherever the other one stands at line 1, and takes no step, a hand comes in.
func TestAlone(t *testing.T) {
	for told, here := range everywhere(t) {
		for p := range 2 {
			if here.at[1-p] != 1 {
				continue
			}
			l := after(t, here.script)
			for range 20 {
				if l.At(p) == 7 {
					break
				}
				step(t, l, p)
			}
			if l.At(p) != 7 {
				t.Errorf("from %s on, hand %d alone is at last at %s", told, p, shown(l))
			}
		}
	}
}

// waits tells whether hand p asks to come in, and isn't in yet.
func (here place) waits(p int) bool { return 2 <= here.at[p] && here.at[p] <= 6 }

// reached is all that a lock comes to from there on while hand p waits all the time.
func reached(known map[string]place, from string, p int) map[string]bool {
	out := map[string]bool{from: true}
	for left := []string{from}; len(left) > 0; left = left[1:] {
		for _, told := range known[left[0]].next {
			if known[told].waits(p) && !out[told] {
				out[told] = true
				left = append(left, told)
			}
		}
	}
	return out
}

// TestNoneWaits: no script that both hands go on in, for ever, lets one of them wait for ever: there is no round of steps of both in which one waits all the time.
func TestNoneWaits(t *testing.T) {
	known := everywhere(t)
	for p := range 2 {
		reach := map[string]map[string]bool{}
		for told, here := range known {
			if here.waits(p) {
				reach[told] = reached(known, told, p)
			}
		}
		if len(reach) == 0 {
			t.Errorf("hand %d waits nowhere", p)
		}
		for told, there := range reach {
			steps := [2]bool{} // which hands step on a round through here
			for one := range there {
				for q, next := range known[one].next {
					steps[q] = steps[q] || there[next] && reach[next][told]
				}
			}
			if steps[0] && steps[1] {
				t.Errorf("hand %d may wait for ever from %s on, after %v", p, told, known[told].script)
			}
		}
	}
}
