package bakery_test

import (
	"fmt"
	"iter"
	"slices"
	"testing"

	"latchgarth/api"
	"latchgarth/bakery"
)

// draw gives numbers from 0 to below n by a short rule, the same ones each time.
type draw uint64

func (d *draw) below(n int) int {
	*d = *d*6364136223846793005 + 1442695040888963407
	return int(uint64(*d) >> 33 % uint64(n))
}

// steps of n hands: one of them takes some, then one does again.
func (d *draw) steps(n, count, longest int) []int {
	var out []int
	for len(out) < count {
		p := d.below(n)
		for range 1 + d.below(longest) {
			out = append(out, p)
		}
	}
	return out[:count]
}

// drawn is a script of n hands, the same one each time.
func drawn(n, count int) []int {
	d := draw(n)
	return d.steps(n, count, 4)
}

// model is another way to tell what hands do, without lines that are gone to, or numbers of their own.
type model struct {
	taking []bool // whether each hand is taking a number
	number []int  // that each hand has; 0, if it has none
}

// hand says at which line it stands, and does it when it is asked for the next one.
func (w *model) hand(p int) iter.Seq[int] {
	return func(stands func(int) bool) {
		for w.takes(p, stands) && w.waits(p, stands) && stands(7) && stands(8) {
			w.number[p] = 0
		}
	}
}

// takes a number, above all that it sees; false, if it is asked no more.
func (w *model) takes(p int, stands func(int) bool) bool {
	if !stands(1) {
		return false
	}
	w.taking[p] = true
	var seen []int
	for k := range w.number {
		if !stands(2) {
			return false
		}
		seen = append(seen, w.number[k])
	}
	if !stands(3) {
		return false
	}
	w.number[p] = slices.Max(seen) + 1
	if !stands(4) {
		return false
	}
	w.taking[p] = false
	return true
}

// waits for each hand in turn; false, if it is asked no more.
func (w *model) waits(p int, stands func(int) bool) bool {
	for k := range w.number {
		for taking := true; taking; taking = w.taking[k] {
			if !stands(5) {
				return false
			}
		}
		for ahead := true; ahead; ahead = w.number[k] != 0 && slices.Compare([]int{w.number[k], k}, []int{w.number[p], p}) < 0 {
			if !stands(6) {
				return false
			}
		}
	}
	return true
}

func (w *model) words() []int {
	out := make([]int, len(w.taking))
	for p, taking := range w.taking {
		if taking {
			out[p] = 1
		}
	}
	return append(out, w.number...)
}

// TestModel: many scripts, against another way to tell what hands do.
func TestModel(t *testing.T) {
	d := draw(5)
	for n := 1; n <= api.MaxHands; n++ {
		for round := range 300 {
			checkModel(t, n, d.steps(n, 200, 1+round%6))
		}
	}
}

func checkModel(t *testing.T, n int, steps []int) {
	t.Helper()
	w := model{taking: make([]bool, n), number: make([]int, n)}
	at := make([]int, n)
	next := make([]func() (int, bool), n)
	for p := range n {
		var stop func()
		next[p], stop = iter.Pull(w.hand(p))
		defer stop()
		at[p], _ = next[p]()
	}
	l := fresh(t, n)
	for i, p := range steps {
		at[p], _ = next[p]()
		err := l.Step(p)
		want := ""
		for _, line := range at {
			want += fmt.Sprint(line, " ")
		}
		want += fmt.Sprint(w.words())
		if err != nil || shown(l, n) != want {
			t.Fatalf("of %d, after %v: got %s %v, want %s", n, steps[:i+1], shown(l, n), err, want)
		}
	}
}

// everywhere is all that a lock for n hands may come to while no number is above the highest, each once, the new one first. It leans on a lock being a value: two that are the same do the same.
func everywhere(t *testing.T, n, highest int) []bakery.Lock {
	t.Helper()
	found := []bakery.Lock{*fresh(t, n)}
	known := map[bakery.Lock]struct{}{found[0]: {}}
	for i := 0; i < len(found); i++ {
		for p := range n {
			l := found[i]
			step(t, &l, p)
			if _, ok := known[l]; ok || slices.Max(l.Words()) > highest {
				continue
			}
			known[l] = struct{}{}
			found = append(found, l)
		}
	}
	return found
}

// comesIn tells whether a hand is in behind no more steps than so many, all others taking none.
func comesIn(t *testing.T, l bakery.Lock, p, most int) bool {
	t.Helper()
	for range most {
		if l.At(p) == 7 {
			break
		}
		step(t, &l, p)
	}
	return l.At(p) == 7
}

// TestEverywhere: while numbers are low, by whatever script, one hand at most is in, and each hand may be; and one that is alone comes in, whatever all others have done.
func TestEverywhere(t *testing.T) {
	for i, highest := range []int{9, 9, 4} {
		n := i + 1
		often := make([]int, n)
		for _, l := range everywhere(t, n, highest) {
			in, rest := 0, 0
			for p := range n {
				switch l.At(p) {
				case 7:
					in++
					often[p]++
				case 1:
					rest++
				}
			}
			if in > 1 {
				t.Fatalf("%d are in: %s", in, shown(&l, n))
			}
			for p := range n {
				alone := rest == n || rest == n-1 && l.At(p) != 1
				if alone && !comesIn(t, l, p, 3*n+5) {
					t.Fatalf("hand %d alone does not come in from %s on", p, shown(&l, n))
				}
			}
		}
		for p, count := range often {
			if count == 0 {
				t.Errorf("of %d, hand %d is never in", n, p)
			}
		}
	}
}

// TestInOrder: by many scripts, one hand at most is in, and who has a number comes in ahead of all that begin to take theirs behind it.
func TestInOrder(t *testing.T) {
	d := draw(8)
	for n := 2; n <= api.MaxHands; n++ {
		for round := range 300 {
			checkInOrder(t, n, d.steps(n, 400, 1+round%8))
		}
	}
}

func checkInOrder(t *testing.T, n int, steps []int) {
	t.Helper()
	l := fresh(t, n)
	ahead := make([]map[int]struct{}, n) // of each hand: those that had a number when it began, and have not been in since
	for i, p := range steps {
		was := l.At(p)
		step(t, l, p)
		switch {
		case was == 1:
			ahead[p] = map[int]struct{}{}
			for q := range n {
				if l.At(q) == 5 || l.At(q) == 6 {
					ahead[p][q] = struct{}{}
				}
			}
		case l.At(p) == 7:
			for q := range n {
				delete(ahead[q], p)
				if q != p && l.At(q) == 7 {
					t.Fatalf("of %d, after %v: hands %d and %d are in", n, steps[:i+1], p, q)
				}
			}
			if len(ahead[p]) > 0 {
				t.Fatalf("of %d, after %v: hand %d is in, and ahead of it are %v", n, steps[:i+1], p, ahead[p])
			}
		}
	}
}

// TestNoneWaits: wherever a script leads, each hand comes in while all take steps turn by turn.
func TestNoneWaits(t *testing.T) {
	d := draw(9)
	for n := 1; n <= api.MaxHands; n++ {
		for range 100 {
			steps := d.steps(n, 1+d.below(200), 1+d.below(8))
			l := after(t, n, steps)
			came := make([]int, n)
			for range 2 * n * (3*n + 5) {
				for p := range n {
					step(t, l, p)
					if l.At(p) == 7 {
						came[p]++
					}
				}
			}
			if slices.Min(came) == 0 {
				t.Errorf("of %d, after %v and turn by turn: the hands came in %v times", n, steps, came)
			}
		}
	}
}
