package mcs_test

import (
	"fmt"
	"iter"
	"slices"
	"testing"

	"latchgarth/api"
	"latchgarth/mcs"
)

// draw gives numbers from 0 to below n by a short rule, the same ones each time.
type draw uint64

func (d *draw) below(n int) int {
	*d = *d*6364136223846793005 + 1442695040888963407
	return int(uint64(*d) >> 33 % uint64(n))
}

// steps of n hands: one of them takes some, then one does again.
func (d *draw) steps(n, count, longest int) []int {
	var out []int
	for len(out) < count {
		p := d.below(n)
		for range 1 + d.below(longest) {
			out = append(out, p)
		}
	}
	return out[:count]
}

// drawn is a script of n hands, the same one each time.
func drawn(n, count int) []int {
	d := draw(n)
	return d.steps(n, count, 4)
}

// model is another way to tell what hands do, without lines that are gone to, or numbers of their own: all that have come and are not out stand in one row.
type model struct {
	row    []int  // the hands, in order
	said   []bool // whether each hand of the row has said that it waits
	behind []int  // one more than the hand that has made itself known to each one; 0, if none has since it began
}

// hand says at which line it stands, and does it when it is asked for the next one.
func (w *model) hand(p int) iter.Seq[int] {
	return func(stands func(int) bool) {
		for w.comes(p, stands) && stands(6) && w.goes(p, stands) {
			w.row = w.row[1:]
			w.said[p] = false
		}
	}
}

// comes into the row, and waits until it is the first one there; false, if it is asked no more.
func (w *model) comes(p int, stands func(int) bool) bool {
	if !stands(1) {
		return false
	}
	w.behind[p] = 0
	if !stands(2) {
		return false
	}
	w.row = append(w.row, p)
	if w.row[0] == p {
		return true
	}
	if !stands(3) {
		return false
	}
	w.said[p] = true
	if !stands(4) {
		return false
	}
	w.behind[w.row[slices.Index(w.row, p)-1]] = p + 1
	for first := false; !first; first = w.row[0] == p {
		if !stands(5) {
			return false
		}
	}
	return true
}

// goes on until it may leave the row, of which it is the first one; false, if it is asked no more.
func (w *model) goes(p int, stands func(int) bool) bool {
	if !stands(7) {
		return false
	}
	known := w.behind[p] != 0
	if !known {
		if !stands(8) {
			return false
		}
		if len(w.row) == 1 {
			return true
		}
	}
	for ; !known; known = w.behind[p] != 0 {
		if !stands(9) {
			return false
		}
	}
	return stands(10)
}

func (w *model) words() []int {
	n := len(w.said)
	out := make([]int, 1+n, 1+2*n)
	if len(w.row) > 0 {
		out[0] = w.row[len(w.row)-1] + 1
	}
	for p, said := range w.said {
		if said && w.row[0] != p {
			out[1+p] = 1
		}
	}
	return append(out, w.behind...)
}

// TestModel: many scripts, against another way to tell what hands do.
func TestModel(t *testing.T) {
	d := draw(5)
	for n := 1; n <= api.MaxHands; n++ {
		for round := range 300 {
			checkModel(t, n, d.steps(n, 200, 1+round%6))
		}
	}
}

func checkModel(t *testing.T, n int, steps []int) {
	t.Helper()
	w := model{said: make([]bool, n), behind: make([]int, n)}
	at := make([]int, n)
	next := make([]func() (int, bool), n)
	for p := range n {
		var stop func()
		next[p], stop = iter.Pull(w.hand(p))
		defer stop()
		at[p], _ = next[p]()
	}
	l := fresh(t, n)
	for i, p := range steps {
		at[p], _ = next[p]()
		err := l.Step(p)
		want := ""
		for _, line := range at {
			want += fmt.Sprint(line, " ")
		}
		want += fmt.Sprint(w.words())
		if err != nil || shown(l, n) != want {
			t.Fatalf("of %d, after %v: got %s %v, want %s", n, steps[:i+1], shown(l, n), err, want)
		}
	}
}

// place is a lock, and the hands that have come and are not out, in order.
type place struct {
	lock mcs.Lock
	row  [api.MaxHands]int
	many int
}

// then is the place that a step of a hand leads to.
func (a place) then(t *testing.T, p int) place {
	t.Helper()
	was := a.lock.At(p)
	step(t, &a.lock, p)
	now := a.lock.At(p)
	switch {
	case was == 2:
		a.row[a.many] = p
		a.many++
	case was != 1 && now == 1:
		if a.many == 0 || a.row[0] != p {
			t.Fatalf("hand %d is out, and others are ahead of it: %v", p, a)
		}
		copy(a.row[:], a.row[1:])
		a.many--
		a.row[a.many] = 0
	}
	return a
}

// has tells whether hand p has come and is not out.
func (a place) has(p int) bool { return slices.Contains(a.row[:a.many], p) }

// everywhere is all that n hands may come to, each once, the new lock first. It leans on a lock being a value: two that are the same do the same.
func everywhere(t *testing.T, n int) []place {
	t.Helper()
	found := []place{{lock: *fresh(t, n)}}
	known := map[place]struct{}{found[0]: {}}
	for i := 0; i < len(found); i++ {
		for p := range n {
			a := found[i].then(t, p)
			if _, ok := known[a]; ok {
				continue
			}
			known[a] = struct{}{}
			found = append(found, a)
		}
	}
	return found
}

// TestEverywhere: by whatever script, who is in is the first one that has come and is not out, so one at most is, and who comes ahead comes in ahead. That first one goes on at each step, but that it stays at line 9 while the one behind it, which stays nowhere, has not made itself known; all others go on at each step until they wait at line 5. So none waits for ever while all go on.
func TestEverywhere(t *testing.T) {
	for n := 1; n <= api.MaxHands; n++ {
		often := make([]int, n)
		for _, a := range everywhere(t, n) {
			if got, want := a.lock.Words()[0], a.last(); got != want {
				t.Fatalf("T is %d, want %d: %s", got, want, shown(&a.lock, n))
			}
			for p := range n {
				b := a.then(t, p)
				if got, want := b.lock.At(p), a.after(p); got != want {
					t.Fatalf("of %d, hand %d goes to %d, want %d, from %s on", n, p, got, want, shown(&a.lock, n))
				}
				if a.lock.At(p) == b.lock.At(p) && a != b {
					t.Fatalf("of %d, hand %d stays, and changes something: %s and %s", n, p, shown(&a.lock, n), shown(&b.lock, n))
				}
				if a.lock.At(p) == 6 {
					often[p]++
				}
			}
		}
		for p, count := range often {
			if count == 0 {
				t.Errorf("of %d, hand %d is never in", n, p)
			}
		}
	}
}

// last is one more than the hand that has come last; 0, if all are out.
func (a place) last() int {
	if a.many == 0 {
		return 0
	}
	return a.row[a.many-1] + 1
}

// after is the line to which a step of hand p is to lead; 0, where it may not stand.
func (a place) after(p int) int {
	known := a.many > 1 && a.lock.At(a.row[1]) == 5
	line := a.lock.At(p)
	switch {
	case !a.has(p) && a.many == 0:
		return [11]int{1: 2, 2: 6}[line]
	case !a.has(p):
		return [11]int{1: 2, 2: 3}[line]
	case a.row[0] != p:
		return [11]int{3: 4, 4: 5, 5: 5}[line]
	case known:
		return [11]int{5: 6, 6: 7, 7: 10, 8: 9, 9: 10, 10: 1}[line]
	case a.many > 1:
		return [11]int{5: 6, 6: 7, 7: 8, 8: 9, 9: 9}[line]
	}
	return [11]int{5: 6, 6: 7, 7: 8, 8: 1}[line]
}

// TestNoneWaits: wherever a script leads, each hand comes in while all take steps turn by turn.
func TestNoneWaits(t *testing.T) {
	for n := 1; n <= api.MaxHands; n++ {
		for _, a := range everywhere(t, n) {
			l := a.lock
			came := make([]int, n)
			for range 10 * n {
				for p := range n {
					step(t, &l, p)
					if l.At(p) == 6 {
						came[p]++
					}
				}
			}
			if slices.Min(came) == 0 {
				t.Errorf("of %d, from %s on, turn by turn, the hands came in %v times", n, shown(&a.lock, n), came)
			}
		}
	}
}
