package fast_test

import (
	"fmt"
	"math"
	"slices"
	"strconv"
	"strings"
	"testing"

	"latchgarth/api"
	"latchgarth/fast"
	"latchgarth/plain"
)

// noHands are numbers that are no hands of a lock for n.
func noHands(n int) []int {
	return []int{
		-1, n, n + 1, 4, 5, 7, 8, -2, -n, -n - 1, 256, 257, 1 << 32, 1<<32 + 1,
		math.MinInt, math.MinInt + 1, math.MaxInt - 1, math.MaxInt,
	}
}

// fresh is a new lock for n hands, of which there may be so many.
func fresh(t *testing.T, n int) *fast.Lock {
	t.Helper()
	l, err := fast.New(n)
	if err != nil {
		t.Fatalf("new lock for %d: got %v", n, err)
	}
	return l
}

// shown is all that a lock for n hands tells: where they stand, and its words.
func shown(l *fast.Lock, n int) string {
	out := ""
	for p := range n {
		out += fmt.Sprint(l.At(p), " ")
	}
	return out + fmt.Sprint(l.Words())
}

// step of a hand that is one.
func step(t *testing.T, l *fast.Lock, p int) {
	t.Helper()
	if err := l.Step(p); err != nil {
		t.Fatalf("step of hand %d, words %v: got %v", p, l.Words(), err)
	}
}

// script of hands, a digit each, or 0x7: hand 0 seven times; spaces are for the eye.
func script(text string) []int {
	var out []int
	for _, part := range strings.Fields(text) {
		hand, times, many := strings.Cut(part, "x")
		if many {
			count, err := strconv.Atoi(times)
			if err != nil {
				panic(err)
			}
			hand = strings.Repeat(hand, count)
		}
		for _, c := range hand {
			out = append(out, int(c-'0'))
		}
	}
	return out
}

// after is a new lock for n hands after a script of them.
func after(t *testing.T, n int, script []int) *fast.Lock {
	t.Helper()
	l := fresh(t, n)
	for _, p := range script {
		step(t, l, p)
	}
	return l
}

// TestNew: for each number of hands that may be, all stand at line 1, and all words, two and one for each hand, are 0.
func TestNew(t *testing.T) {
	for i, want := range []string{"1 [0 0 0]", "1 1 [0 0 0 0]", "1 1 1 [0 0 0 0 0]", "1 1 1 1 [0 0 0 0 0 0]"} {
		n := i + 1
		l, err := fast.New(n)
		if err != nil || l == nil {
			t.Fatalf("for %d hands: got %v %v", n, l, err)
		}
		if got := shown(l, n); got != want {
			t.Errorf("for %d hands: got %s, want %s", n, got, want)
		}
	}
}

// TestNewNone: for any other number there is no lock, and ErrRange is told.
func TestNewNone(t *testing.T) {
	for _, n := range []int{
		0, -1, -2, -4, 5, 6, 8, 255, 256, 257, 1 << 32, 1<<32 + 1, -1 << 32, 1 - 1<<32,
		math.MinInt, math.MinInt + 1, math.MaxInt - 1, math.MaxInt,
	} {
		if l, err := fast.New(n); plain.Told(err) != api.ErrRange || l != nil {
			t.Errorf("for %d hands: got %v %v", n, l, err)
		}
	}
}

// many steps of a hand that is one.
func many(t *testing.T, l *fast.Lock, p, count int) {
	t.Helper()
	for range count {
		step(t, l, p)
	}
}

// stands checks where a hand is.
func stands(t *testing.T, name string, l *fast.Lock, p, want int) {
	t.Helper()
	if got := l.At(p); got != want {
		t.Fatalf("%s: hand %d stands at %d, want %d, words %v", name, p, got, want, l.Words())
	}
}

// TestAlone: a hand that is alone is in at its sixth line, whoever was in before, and how often.
func TestAlone(t *testing.T) {
	for n := 1; n <= api.MaxHands; n++ {
		l := fresh(t, n)
		for round := range 5 * n {
			p := round * round % n
			name := fmt.Sprintf("of %d, round %d", n, round)
			want := make([]int, 2+n)
			want[0] = l.Words()[0]
			for i, line := range []int{1, 2, 3, 6, 7, 12, 13, 14, 1} {
				stands(t, name, l, p, line)
				if i < 8 {
					step(t, l, p)
				}
				switch i {
				case 0:
					want[2+p] = 1
				case 1:
					want[0] = p + 1
				case 3:
					want[1] = p + 1
				case 6:
					want[1] = 0
				case 7:
					want[2+p] = 0
				}
				if got := l.Words(); !slices.Equal(got, want) {
					t.Fatalf("%s, behind line %d: got %v, want %v", name, line, got, want)
				}
			}
		}
	}
}

// TestOwnStays: k of a hand stays its own while it waits for B of another one, and all others do lines of theirs: when it goes on it does so from that other one on, round after round.
func TestOwnStays(t *testing.T) {
	for n := 2; n <= api.MaxHands; n++ {
		for p := range n {
			l := fresh(t, n)
			for round := range 3 * n {
				j := round % n
				if j != p {
					checkOwnStays(t, l, n, p, j)
				}
			}
		}
	}
}

// checkOwnStays goes from where all hands stand at line 1 to where they do so again; hand p waits for B of hand j.
func checkOwnStays(t *testing.T, l *fast.Lock, n, p, j int) {
	t.Helper()
	name := fmt.Sprintf("of %d, hand %d waits for hand %d", n, p, j)
	many(t, l, p, 4)
	many(t, l, j, 2)
	many(t, l, p, 2+j)
	stands(t, name, l, p, 9)
	for r := range n {
		if r != p && r != j {
			many(t, l, r, 3)
			many(t, l, p, 2)
			many(t, l, r, 2)
			stands(t, name, l, r, 5)
		}
	}
	many(t, l, p, 3)
	many(t, l, j, 2)
	stands(t, name, l, j, 5)
	many(t, l, p, n-j-1)
	stands(t, name+", one more", l, p, 9)
	step(t, l, p)
	stands(t, name+", and goes on", l, p, 10)
	step(t, l, p)
	stands(t, name+", and is in", l, p, 12)
	many(t, l, p, 3)
	for r := range n {
		if r != p {
			step(t, l, r)
		}
		stands(t, name+", and is out", l, r, 1)
	}
}

// TestOwnApart: k of two hands that both stand at line 9 are two: each looks at all from hand 0 on, however they take turns.
func TestOwnApart(t *testing.T) {
	for n := 3; n <= api.MaxHands; n++ {
		for p := range n {
			for q := range n {
				for ahead := range n + 1 {
					if q != p {
						checkOwnApart(t, n, p, q, ahead)
					}
				}
			}
		}
	}
}

// checkOwnApart: of hands p and q, who both took it, q looks ahead at so many.
func checkOwnApart(t *testing.T, n, p, q, ahead int) {
	t.Helper()
	name := fmt.Sprintf("of %d, hands %d and %d, %d ahead", n, p, q, ahead)
	l := fresh(t, n)
	third := 0
	for third == p || third == q {
		third++
	}
	many(t, l, p, 3)
	many(t, l, q, 3)
	many(t, l, third, 2)
	for range 3 {
		step(t, l, p)
		step(t, l, q)
	}
	many(t, l, third, 2)
	stands(t, name, l, third, 5)
	many(t, l, q, ahead)
	many(t, l, p, n-1)
	stands(t, name, l, p, 9)
	step(t, l, p)
	stands(t, name, l, p, 10)
	if ahead < n {
		many(t, l, q, n-1-ahead)
		stands(t, name, l, q, 9)
		step(t, l, q)
	}
	stands(t, name, l, q, 10)
	step(t, l, p)
	stands(t, name, l, p, 11)
	step(t, l, q)
	stands(t, name, l, q, 12)
}

// TestOwnAgain: k of a hand is 0 again when it comes to line 9 once more, by whichever way it went to line 1.
func TestOwnAgain(t *testing.T) {
	for n := 2; n <= api.MaxHands; n++ {
		for p := range n {
			q := (p + 1) % n
			for _, way := range []struct {
				name  string
				steps []int // what each hand does turn by turn: p first, then q
			}{
				{"at first", nil},
				{"by line 14, from line 7", []int{8}},
				{"by line 14, from line 10", []int{4, 5, n + 6, 1}},
				{"by line 5", []int{0, 5, 5, 3, 1}},
				{"by line 11", []int{2, 2, 1, 1, 1, 2, 2, 3, n + 2}},
			} {
				name := fmt.Sprintf("of %d, hand %d, %s", n, p, way.name)
				l := fresh(t, n)
				for range 3 {
					for i, count := range way.steps {
						many(t, l, []int{p, q}[i%2], count)
					}
					stands(t, name, l, p, 1)
					stands(t, name, l, q, 1)
					checkLooks(t, name, l, n, p, q)
				}
			}
		}
	}
}

// checkLooks: hand p looks at so many hands as there are, and is in; at last both stand at line 1 again.
func checkLooks(t *testing.T, name string, l *fast.Lock, n, p, q int) {
	t.Helper()
	many(t, l, p, 4)
	many(t, l, q, 5)
	many(t, l, p, 2)
	for range n {
		stands(t, name, l, p, 9)
		step(t, l, p)
	}
	stands(t, name, l, p, 10)
	step(t, l, p)
	stands(t, name, l, p, 12)
	many(t, l, p, 3)
	step(t, l, q)
}

// TestMayStay: who is not alone may stay as often as the other one comes in: by a script that lets it look only while the other one is in, hand 1 never is.
func TestMayStay(t *testing.T) {
	l := after(t, 2, script("0x5 1x5"))
	for range 1000 {
		many(t, l, 0, 8)
		many(t, l, 1, 3)
		if got, want := shown(l, 2), "12 5 [1 1 1 0]"; got != want {
			t.Fatalf("got %s, want %s", got, want)
		}
	}
}

// TestNoHand: wherever the hands stand, Step of a hand that is none tells ErrRange and changes nothing, then or later, and it stands at 0.
func TestNoHand(t *testing.T) {
	for n := 1; n <= api.MaxHands; n++ {
		steps := drawn(n, 120)
		l := fresh(t, n)
		for i := range len(steps) + 1 {
			for _, p := range noHands(n) {
				if err := l.Step(p); plain.Told(err) != api.ErrRange {
					t.Errorf("of %d, after %v: step of %d: got %v", n, steps[:i], p, err)
				}
				if got := l.At(p); got != 0 {
					t.Errorf("of %d, after %v: %d stands at %d", n, steps[:i], p, got)
				}
			}
			if got, want := shown(l, n), shown(after(t, n, steps[:i]), n); got != want {
				t.Errorf("of %d, after %v, and those that are no hands: got %s, want %s", n, steps[:i], got, want)
			}
			if i < len(steps) {
				step(t, l, steps[i])
			}
		}
	}
}

// TestAsked: to ask changes nothing.
func TestAsked(t *testing.T) {
	for n := 1; n <= api.MaxHands; n++ {
		steps := drawn(n, 120)
		l := fresh(t, n)
		for i, p := range steps {
			for range 3 {
				for q := -1; q <= n; q++ {
					l.At(q)
				}
				l.Words()
			}
			step(t, l, p)
			if got, want := shown(l, n), shown(after(t, n, steps[:i+1]), n); got != want {
				t.Errorf("of %d, after %v: got %s, want %s", n, steps[:i+1], got, want)
			}
		}
	}
}

// TestWordsFresh: Words are fresh memory each time: what is written into them, or behind them, is not seen, nor are they changed by what comes after.
func TestWordsFresh(t *testing.T) {
	for n := 1; n <= api.MaxHands; n++ {
		steps := drawn(n, 60)
		l, same := after(t, n, steps), after(t, n, steps)
		want := slices.Clone(same.Words())
		if len(want) != 2+n {
			t.Fatalf("for %d hands there are the words %v", n, want)
		}
		one, other := l.Words(), l.Words()
		for i := range one[:cap(one)] {
			one[:cap(one)][i] = -7
		}
		if !slices.Equal(other, want) || !slices.Equal(l.Words(), want) {
			t.Errorf("of %d: written into one answer, others are %v and %v, want %v", n, other, l.Words(), want)
		}
		for _, p := range drawn(n, 60) {
			step(t, l, p)
			step(t, same, p)
			if got, want := shown(l, n), shown(same, n); got != want {
				t.Fatalf("of %d: written into what was told, got %s, want %s", n, got, want)
			}
		}
		if !slices.Equal(other, want) {
			t.Errorf("of %d: what was told before is %v, and was %v", n, other, want)
		}
	}
}

// TestApart: two locks share nothing, for as many hands or not, and a new one tells nothing of those before.
func TestApart(t *testing.T) {
	for n := 1; n <= api.MaxHands; n++ {
		for m := 1; m <= api.MaxHands; m++ {
			one, other := fresh(t, n), fresh(t, m)
			first, second := drawn(n, 60), drawn(m, 90)[30:]
			for i := range first {
				step(t, one, first[i])
				if got, want := shown(other, m), shown(after(t, m, second[:i]), m); got != want {
					t.Errorf("step %d of one lock for %d: the other one is %s, want %s", i, n, got, want)
				}
				step(t, other, second[i])
				if got, want := shown(one, n), shown(after(t, n, first[:i+1]), n); got != want {
					t.Errorf("step %d of the other lock for %d: the one is %s, want %s", i, m, got, want)
				}
			}
			if got, want := shown(fresh(t, n), n), strings.Repeat("1 ", n)+fmt.Sprint(make([]int, 2+n)); got != want {
				t.Errorf("a new one for %d is %s", n, got)
			}
		}
	}
}

// ExampleLock: hand 0 was alone, and is in; hand 1 waits for it, and hand 2 has begun.
func ExampleLock() {
	l, err := fast.New(3)
	if err != nil {
		fmt.Println(err)
	}
	for _, p := range []int{0, 0, 0, 0, 0, 1, 1, 1, 1, 1, 2} {
		if err := l.Step(p); err != nil {
			fmt.Println(err)
		}
	}
	fmt.Println(l.At(0), l.At(1), l.At(2), l.Words())
	fmt.Println(l.Step(3), l.At(3))
	_, err = fast.New(5)
	fmt.Println(err)
	// Output:
	// 12 5 2 [2 1 1 0 1]
	// ErrRange 0
	// ErrRange
}
