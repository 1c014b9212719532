package sc_test

import (
	"math"
	"slices"
	"testing"

	"latchgarth/api"
	"latchgarth/plain"
	"latchgarth/prog"
	"latchgarth/sc"
)

// Lines as tests write them; what a line does not need is 0.
func put(reg, value int) api.Line  { return api.Line{Kind: api.Put, Reg: reg, Value: value} }
func load(reg, word int) api.Line  { return api.Line{Kind: api.Load, Reg: reg, Word: word} }
func store(reg, word int) api.Line { return api.Line{Kind: api.Store, Reg: reg, Word: word} }
func swap(reg, word int) api.Line  { return api.Line{Kind: api.Swap, Reg: reg, Word: word} }
func fence() api.Line              { return api.Line{Kind: api.Fence} }
func leave(reg, many int) api.Line { return api.Line{Kind: api.Leave, Reg: reg, Value: many} }

func hand(lines ...api.Line) []api.Line { return lines }

func program(words int, hands ...[]api.Line) api.Prog { return api.Prog{Words: words, Hands: hands} }

func same(a, b [][]int) bool { return slices.EqualFunc(a, b, slices.Equal) }

type asked struct {
	name  string
	p     api.Prog
	want  [][]int
	races bool
}

func testAsked(t *testing.T, cases []asked) {
	t.Helper()
	for _, c := range cases {
		if got, err := sc.Results(c.p); err != nil || !same(got, c.want) {
			t.Errorf("%s: Results: got %v %v, want %v", c.name, got, err, c.want)
		}
		if got, err := sc.Races(c.p); err != nil || got != c.races {
			t.Errorf("%s: Races: got %v %v, want %v", c.name, got, err, c.races)
		}
	}
}

// TestOneHand: whatever the script, one thing is told, and a hand does not race with itself.
func TestOneHand(t *testing.T) {
	testAsked(t, []asked{
		{"no line", program(1, nil), [][]int{{0, 0, 0}}, false},
		{"an empty hand that is not nil", program(4, []api.Line{}), [][]int{make([]int, 6)}, false},
		{"all kinds", program(2, hand(put(0, 7), store(0, 1), swap(1, 1), leave(0, 1), fence())), [][]int{{7, 7, 0, 0}}, false},
		{"one word, loaded and stored", program(1, hand(put(1, 3), store(1, 0), load(0, 0), store(0, 0), swap(1, 0))), [][]int{{3, 3, 3}}, false},
		{"the end left out", program(1, hand(leave(0, 5), put(0, 1), store(0, 0))), [][]int{{0, 0, 0}}, false},
	})
}

func TestTwoHands(t *testing.T) {
	one := hand(put(0, 1), store(0, 0))
	testAsked(t, []asked{
		{"no lines", program(1, nil, nil), [][]int{{0, 0, 0, 0, 0}}, false},
		{"nothing shared", program(2, one, hand(put(0, 2), store(0, 1))), [][]int{{1, 0, 2, 0, 1, 2}}, false},
		{"who stores last", program(1, one, hand(put(0, 2), store(0, 0))), [][]int{{1, 0, 2, 0, 1}, {1, 0, 2, 0, 2}}, true},
		{"a store, and a load", program(1, one, hand(load(1, 0))), [][]int{{1, 0, 0, 0, 1}, {1, 0, 0, 1, 1}}, true},
		{"both load", program(1, hand(load(0, 0)), hand(load(0, 0))), [][]int{{0, 0, 0, 0, 0}}, false},
		{"both swap", program(1, hand(put(0, 1), swap(0, 0)), hand(put(0, 2), swap(0, 0))),
			[][]int{{0, 0, 1, 0, 2}, {2, 0, 0, 0, 1}}, false},
		{"not both load nothing, where each stores first", program(2,
			hand(put(0, 1), store(0, 0), load(1, 1)), hand(put(0, 1), store(0, 1), load(1, 0))),
			[][]int{{1, 0, 1, 1, 1, 1}, {1, 1, 1, 0, 1, 1}, {1, 1, 1, 1, 1, 1}}, true},
		{"what was stored first is seen first", program(2,
			hand(put(0, 1), store(0, 0), store(0, 1)), hand(load(0, 1), load(1, 0))),
			[][]int{{1, 0, 0, 0, 1, 1}, {1, 0, 0, 1, 1, 1}, {1, 0, 1, 1, 1, 1}}, true},
		{"done past the end, or at it, and the same is told", program(2,
			hand(load(0, 0), leave(0, 5), load(0, 1)), hand(put(0, 1), store(0, 0))),
			[][]int{{0, 0, 1, 0, 1, 0}}, true},
		{"who comes late leaves out its lines", program(2,
			hand(put(0, 1), swap(0, 0), leave(0, 1), store(0, 1)), hand(put(0, 2), swap(0, 0), leave(0, 1), store(0, 1))),
			[][]int{{0, 0, 1, 0, 2, 1}, {2, 0, 0, 0, 1, 2}}, false},
	})
}

func TestThreeHands(t *testing.T) {
	of := func(n int) []api.Line { return hand(put(0, n), swap(0, 0)) }
	testAsked(t, []asked{
		{"no lines", program(1, nil, nil, nil), [][]int{make([]int, 7)}, false},
		{"all swap: each order but those that tell the same", program(1, of(1), of(2), of(3)), [][]int{
			{0, 0, 1, 0, 2, 0, 3}, {0, 0, 3, 0, 1, 0, 2}, {2, 0, 0, 0, 1, 0, 3},
			{2, 0, 3, 0, 0, 0, 1}, {3, 0, 0, 0, 2, 0, 1}, {3, 0, 1, 0, 0, 0, 2}}, false},
		{"what was seen through another one is there", program(2,
			hand(put(0, 1), store(0, 0)), hand(load(0, 0), store(0, 1)), hand(load(0, 1), load(1, 0))), [][]int{
			{1, 0, 0, 0, 0, 0, 1, 0}, {1, 0, 0, 0, 0, 1, 1, 0}, {1, 0, 1, 0, 0, 0, 1, 1},
			{1, 0, 1, 0, 0, 1, 1, 1}, {1, 0, 1, 0, 1, 1, 1, 1}}, true},
		{"the first and the last", program(1, hand(put(0, 1), store(0, 0)), nil, hand(load(0, 0))), [][]int{
			{1, 0, 0, 0, 0, 0, 1}, {1, 0, 0, 0, 1, 0, 1}}, true},
		{"the last two", program(1, hand(fence()), hand(load(0, 0)), hand(swap(0, 0))), [][]int{make([]int, 7)}, true},
	})
}

// TestRisingByNumbers: numbers rise by their worth, and not as they are written; the first place counts most.
func TestRisingByNumbers(t *testing.T) {
	p := program(1, hand(put(0, 9), store(0, 0)), hand(put(0, 1000), store(0, 0)), hand(put(0, 100), swap(0, 0)))
	testAsked(t, []asked{{"9, 100, 1000", p, [][]int{
		{9, 0, 1000, 0, 0, 0, 9}, {9, 0, 1000, 0, 0, 0, 1000}, {9, 0, 1000, 0, 9, 0, 100},
		{9, 0, 1000, 0, 9, 0, 1000}, {9, 0, 1000, 0, 1000, 0, 9}, {9, 0, 1000, 0, 1000, 0, 100}}, true}})
}

// TestRacesKinds: of all pairs of kinds, which race on one word; on two words none does.
func TestRacesKinds(t *testing.T) {
	race := func(a, b int) bool {
		switch [2]int{a, b} {
		case [2]int{api.Store, api.Store}, [2]int{api.Load, api.Store}, [2]int{api.Store, api.Load},
			[2]int{api.Load, api.Swap}, [2]int{api.Swap, api.Load}, [2]int{api.Store, api.Swap}, [2]int{api.Swap, api.Store}:
			return true
		}
		return false
	}
	for a := range 6 {
		for b := range 6 {
			for word := range 2 {
				one, other := hand(api.Line{Kind: a, Word: 1}), hand(api.Line{Kind: b, Word: word})
				for _, p := range []api.Prog{program(2, one, other), program(2, one, nil, other), program(2, nil, other, one)} {
					want := word == 1 && race(a, b)
					if got, err := sc.Races(p); err != nil || got != want {
						t.Errorf("%+v: got %v %v, want %v", p, got, err, want)
					}
				}
			}
		}
	}
}

// TestRacesReached: a race is one only where the hands can come to it.
func TestRacesReached(t *testing.T) {
	// Who swaps a 0 out goes on to the store; others leave, by a register that stays 0.
	once := func(first api.Line) []api.Line { return hand(put(0, 1), first, leave(0, 1), leave(1, 5), store(1, 1)) }
	set := func(last api.Line) []api.Line { return hand(put(0, 7), store(0, 1), last) }
	wait := func(first api.Line) []api.Line { return hand(first, leave(1, 1), load(0, 1)) }
	for _, c := range []struct {
		name string
		p    api.Prog
		want bool
	}{
		{"at once", program(1, hand(store(0, 0)), hand(store(0, 0))), true},
		{"behind the lines of one", program(1, hand(put(0, 1), fence(), leave(1, 0), load(1, 0)), hand(store(0, 0))), true},
		{"behind the lines of both", program(2, hand(load(0, 1), store(0, 0)), hand(fence(), load(1, 1), swap(0, 0))), true},
		{"at the last lines alone", program(4, hand(load(0, 0), load(0, 1), load(0, 2), load(0, 1), store(0, 3)), hand(load(0, 0), load(0, 0), load(0, 1), load(0, 2), load(0, 3))), true},
		{"a line that is left out", program(1, hand(leave(0, 1), store(0, 0)), hand(load(0, 0))), false},
		{"a line that is not left out", program(1, hand(put(0, 1), leave(0, 1), store(0, 0)), hand(load(0, 0))), true},
		{"a line behind what is left out", program(1, hand(leave(0, 1), fence(), store(0, 0)), hand(load(0, 0))), true},
		{"one alone comes to store", program(2, once(swap(0, 0)), once(swap(0, 0))), false},
		{"one of three comes to store", program(2, once(swap(0, 0)), once(swap(0, 0)), once(swap(0, 0))), false},
		{"who loads, too, comes to store", program(2, once(swap(0, 0)), once(load(0, 0))), true},
		{"who swaps a word of its own comes to store", program(3, once(swap(0, 0)), once(swap(0, 2))), true},
		{"told by a swap, seen by a swap", program(2, set(swap(0, 0)), wait(swap(1, 0))), false},
		{"told by a store, seen by a swap", program(2, set(store(0, 0)), wait(swap(1, 0))), true},
		{"told by a swap, seen by a load", program(2, set(swap(0, 0)), wait(load(1, 0))), true},
		{"told, and not waited for", program(2, set(swap(0, 0)), hand(swap(1, 0), load(0, 1))), true},
		{"one hand alone touches the word", program(2, hand(store(0, 0), load(0, 0), swap(0, 0)), hand(store(0, 1), load(0, 1))), false},
		{"a word that a Fence and a Put don't need", program(1, hand(store(0, 0)), hand(api.Line{Kind: api.Fence, Word: 0}, put(0, 1))), false},
	} {
		if got, err := sc.Races(c.p); err != nil || got != c.want {
			t.Errorf("%s: got %v %v, want %v", c.name, got, err, c.want)
		}
	}
}

// TestUnneeded: numbers that a line does not need change nothing.
func TestUnneeded(t *testing.T) {
	const far = math.MaxInt
	testAsked(t, []asked{{"far numbers", program(1,
		hand(api.Line{Kind: api.Put, Reg: 1, Word: far, Value: 4}, api.Line{Kind: api.Swap, Reg: 1, Value: -far}),
		hand(api.Line{Kind: api.Fence, Reg: -far, Word: far, Value: far}, api.Line{Kind: api.Leave, Word: -far, Value: 5})),
		[][]int{{0, 0, 0, 0, 4}}, false}})
}

// TestWrong: of each fault of a program what is told, and nothing beside it; of several the one that chapter 1 names first.
func TestWrong(t *testing.T) {
	six, bad := make([]api.Line, api.MaxLines+1), hand(fence(), api.Line{Kind: 6})
	line := func(l api.Line) api.Prog { return program(2, nil, hand(fence(), l)) }
	for _, c := range []struct {
		name string
		p    api.Prog
		want api.Errno
	}{
		{"the zero program", api.Prog{}, api.ErrRange},
		{"no words", program(0, nil), api.ErrRange},
		{"five words", program(5, nil), api.ErrRange},
		{"least number of words", program(math.MinInt, nil), api.ErrRange},
		{"no words, and no hand", program(0), api.ErrRange},
		{"five words, and four hands", program(5, nil, nil, nil, nil), api.ErrRange},
		{"no hand", program(1), api.ErrNone},
		{"no hand that is not nil", api.Prog{Words: 1, Hands: [][]api.Line{}}, api.ErrNone},
		{"four hands", program(1, nil, nil, nil, nil), api.ErrFull},
		{"four hands, the first wrong", program(1, bad, nil, nil, nil), api.ErrFull},
		{"six lines", program(1, nil, six), api.ErrFull},
		{"six lines, one of them wrong", program(1, append(bad, six...)), api.ErrFull},
		{"six lines ahead of a wrong hand", program(1, six, bad), api.ErrFull},
		{"six lines behind a wrong hand", program(1, bad, six), api.ErrRange},
		{"a kind below", line(api.Line{Kind: -1}), api.ErrRange},
		{"a kind above", line(api.Line{Kind: 6}), api.ErrRange},
		{"greatest kind", line(api.Line{Kind: math.MaxInt}), api.ErrRange},
		{"put, no register", line(put(2, 0)), api.ErrRange},
		{"load, no register", line(load(-1, 0)), api.ErrRange},
		{"store, no register", line(store(2, 0)), api.ErrRange},
		{"swap, no register", line(swap(math.MinInt, 0)), api.ErrRange},
		{"leave, no register", line(leave(2, 0)), api.ErrRange},
		{"load, no word", line(load(0, 2)), api.ErrRange},
		{"store, no word", line(store(0, -1)), api.ErrRange},
		{"swap, no word", line(swap(0, math.MaxInt)), api.ErrRange},
		{"put of less than 0", line(put(0, -1)), api.ErrRange},
		{"put of 1001", line(put(0, 1001)), api.ErrRange},
		{"leave of less than 0", line(leave(0, -1)), api.ErrRange},
		{"leave of 6", line(leave(0, 6)), api.ErrRange},
		{"a wrong line behind a race", program(1, hand(store(0, 0)), hand(store(0, 0), load(0, 1))), api.ErrRange},
	} {
		if got, err := sc.Results(c.p); got != nil || plain.Told(err) != c.want {
			t.Errorf("%s: Results: got %v %v, want %v", c.name, got, err, c.want)
		}
		if got, err := sc.Races(c.p); got || plain.Told(err) != c.want {
			t.Errorf("%s: Races: got %v %v, want %v", c.name, got, err, c.want)
		}
		if want := plain.Told(prog.Check(c.p)); want != c.want {
			t.Errorf("%s: Check tells %v, want %v", c.name, want, c.want)
		}
	}
}
