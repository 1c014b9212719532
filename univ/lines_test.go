package univ_test

import (
	"fmt"
	"slices"
	"strconv"
	"strings"
	"testing"

	"latchgarth/api"
)

// What an act tells that ends no deed, and one of a hand that is asked for what it may not do as it stands.
const (
	on    = "false 0 OK"
	state = "false 0 ErrState"
)

// lined is a script, what is told of the act that ends it, and where all stand then. Hand 0 is the one that it speaks of.
type lined struct{ name, script, told, want string }

// script of hands: 0+5 begins a deed of hand 0, to add 5; 0+5x3 asks for that three times; else a digit is a step of a hand, and 0x7 are seven; spaces are for the eye.
func script(text string) []act {
	var out []act
	for _, part := range strings.Fields(text) {
		what, times, _ := strings.Cut(part, "x")
		count := max(1, number(times))
		hand, add, begins := strings.Cut(what, "+")
		if begins {
			out = append(out, slices.Repeat([]act{{number(hand), true, number(add)}}, count)...)
			continue
		}
		for _, c := range strings.Repeat(what, count) {
			out = append(out, act{hand: int(c - '0')})
		}
	}
	return out
}

// number that is written; 0, if none is.
func number(text string) int {
	n, err := strconv.Atoi(text)
	if err != nil && text != "" {
		panic(err)
	}
	return n
}

// String of an answer.
func (a answer) String() string { return fmt.Sprint(a.done, a.sum, a.err) }

// orders of n hands, all of them.
func orders(n int) [][]int {
	if n == 0 {
		return [][]int{nil}
	}
	var out [][]int
	for _, less := range orders(n - 1) {
		for i := range n {
			out = append(out, slices.Insert(slices.Clone(less), i, n-1))
		}
	}
	return out
}

// checkLines in each order of the hands: whichever of them is called 0, 1, .., the same comes of it.
func checkLines(t *testing.T, n int, cases []lined) {
	t.Helper()
	for _, c := range cases {
		for _, order := range orders(n) {
			r, told := fresh(t, n), answer{}
			for _, a := range script(c.script) {
				a.hand = order[a.hand]
				told = a.in(r)
			}
			lines := ""
			for _, p := range order {
				lines += fmt.Sprint(r.At(p), " ")
			}
			if got := lines + fmt.Sprint(r.Order()); told.String() != c.told || got != c.want {
				t.Errorf("%s: after %s, hands %v, got %v, %s, want %s, %s", c.name, c.script, order, told, got, c.told, c.want)
			}
		}
	}
}

// TestLinesOf1: a hand that is the only one.
func TestLinesOf1(t *testing.T) {
	checkLines(t, 1, []lined{
		{"line 0", "0", state, "0 []"},
		{"it begins", "0+5", on, "1 []"},
		{"line 1, its cell is not decided", "0+5 0", on, "2 [0]"},
		{"line 2, its cell is its own", "0+5 00", "true 0 OK", "0 [0]"},
		{"line 0 again", "0+5 000", state, "0 [0]"},
		{"it begins, at line 1", "0+5 0+6", state, "1 []"},
		{"it begins, at line 2", "0+5 0 0+6", state, "2 [0]"},
		{"it begins again", "0+5 00 0+3", on, "1 [0]"},
		{"again, line 1, its cell is decided for what it did before", "0+5 00 0+3 0", on, "2 [0]"},
		{"again, line 2, its cell is that of what it did before", "0+5 00 0+3 00", on, "1 [0]"},
		{"again, line 1, the next cell is not decided", "0+5 00 0+3 0x3", on, "2 [0 1]"},
		{"again, line 2, its cell is its own", "0+5 00 0+3 0x4", "true 5 OK", "0 [0 1]"},
		{"again, line 0", "0+5 00 0+3 0x5", state, "0 [0 1]"},
		{"a third time", "0+5 00 0+3 0x4 0+2 0x6", "true 8 OK", "0 [0 1 2]"},
		{"a third time, behind nothing that is added", "0+0 00 0+0 0x4 0+9 0x6", "true 0 OK", "0 [0 1 2]"},
		{"again, behind the greatest that is added", "0+1000 00 0+1000 0x4", "true 1000 OK", "0 [0 1]"},
		{"again, behind what did not begin", "0+5 0+6x3 00 0+3 0x4", "true 5 OK", "0 [0 1]"},
	})
}

// TestLinesOf2: each line of either of two hands, both ways where it asks, wherever the other one stands.
func TestLinesOf2(t *testing.T) {
	const behind = "0+5 1+7 11 1+2 111 "
	checkLines(t, 2, []lined{
		{"line 0, the other one stands at line 1", "1+7 0", state, "0 1 []"},
		{"line 0, the other one stands at line 2", "1+7 1 0", state, "0 2 [0]"},
		{"it begins, the other one stands at line 1", "1+7 0+5", on, "1 1 []"},
		{"it begins, the other one stands at line 2", "1+7 1 0+5", on, "1 2 [0]"},
		{"it begins, the other one is done", "1+7 11 0+5", on, "1 0 [0]"},
		{"line 1, its cell is not decided, the other one does nothing", "0+5 0", on, "2 0 [0]"},
		{"line 1, its cell is not decided, the other one stands there", "0+5 1+7 0", on, "2 1 [0]"},
		{"line 1, its cell is not decided, the other one, which began first, stands there", "1+7 0+5 0", on, "2 1 [1]"},
		{"line 1, its cell is the other one's, at line 2", "0+5 1+7 1 0", on, "2 2 [1]"},
		{"line 1, its cell is the other one's, which began first, at line 2", "1+7 0+5 1 0", on, "2 2 [0]"},
		{"line 1, its cell is the other one's, which is done", "0+5 1+7 11 0", on, "2 0 [1]"},
		{"line 2, its cell is its own, the other one stands at line 1 there", "0+5 1+7 00", "true 0 OK", "0 1 [0]"},
		{"line 2, its cell is its own, the other one stands at line 2 there", "0+5 1+7 0 1 0", "true 0 OK", "0 2 [0]"},
		{"line 2, its cell is its own, the other one stands at the next cell", "0+5 1+7 0 11 0", "true 0 OK", "0 1 [0]"},
		{"line 2, its cell is its own, the other one has the next cell", "0+5 1+7 0 111 0", "true 0 OK", "0 2 [0 1]"},
		{"line 2, its cell is its own, the other one is done since", "0+5 1+7 0 1x4 0", "true 0 OK", "0 0 [0 1]"},
		{"line 2, its cell is the other one's, at line 2", "0+5 1+7 1 00", on, "1 2 [1]"},
		{"line 2, its cell is the other one's, which is done", "0+5 1+7 11 00", on, "1 0 [1]"},
		{"line 2, its cell is the other one's, which does something else", "0+5 1+7 11 1+2 00", on, "1 1 [1]"},
		{"the next cell, line 1, it is not decided, the other one stands at the first one", "0+5 1+7 1 000", on, "2 2 [1 0]"},
		{"the next cell, line 2, it is its own", "0+5 1+7 1 0x4", "true 7 OK", "0 2 [1 0]"},
		{"the next cell, line 1, it is the other one's", behind + "000", on, "2 2 [1 2]"},
		{"the next cell, line 2, it is the other one's", behind + "0x4", on, "1 2 [1 2]"},
		{"the third cell, line 1, it is not decided", behind + "0x5", on, "2 2 [1 2 0]"},
		{"the third cell, line 2, it is its own", behind + "0x6", "true 9 OK", "0 2 [1 2 0]"},
		{"what is behind is not told", behind + "0x6 1", "true 7 OK", "0 0 [1 2 0]"},
		{"what came behind, while it stood at line 2, is not told", "0+5 00 0+6 0x3 1+7 1x6 0", "true 5 OK", "0 0 [0 1 2]"},
		{"it begins again, the other one stands at line 2 yet", "0+5 1+7 1 0x4 0+3", on, "1 2 [1 0]"},
		{"again, line 1, at the first cell", "0+5 1+7 1 0x4 0+3 0", on, "2 2 [1 0]"},
		{"again, it is done", "0+5 1+7 1 0x4 0+3 0x6", "true 12 OK", "0 2 [1 0 2]"},
		{"again and again, ahead of one that stands at line 1", "1+7 0+5 00 0+3 0x4 0+2 0x6", "true 8 OK", "0 1 [1 2 3]"},
	})
}

// TestLinesOf4: hands that meet at the first cell, and at those behind it.
func TestLinesOf4(t *testing.T) {
	const all = "0+1 1+20 2+300 3+1000 "
	checkLines(t, 4, []lined{
		{"all stand at line 1", all + "0", on, "2 1 1 1 [0]"},
		{"its cell is another one's, and two stand there", all + "1 0", on, "2 2 1 1 [1]"},
		{"its cell is another one's, and all stand there", all + "3 2 1 0", on, "2 2 2 2 [3]"},
		{"its cell is its own, and all others go on from there", all + "0123 11 2 3 0", "true 0 OK", "0 2 1 1 [0 1]"},
		{"all others are done", all + "33 2x4 1x6 0x7", on, "2 0 0 0 [3 2 1 0]"},
		{"it is done behind all others", all + "33 2x4 1x6 0x8", "true 1320 OK", "0 0 0 0 [3 2 1 0]"},
		{"all others have cells, and none is done", all + "3 222 1x5 0x8", "true 1320 OK", "0 2 2 2 [3 2 1 0]"},
		{"one ahead, two behind", all + "2 000 111 333 11 333 0", "true 300 OK", "0 2 2 1 [2 0 1]"},
		{"two ahead, one behind", all + "2 333 0x5 1x6 0", "true 1300 OK", "0 1 2 2 [2 3 0]"},
	})
}

// TestSteps: an ordinary script, and what is told behind each act.
func TestSteps(t *testing.T) {
	r := fresh(t, 3)
	want := []string{
		on, "1 0 0 []", on, "1 1 0 []", on, "2 1 0 [0]", on, "2 2 0 [0]", state, "2 2 0 [0]",
		"true 0 OK", "0 2 0 [0]", on, "0 1 0 [0]", on, "0 1 1 [0]", on, "0 1 2 [0]", on, "0 1 1 [0]",
		on, "0 1 2 [0 2]", state, "0 1 2 [0 2]", on, "0 2 2 [0 2]", "true 5 OK", "0 2 0 [0 2]", on, "0 1 0 [0 2]",
		on, "1 1 0 [0 2]", on, "1 2 0 [0 2 1]", "true 14 OK", "1 0 0 [0 2 1]", on, "2 0 0 [0 2 1]", on, "1 0 0 [0 2 1]",
		on, "2 0 0 [0 2 1]", on, "1 0 0 [0 2 1]", on, "2 0 0 [0 2 1]", on, "1 0 0 [0 2 1]", on, "2 0 0 [0 2 1 3]", "true 21 OK", "0 0 0 [0 2 1 3]",
	}
	for i, a := range script("0+5 1+7 01201 2+9 222 0 1 2 1 0+5 11 0x8") {
		got := a.in(r).String()
		if lines := shown(r, 3); got != want[2*i] || lines != want[2*i+1] {
			t.Errorf("act %d, %v: got %s, %s, want %s, %s", i, a, got, lines, want[2*i], want[2*i+1])
		}
	}
}

// TestMeet: as many hands as there are come to each cell; who is there first has it, whoever began first, and whoever asks first whose it is.
func TestMeet(t *testing.T) {
	for n := 1; n <= api.MaxHands; n++ {
		for _, began := range orders(n) {
			for _, first := range orders(n) {
				checkMeet(t, began, first, first)
				backward := slices.Clone(first)
				slices.Reverse(backward)
				checkMeet(t, began, first, backward)
			}
		}
	}
}

// checkMeet: hands begin in an order, come to each cell in another one, and ask in a third one; the first one to come has the cell, and comes to no other.
func checkMeet(t *testing.T, began, first, asks []int) {
	t.Helper()
	r := fresh(t, len(began))
	for _, p := range began {
		begin(t, r, p, 1<<p)
	}
	sum, order := 0, []int(nil)
	for cell, winner := range first {
		for _, p := range first[cell:] {
			plainStep(t, r, p)
		}
		order = append(order, slices.Index(began, winner))
		for _, p := range asks {
			switch {
			case p == winner:
				finish(t, r, p, 1, sum)
			case r.At(p) != 0:
				plainStep(t, r, p)
			}
		}
		sum += 1 << winner
		if got := r.Order(); !slices.Equal(got, order) {
			t.Fatalf("begun %v, come %v: got %v, want %v", began, first, got, order)
		}
	}
}
