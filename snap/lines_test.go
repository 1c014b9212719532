package snap_test

import (
	"fmt"
	"slices"
	"strconv"
	"strings"
	"testing"

	"latchgarth/api"
)

// What an act tells that ends nothing, one that ends a writing, and one of a hand that is asked for what it may not do as it stands.
const (
	on    = "false [] OK"
	wrote = "true [] OK"
	state = "false [] ErrState"
)

// lined is a script, what is told of the act that ends it, and where all stand then.
type lined struct{ name, script, told, want string }

// script of n hands: 0? begins a look of hand 0, 0+5 a writing of 5; 0!5 is a whole one, from its beginning to its end, while no other hand goes on; else a digit is a step of a hand, and 0x7 are seven; spaces are for the eye.
func script(n int, text string) []act {
	var out []act
	for _, part := range strings.Fields(text) {
		p := int(part[0] - '0')
		switch rest := part[1:]; {
		case rest == "?":
			out = append(out, act{p, looks, 0})
		case strings.HasPrefix(rest, "+"):
			out = append(out, act{p, writes, number(rest[1:])})
		case strings.HasPrefix(rest, "!"):
			out = append(out, act{p, writes, number(rest[1:])})
			out = append(out, slices.Repeat([]act{{hand: p}}, 2*n+1)...)
		case strings.HasPrefix(rest, "x"):
			out = append(out, slices.Repeat([]act{{hand: p}}, number(rest[1:]))...)
		default:
			for _, c := range part {
				out = append(out, act{hand: int(c - '0')})
			}
		}
	}
	return out
}

// number that is written.
func number(text string) int {
	n, err := strconv.Atoi(text)
	if err != nil {
		panic(err)
	}
	return n
}

// String of an answer.
func (a answer) String() string { return fmt.Sprint(a.done, " ", a.seen, " ", a.err) }

// checkLines of n hands.
func checkLines(t *testing.T, n int, cases []lined) {
	t.Helper()
	for _, c := range cases {
		b, told := fresh(t, n), answer{}
		for _, a := range script(n, c.script) {
			told = a.in(b)
		}
		if got := shown(b, n); told.String() != c.told || got != c.want {
			t.Errorf("%s: after %s, got %v, %s, want %s, %s", c.name, c.script, told, got, c.told, c.want)
		}
	}
}

// TestLinesOf1: a hand that is the only one.
func TestLinesOf1(t *testing.T) {
	checkLines(t, 1, []lined{
		{"line 0", "0", state, "0 [0]"},
		{"it begins to look", "0?", on, "1 [0]"},
		{"it looks, line 1", "0? 0", on, "2 [0]"},
		{"it looks, line 2, the same turns", "0? 00", "true [0] OK", "0 [0]"},
		{"line 0 again, it looked", "0? 000", state, "0 [0]"},
		{"it begins to write", "0+5", on, "1 [0]"},
		{"it writes, line 1", "0+5 0", on, "2 [0]"},
		{"it writes, line 2, the same turns", "0+5 00", on, "3 [0]"},
		{"it writes, line 3", "0+5 000", wrote, "0 [5]"},
		{"line 0 again, it wrote", "0+5 0x4", state, "0 [5]"},
		{"it looks, to look, at line 1", "0? 0?", state, "1 [0]"},
		{"it looks, to look, at line 2", "0? 0 0?", state, "2 [0]"},
		{"it looks, to write, at line 1", "0? 0+6", state, "1 [0]"},
		{"it looks, to write, at line 2", "0? 0 0+6", state, "2 [0]"},
		{"it writes, to look, at line 1", "0+5 0?", state, "1 [0]"},
		{"it writes, to look, at line 2", "0+5 0 0?", state, "2 [0]"},
		{"it writes, to look, at line 3", "0+5 00 0?", state, "3 [0]"},
		{"it writes, to write, at line 1", "0+5 0+6", state, "1 [0]"},
		{"it writes, to write, at line 2", "0+5 0 0+6", state, "2 [0]"},
		{"it writes, to write, at line 3", "0+5 00 0+6", state, "3 [0]"},
		{"it writes what it began to write", "0+5 0+6 0 0+7 0 0+8 0", wrote, "0 [5]"},
		{"it looks, as it began to", "0? 0+6 0 0+7 0", "true [0] OK", "0 [0]"},
		{"it begins to look again", "0? 00 0?", on, "1 [0]"},
		{"it looks again", "0? 00 0? 00", "true [0] OK", "0 [0]"},
		{"it begins to look, having written", "0+5 000 0?", on, "1 [5]"},
		{"it looks, having written", "0+5 000 0? 00", "true [5] OK", "0 [5]"},
		{"it begins to write, having looked", "0? 00 0+5", on, "1 [0]"},
		{"it writes, having looked, line 2", "0? 00 0+5 00", on, "3 [0]"},
		{"it writes, having looked", "0? 00 0+5 000", wrote, "0 [5]"},
		{"it begins to write again", "0+5 000 0+6", on, "1 [5]"},
		{"it writes again, line 2", "0+5 000 0+6 00", on, "3 [5]"},
		{"it writes again", "0+5 000 0+6 000", wrote, "0 [6]"},
		{"it writes the same", "0+5 000 0+5 000", wrote, "0 [5]"},
		{"it writes 0 again", "0+5 000 0+0 000", wrote, "0 [0]"},
		{"it writes the greatest", "0+1000 000 0? 00", "true [1000] OK", "0 [1000]"},
	})
}

// TestLooksOf2: each line of a hand that looks, for each word, and each way where line 2 asks, the other one writing.
func TestLooksOf2(t *testing.T) {
	checkLines(t, 2, []lined{
		{"line 0, the other one stands at line 3", "1+7 1x4 0", state, "0 3 [0 0]"},
		{"it begins, the other one stands at line 3", "1+7 1x4 0?", on, "1 3 [0 0]"},
		{"line 1, word 0", "0? 0", on, "1 0 [0 0]"},
		{"line 1, word 1", "0? 00", on, "2 0 [0 0]"},
		{"line 2, word 0", "0? 000", on, "2 0 [0 0]"},
		{"line 2, word 1, the same turns", "0? 0000", "true [0 0] OK", "0 0 [0 0]"},
		{"line 0 again", "0? 0x5", state, "0 0 [0 0]"},
		{"word 1 is written ahead of line 1", "1!7 0? 0000", "true [0 7] OK", "0 0 [0 7]"},
		{"word 1 is written at line 1, ahead of its reading", "0? 0 1!7 000", "true [0 7] OK", "0 0 [0 7]"},
		{"word 1 differs once, behind line 1", "0? 00 1!7 00", on, "2 0 [0 7]"},
		{"word 1 differs once, and stays, word 0", "0? 00 1!7 000", on, "2 0 [0 7]"},
		{"word 1 differs once, and stays, word 1", "0? 00 1!7 0x4", "true [0 7] OK", "0 0 [0 7]"},
		{"word 1 differs once, ahead of its last reading", "0? 000 1!7 0", on, "2 0 [0 7]"},
		{"word 1 differs once, ahead of its last reading, and stays", "0? 000 1!7 000", "true [0 7] OK", "0 0 [0 7]"},
		{"word 1 differs by two turns, once", "0? 00 1!7 1!8 00", on, "2 0 [0 8]"},
		{"word 1 differs by two turns, once, and stays", "0? 00 1!7 1!8 0x4", "true [0 8] OK", "0 0 [0 8]"},
		{"word 1 differs once, with the same value", "0? 00 1!0 00", on, "2 0 [0 0]"},
		{"word 1 differs once, with the same value as ahead", "1!7 0? 00 1!7 00", on, "2 0 [0 7]"},
		{"word 1 differs once, with a value that comes again", "1!7 0? 00 1!8 1!7 00", on, "2 0 [0 7]"},
		{"word 1 differs twice", "0? 00 1!7 00 1!8 00", "true [0 7] OK", "0 0 [0 8]"},
		{"word 1 differs twice, ahead of its last reading", "0? 000 1!7 00 1!8 0", "true [0 7] OK", "0 0 [0 8]"},
		{"word 1 differs twice, with the same value", "1!7 0? 00 1!7 00 1!7 00", "true [0 7] OK", "0 0 [0 7]"},
		{"word 1 differs by two turns, and by one", "0? 00 1!6 1!7 00 1!8 00", "true [0 7] OK", "0 0 [0 8]"},
		{"word 1 differs by one turn, and by two", "0? 00 1!6 00 1!7 1!8 00", "true [0 7] OK", "0 0 [0 8]"},
		{"the other one has not written yet, at line 3", "0? 00 1+7 1x4 00", "true [0 0] OK", "0 3 [0 0]"},
		{"the other one, at line 3, writes", "0? 00 1+7 1x4 1 00", on, "2 0 [0 7]"},
		{"the other one looks", "0? 00 1? 1x4 00", "true [0 0] OK", "0 0 [0 0]"},
		{"words of both", "0!5 1!7 0? 0x4", "true [5 7] OK", "0 0 [5 7]"},
		{"again, word 1 differed once ahead of that", "0? 00 1!7 0x4 0? 00 1!8 00", on, "2 0 [0 8]"},
		{"again, word 1 differs twice", "0? 00 1!7 0x4 0? 00 1!8 00 1!9 00", "true [0 8] OK", "0 0 [0 9]"},
		{"again, word 1 differed twice ahead of that", "0? 00 1!7 00 1!8 00 0? 00 1!9 00", on, "2 0 [0 9]"},
		{"again, at line 1", "0? 00 1!7 00 1!8 00 0? 0", on, "1 0 [0 8]"},

		{"the upper one looks, line 1, word 1", "1? 11", on, "0 2 [0 0]"},
		{"word 0 is written at line 1, ahead of its last reading", "1? 1 0!7 111", on, "0 2 [7 0]"},
		{"word 0 differs once, and stays", "1? 1 0!7 1x5", "true [7 0] OK", "0 0 [7 0]"},
		{"word 0 is written behind its last reading", "1? 111 0!7 1", "true [0 0] OK", "0 0 [7 0]"},
		{"word 0 differs once, and is written behind its last reading", "1? 11 0!7 111 0!8 1", "true [7 0] OK", "0 0 [8 0]"},
		{"word 0 differs twice", "1? 1 0!7 111 0!8 11", "true [7 0] OK", "0 0 [8 0]"},
	})
}

// TestWritesOf2: each line of a hand that writes, and each way where line 2 asks: it is told nothing of what it sees.
func TestWritesOf2(t *testing.T) {
	checkLines(t, 2, []lined{
		{"it begins, the other one stands at line 1", "1+7 0+5", on, "1 1 [0 0]"},
		{"line 1, word 0", "0+5 0", on, "1 0 [0 0]"},
		{"line 1, word 1", "0+5 00", on, "2 0 [0 0]"},
		{"line 2, word 0", "0+5 000", on, "2 0 [0 0]"},
		{"line 2, word 1, the same turns", "0+5 0000", on, "3 0 [0 0]"},
		{"line 3", "0+5 0x5", wrote, "0 0 [5 0]"},
		{"line 0 again", "0+5 0x6", state, "0 0 [5 0]"},
		{"word 1 differs once", "0+5 00 1!7 00", on, "2 0 [0 7]"},
		{"word 1 differs once, and stays, word 0", "0+5 00 1!7 000", on, "2 0 [0 7]"},
		{"word 1 differs once, and stays, word 1", "0+5 00 1!7 0x4", on, "3 0 [0 7]"},
		{"word 1 differs once, line 3", "0+5 00 1!7 0x5", wrote, "0 0 [5 7]"},
		{"word 1 differs twice", "0+5 00 1!7 00 1!8 00", on, "3 0 [0 8]"},
		{"word 1 differs twice, line 3", "0+5 00 1!7 00 1!8 000", wrote, "0 0 [5 8]"},
		{"word 1 is written at line 3", "0+5 0x4 1!7 0", wrote, "0 0 [5 7]"},
		{"both at line 3, the upper one first", "0+5 0x4 1+7 1x4 1", wrote, "3 0 [0 7]"},
		{"both at line 3, the upper one first, then the lower one", "0+5 0x4 1+7 1x4 1 0", wrote, "0 0 [5 7]"},
		{"it writes again", "0!5 0+6 0x5", wrote, "0 0 [6 0]"},
		{"it writes again, and has not yet", "0!5 0+6 0x4", on, "3 0 [5 0]"},
		{"again, word 1 differed once ahead of that", "0+5 00 1!7 0x5 0+6 00 1!8 00", on, "2 0 [5 8]"},
		{"to look again, word 1 differed once ahead of that", "0+5 00 1!7 0x5 0? 00 1!8 00", on, "2 0 [5 8]"},
		{"to write again, word 1 differed once ahead of that", "0? 00 1!7 0x4 0+6 00 1!8 00", on, "2 0 [0 8]"},
	})
}

// TestLooksOf3: words of two hands that differ, once and twice, of which hand 2 sees the first one's that moved twice.
func TestLooksOf3(t *testing.T) {
	checkLines(t, 3, []lined{
		{"line 1, word 1", "2? 22", on, "0 0 1 [0 0 0]"},
		{"line 1, word 2", "2? 222", on, "0 0 2 [0 0 0]"},
		{"line 2, word 1", "2? 2x5", on, "0 0 2 [0 0 0]"},
		{"line 2, word 2", "2? 2x6", "true [0 0 0] OK", "0 0 0 [0 0 0]"},
		{"once each, one behind the other", "2? 222 0!5 222 1!6 222", on, "0 0 2 [5 6 0]"},
		{"once each, one behind the other, and both stay", "2? 222 0!5 222 1!6 222 222", "true [5 6 0] OK", "0 0 0 [5 6 0]"},
		{"once each, at once", "2? 222 0!5 1!6 222", on, "0 0 2 [5 6 0]"},
		{"once each, at once, and both stay", "2? 222 0!5 1!6 222 222", "true [5 6 0] OK", "0 0 0 [5 6 0]"},
		{"the lower one twice, the upper one once, behind it", "2? 222 0!5 222 0!7 1!6 222", "true [5 0 0] OK", "0 0 0 [7 6 0]"},
		{"the lower one twice, the upper one once, ahead of it", "2? 222 0!5 222 1!6 0!7 222", "true [5 6 0] OK", "0 0 0 [7 6 0]"},
		{"the upper one twice, the lower one once, ahead of it", "2? 222 1!5 222 0!6 1!7 222", "true [6 5 0] OK", "0 0 0 [6 7 0]"},
		{"the upper one twice, the lower one once, behind it", "2? 222 1!5 222 1!7 0!6 222", "true [0 5 0] OK", "0 0 0 [6 7 0]"},
		{"both twice, the lower one last", "2? 222 0!1 1!2 222 1!3 0!4 222", "true [1 3 0] OK", "0 0 0 [4 3 0]"},
		{"both twice, the upper one last", "2? 222 0!1 1!2 222 0!4 1!3 222", "true [1 2 0] OK", "0 0 0 [4 3 0]"},
		{"the lower one twice, another one between", "2? 222 0!1 222 1!2 222 0!3 222", "true [1 2 0] OK", "0 0 0 [3 2 0]"},
		{"the upper one twice, another one between", "2? 222 1!1 222 0!2 222 1!3 222", "true [2 1 0] OK", "0 0 0 [2 3 0]"},
		{"both by two turns, once", "2? 222 0!1 1!2 0!3 1!4 222", on, "0 0 2 [3 4 0]"},
		{"the hand's own word is seen", "2!9 2? 222 0!1 222 0!3 222", "true [1 0 9] OK", "0 0 0 [3 0 9]"},
		{"hand 0 looks, both twice, the upper one last", "0? 000 1!1 2!2 000 1!3 2!4 000", "true [0 1 2] OK", "0 0 0 [0 3 4]"},
		{"hand 0 looks, both twice, the lower one last", "0? 000 1!1 2!2 000 2!4 1!3 000", "true [0 1 4] OK", "0 0 0 [0 3 4]"},
		{"hand 1 looks, both twice, the upper one last", "1? 111 0!1 2!2 111 0!3 2!4 111", "true [1 0 2] OK", "0 0 0 [3 0 4]"},
	})
}

// TestSaw: a word has what its hand saw as it came to line 3, whatever is written since, and however it saw that; hand 2 is told it.
func TestSaw(t *testing.T) {
	checkLines(t, 3, []lined{
		{"what was written since it saw is not there", "2? 222 0!1 222 0+3 0x6 1!2 0 222", "true [1 0 0] OK", "0 0 0 [3 2 0]"},
		{"what was written ahead of its last reading is", "2? 222 0!1 222 0+3 0 1!2 0x6 222", "true [1 2 0] OK", "0 0 0 [3 2 0]"},
		{"it has what was there once one more round was the same", "2? 222 0!1 222 0+3 000 1!2 0x7 222", "true [1 2 0] OK", "0 0 0 [3 2 0]"},
		{"what it saw is not what it wrote", "2? 222 1!1 222 1!8 222", "true [0 1 0] OK", "0 0 0 [0 8 0]"},
		{"what it saw as it wrote the first time is no more there", "0!4 2? 222 1!1 0!5 222 1!8 222", "true [5 1 0] OK", "0 0 0 [5 8 0]"},
		{"it saw what another one saw, which moved twice", "2? 222 1!5 222 1+6 111 0!7 111 0!8 111", on, "0 3 2 [8 5 0]"},
		{"that is written", "2? 222 1!5 222 1+6 111 0!7 111 0!8 111 1", wrote, "0 0 2 [8 6 0]"},
		{"that is told", "2? 222 1!5 222 1+6 111 0!7 111 0!8 111 1 222", "true [7 5 0] OK", "0 0 0 [8 6 0]"},
	})
}

// TestLinesOf4: the longest look, where each other hand moves once, and what ends it.
func TestLinesOf4(t *testing.T) {
	const once = "3? 3x4 0!1 3x4 1!2 3x4 2!3 3x4 "
	checkLines(t, 4, []lined{
		{"line 1, word 2", "3? 333", on, "0 0 0 1 [0 0 0 0]"},
		{"line 1, word 3", "3? 3x4", on, "0 0 0 2 [0 0 0 0]"},
		{"line 2, word 2", "3? 3x7", on, "0 0 0 2 [0 0 0 0]"},
		{"line 2, word 3", "3? 3x8", "true [0 0 0 0] OK", "0 0 0 0 [0 0 0 0]"},
		{"each other one once", once, on, "0 0 0 2 [1 2 3 0]"},
		{"each other one once, and all stay, word 2", once + "333", on, "0 0 0 2 [1 2 3 0]"},
		{"each other one once, and all stay, word 3", once + "3x4", "true [1 2 3 0] OK", "0 0 0 0 [1 2 3 0]"},
		{"then hand 0 moves again", once + "0!4 3x4", "true [1 2 3 0] OK", "0 0 0 0 [4 2 3 0]"},
		{"then hand 1 moves again", once + "1!5 3x4", "true [1 2 3 0] OK", "0 0 0 0 [1 5 3 0]"},
		{"then hand 2 moves again", once + "2!6 3x4", "true [1 2 3 0] OK", "0 0 0 0 [1 2 6 0]"},
		{"then all move again, hand 0 first", once + "0!4 1!5 2!6 3x4", "true [1 2 3 0] OK", "0 0 0 0 [4 5 6 0]"},
		{"then all move again, hand 0 last", once + "2!6 1!5 0!4 3x4", "true [1 5 6 0] OK", "0 0 0 0 [4 5 6 0]"},
		{"then hands 1 and 2 move again, hand 1 last", once + "2!6 1!5 3x4", "true [1 2 6 0] OK", "0 0 0 0 [1 5 6 0]"},
		{"all at once, and hand 1 again", "3? 3x4 0!1 1!2 2!3 3x4 1!4 3x4", "true [1 2 3 0] OK", "0 0 0 0 [1 4 3 0]"},
		{"a hand writes, each other one once, and all stay", "0+9 0x4 3!1 0x4 2!2 0x4 1!3 0x4 0x4", on, "3 0 0 0 [0 3 2 1]"},
		{"a hand writes, each other one once, line 3", "0+9 0x4 3!1 0x4 2!2 0x4 1!3 0x4 0x4 0", wrote, "0 0 0 0 [9 3 2 1]"},
	})
}

// TestSteps: an ordinary script, and what is told behind each act.
func TestSteps(t *testing.T) {
	b := fresh(t, 2)
	want := []string{
		on, "1 0 [0 0]", on, "1 1 [0 0]", on, "1 1 [0 0]", on, "2 1 [0 0]", on, "2 1 [0 0]", on, "2 2 [0 0]",
		on, "2 2 [0 0]", on, "2 3 [0 0]", wrote, "2 0 [0 7]", state, "2 0 [0 7]", on, "2 0 [0 7]", on, "2 0 [0 7]",
		on, "2 1 [0 7]", state, "2 1 [0 7]", on, "2 1 [0 7]", on, "2 2 [0 7]", on, "2 2 [0 7]", on, "2 3 [0 7]", on, "2 3 [0 7]",
		wrote, "2 0 [0 8]", "true [0 7] OK", "0 0 [0 8]", state, "0 0 [0 8]", on, "0 1 [0 8]", on, "0 1 [0 8]", on, "0 2 [0 8]",
		on, "0 2 [0 8]", "true [0 8] OK", "0 0 [0 8]", on, "1 0 [0 8]",
	}
	acts := script(2, "0? 1+7 00 1x5 1 00 1+8 0+3 1x4 0 1 00 1? 1x4 0?")
	if len(want) != 2*len(acts) {
		t.Fatalf("%d acts, and %d things that are to be told", len(acts), len(want))
	}
	for i, a := range acts {
		got := a.in(b).String()
		if lines := shown(b, 2); got != want[2*i] || lines != want[2*i+1] {
			t.Errorf("act %d, %v: got %s, %s, want %s, %s", i, a, got, lines, want[2*i], want[2*i+1])
		}
	}
}

// TestOneWrite: whichever hand looks, or writes, and whichever other one writes, behind however many of its steps. What is new is seen if it is there at the first reading of that word, or at the last one of the first round; that one takes another round.
func TestOneWrite(t *testing.T) {
	for n := 2; n <= api.MaxHands; n++ {
		for p := range n {
			for q := range n {
				for behind := range 2 * n {
					if p == q {
						continue
					}
					rounds, want := 2, make([]int, n)
					if behind <= n+q {
						want[q] = 7
					}
					if q < behind && behind <= n+q {
						rounds = 3
					}
					checkWrites(t, n, p, q, []int{behind}, rounds, want)
				}
			}
		}
	}
}

// TestTwoWrites: the same, where that hand writes twice. It moved twice if each reading of its word tells another turn: then what is seen is what it saw, its first value.
func TestTwoWrites(t *testing.T) {
	for n := 2; n <= api.MaxHands; n++ {
		for p := range n {
			for q := range n {
				for first := range 3 * n {
					for second := first; second < 3*n && p != q; second++ {
						var turns [4]int
						for round := range turns {
							turns[round] = below(first, round*n+q) + below(second, round*n+q)
						}
						rounds, want := 2, make([]int, n)
						for rounds < 3 && turns[rounds-1] != turns[rounds-2] {
							rounds++
						}
						want[q] = []int{0, 7, 8}[turns[rounds-1]]
						if turns[0] != turns[1] && turns[1] != turns[2] {
							want[q] = 7
						}
						checkWrites(t, n, p, q, []int{first, second}, rounds, want)
					}
				}
			}
		}
	}
}

// below is 1, if what is done behind so many steps is there at the step of that number.
func below(behind, step int) int {
	if behind <= step {
		return 1
	}
	return 0
}

// checkWrites: hand p of n looks, hand q writes 7, and 8, behind so many of its steps, and p is told what is wanted behind so many rounds of reading; and at each step ahead of that, where it stands, and nothing. Then the same, where p writes.
func checkWrites(t *testing.T, n, p, q int, behind []int, rounds int, want []int) {
	t.Helper()
	for _, begin := range []act{{p, looks, 0}, {p, writes, 9}} {
		b := fresh(t, n)
		begin.in(b)
		lines := ""
		for step := 0; b.At(p) != 0 && step <= 3*n; step++ {
			for i, from := range behind {
				if from == step {
					write(t, b, n, q, 7+i)
				}
			}
			lines += strconv.Itoa(b.At(p))
			seen := act{hand: p}.in(b).seen
			if b.At(p) == 0 && begin.kind == looks && seen != fmt.Sprint(want) || (b.At(p) != 0 || begin.kind == writes) && seen != nothing {
				t.Fatalf("of %d, hand %d looks, hand %d writes behind %v steps: step %d: got %s, want %v", n, p, q, behind, step, seen, want)
			}
		}
		wants := strings.Repeat("1", n) + strings.Repeat("2", (rounds-1)*n)
		if begin.kind == writes {
			wants += "3"
		}
		if lines != wants {
			t.Fatalf("of %d, hand %d does %v, hand %d writes behind %v steps: got lines %s, want %s", n, p, begin, q, behind, lines, wants)
		}
	}
}
