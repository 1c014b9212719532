package stack_test

import (
	"fmt"
	"slices"
	"strconv"
	"strings"
	"testing"
)

// What an act tells that ends nothing, one that ends a push, one that finds nothing to pop, one of a hand that is asked for what it may not do as it stands, and one where all nodes are used.
const (
	on     = "false 0 OK"
	pushed = "true -1 OK"
	empty  = "true -1 OK"
	state  = "false 0 ErrState"
	full   = "false 0 ErrFull"
)

// outcome is what is told of the act that ends a script, where all stand then, and Top.
type outcome struct {
	told, lines string
	node, tag   int
}

// lined is a script, and what comes of it. Hand 0 is the one that it speaks of.
type lined struct {
	name, script string
	outcome
}

// script of hands: 0+5 begins a push of hand 0, of 5, and 0- a pop; 0!5 and 0? are whole ones, from their beginnings to their ends, while no other hand goes on; else a digit is a step of a hand, and 0x7 are seven; spaces are for the eye.
func script(text string) []act {
	var out []act
	for _, part := range strings.Fields(text) {
		p := int(part[0] - '0')
		switch rest := part[1:]; {
		case rest == "-":
			out = append(out, act{p, pops, 0})
		case rest == "?":
			out = append(out, act{p, pops, 0}, act{hand: p}, act{hand: p}, act{hand: p})
		case strings.HasPrefix(rest, "+"):
			out = append(out, act{p, pushes, number(rest[1:])})
		case strings.HasPrefix(rest, "!"):
			out = append(out, act{p, pushes, number(rest[1:])}, act{hand: p}, act{hand: p})
		case strings.HasPrefix(rest, "x"):
			out = append(out, slices.Repeat([]act{{hand: p}}, number(rest[1:]))...)
		default:
			for _, c := range part {
				out = append(out, act{hand: int(c - '0')})
			}
		}
	}
	return out
}

// number that is written.
func number(text string) int {
	n, err := strconv.Atoi(text)
	if err != nil {
		panic(err)
	}
	return n
}

// String of an answer.
func (a answer) String() string { return fmt.Sprint(a.done, " ", a.got, " ", a.err) }

// orders of n hands, all of them.
func orders(n int) [][]int {
	if n == 0 {
		return [][]int{nil}
	}
	var out [][]int
	for _, less := range orders(n - 1) {
		for i := range n {
			out = append(out, slices.Insert(slices.Clone(less), i, n-1))
		}
	}
	return out
}

// checkLines with tags, and without them, where tags stay 0 and all else is the same.
func checkLines(t *testing.T, n int, cases []lined) {
	t.Helper()
	for _, c := range cases {
		checkScript(t, n, true, c)
		c.tag = 0
		checkScript(t, n, false, c)
	}
}

// checkScript in each order of the hands: whichever of them is called 0, 1, .., the same comes of it.
func checkScript(t *testing.T, n int, tags bool, c lined) {
	t.Helper()
	for _, order := range orders(n) {
		s, told := fresh(t, n, tags), answer{}
		for _, a := range script(c.script) {
			a.hand = order[a.hand]
			told = a.in(s)
		}
		var lines []string
		for _, p := range order {
			lines = append(lines, strconv.Itoa(s.At(p)))
		}
		node, tag := s.Top()
		if got := (outcome{told.String(), strings.Join(lines, " "), node, tag}); got != c.outcome {
			t.Errorf("%s: tags %v, after %s, hands %v, got %v, want %v", c.name, tags, c.script, order, got, c.outcome)
			return
		}
	}
}

// TestLinesOf1: a hand that is the only one.
func TestLinesOf1(t *testing.T) {
	checkLines(t, 1, []lined{
		{"line 0", "0", outcome{state, "0", -1, 0}},
		{"it begins to push", "0+5", outcome{on, "1", -1, 0}},
		{"it pushes, line 1", "0+5 0", outcome{on, "2", -1, 0}},
		{"it pushes, line 2", "0+5 00", outcome{pushed, "0", 0, 1}},
		{"line 0 again, it pushed", "0+5 000", outcome{state, "0", 0, 1}},
		{"it begins to pop, nothing is there", "0-", outcome{on, "3", -1, 0}},
		{"it pops, line 3, no node", "0- 0", outcome{empty, "0", -1, 0}},
		{"line 0 again, nothing was there", "0- 00", outcome{state, "0", -1, 0}},
		{"it begins to pop", "0!5 0-", outcome{on, "3", 0, 1}},
		{"it pops, line 3, a node", "0!5 0- 0", outcome{on, "4", 0, 1}},
		{"it pops, line 4", "0!5 0- 00", outcome{on, "5", 0, 1}},
		{"it pops, line 5", "0!5 0- 000", outcome{"true 5 OK", "0", -1, 2}},
		{"line 0 again, it popped", "0!5 0- 0x4", outcome{state, "0", -1, 2}},

		{"it pushes, to push, at line 1", "0+5 0+6", outcome{state, "1", -1, 0}},
		{"it pushes, to push, at line 2", "0+5 0 0+6", outcome{state, "2", -1, 0}},
		{"it pushes, to pop, at line 1", "0+5 0-", outcome{state, "1", -1, 0}},
		{"it pushes, to pop, at line 2", "0+5 0 0-", outcome{state, "2", -1, 0}},
		{"it pops, to push, at line 3", "0!5 0- 0+6", outcome{state, "3", 0, 1}},
		{"it pops, to push, at line 4", "0!5 0- 0 0+6", outcome{state, "4", 0, 1}},
		{"it pops, to push, at line 5", "0!5 0- 00 0+6", outcome{state, "5", 0, 1}},
		{"it pops, to pop, at line 3", "0!5 0- 0-", outcome{state, "3", 0, 1}},
		{"it pops, to pop, at line 4", "0!5 0- 0 0-", outcome{state, "4", 0, 1}},
		{"it pops, to pop, at line 5", "0!5 0- 00 0-", outcome{state, "5", 0, 1}},
		{"it pushes what it began to push", "0+5 0+6 0 0+7 0 0?", outcome{"true 5 OK", "0", -1, 2}},
		{"what may not be pushed takes no node", "0+5 0+6 0 0+7 0 0!8", outcome{pushed, "0", 1, 2}},

		{"it begins again, it pushed", "0!5 0+6", outcome{on, "1", 0, 1}},
		{"it pushes again, line 1", "0!5 0+6 0", outcome{on, "2", 0, 1}},
		{"it pushes again, line 2", "0!5 0+6 00", outcome{pushed, "0", 1, 2}},
		{"it pops what it pushed last", "0!5 0!6 0?", outcome{"true 6 OK", "0", 0, 3}},
		{"it pops what it pushed first", "0!5 0!6 0? 0?", outcome{"true 5 OK", "0", -1, 4}},
		{"then nothing is there", "0!5 0!6 0? 0? 0- 0", outcome{empty, "0", -1, 4}},
		{"nothing was there, it begins to push", "0- 0 0+5", outcome{on, "1", -1, 0}},
		{"nothing was there, it begins to pop", "0- 0 0-", outcome{on, "3", -1, 0}},
		{"nothing is there again", "0- 0 0- 0", outcome{empty, "0", -1, 0}},
		{"it popped, it begins to push", "0!5 0? 0+6", outcome{on, "1", -1, 2}},
		{"it popped, it begins to pop", "0!5 0? 0-", outcome{on, "3", -1, 2}},
		{"the node that it popped is used again", "0!5 0? 0!6", outcome{pushed, "0", 0, 3}},
		{"with the other value", "0!5 0? 0!6 0?", outcome{"true 6 OK", "0", -1, 4}},
		{"the upper one that it popped is used again", "0!5 0!6 0? 0!7", outcome{pushed, "0", 1, 4}},
		{"with its next one", "0!5 0!6 0? 0!7 0? 0?", outcome{"true 5 OK", "0", -1, 6}},
		{"the least one that it popped is used again", "0!5 0!6 0? 0? 0!7", outcome{pushed, "0", 0, 5}},
		{"the same value twice", "0!5 0!5 0? 0?", outcome{"true 5 OK", "0", -1, 4}},
		{"0", "0!0 0?", outcome{"true 0 OK", "0", -1, 2}},
		{"the greatest", "0!1000 0?", outcome{"true 1000 OK", "0", -1, 2}},

		{"the last node", "0!1 0!2 0!3 0!4", outcome{pushed, "0", 3, 4}},
		{"all nodes are used", "0!1 0!2 0!3 0!4 0+5", outcome{full, "0", 3, 4}},
		{"all nodes are used, to pop", "0!1 0!2 0!3 0!4 0+5 0-", outcome{on, "3", 3, 4}},
		{"all nodes are used, it pops", "0!1 0!2 0!3 0!4 0+5 0?", outcome{"true 4 OK", "0", 2, 5}},
		{"all nodes are used, it pops, to push, at line 5", "0!1 0!2 0!3 0!4 0- 00 0+5", outcome{state, "5", 3, 4}},
		{"one is used again", "0!1 0!2 0!3 0!4 0? 0!5", outcome{pushed, "0", 3, 6}},
		{"all nodes are used again", "0!1 0!2 0!3 0!4 0? 0!5 0+6", outcome{full, "0", 3, 6}},
	})
}

// TestPushesOf2: each line of a hand that pushes, and each way where line 2 asks, whatever the other one does.
func TestPushesOf2(t *testing.T) {
	checkLines(t, 2, []lined{
		{"it begins, the other one pushes, at line 1", "1+7 0+5", outcome{on, "1 1", -1, 0}},
		{"it begins, the other one pops, at line 3", "1- 0+5", outcome{on, "1 3", -1, 0}},
		{"line 1, the other one pushes, at line 1", "1+7 0+5 0", outcome{on, "2 1", -1, 0}},
		{"line 1, the other one pushes, at line 2", "1+7 1 0+5 0", outcome{on, "2 2", -1, 0}},
		{"line 1, the other one has pushed", "1!7 0+5 0", outcome{on, "2 0", 0, 1}},
		{"line 1, the other one has pushed since it began", "0+5 1!7 0", outcome{on, "2 0", 1, 1}},
		{"line 2, the other one had pushed ahead", "1!7 0+5 00", outcome{pushed, "0 0", 1, 2}},
		{"line 2, the other one pushed at line 1", "0+5 1!7 00", outcome{pushed, "0 0", 0, 2}},
		{"line 2, the other one pushes, at line 2", "0+5 0 1+7 1 0", outcome{pushed, "0 2", 0, 1}},
		{"line 2, then the other one", "0+5 0 1+7 1 0 1", outcome{on, "0 1", 0, 1}},
		{"line 2, then the other one anew", "0+5 0 1+7 1 0 111", outcome{pushed, "0 0", 1, 2}},
		{"line 2, the other one found nothing", "0+5 0 1- 1 0", outcome{pushed, "0 0", 0, 1}},
		{"line 2, the other one pops, at line 5", "1!7 0+5 0 1- 11 0", outcome{pushed, "0 5", 1, 2}},
		{"line 2, the other one pushed", "0+5 0 1!7 0", outcome{on, "1 0", 1, 1}},
		{"anew, line 1", "0+5 0 1!7 00", outcome{on, "2 0", 1, 1}},
		{"anew, line 2", "0+5 0 1!7 000", outcome{pushed, "0 0", 0, 2}},
		{"anew, it is ahead of the other one", "0+5 0 1!7 000 1?", outcome{"true 5 OK", "0 0", 1, 3}},
		{"anew, the other one is behind it", "0+5 0 1!7 000 1? 1?", outcome{"true 7 OK", "0 0", -1, 4}},
		{"anew, line 2, the other one pushed once more", "0+5 0 1!7 00 1!8 0", outcome{on, "1 0", 2, 2}},
		{"anew, at last", "0+5 0 1!7 00 1!8 000", outcome{pushed, "0 0", 0, 3}},
		{"line 2, the other one popped", "1!7 0+5 0 1? 0", outcome{on, "1 0", -1, 2}},
		{"anew, line 2, the other one popped ahead", "1!7 0+5 0 1? 000", outcome{pushed, "0 0", 1, 3}},
		{"anew, nothing is behind it", "1!7 0+5 0 1? 000 0?", outcome{"true 5 OK", "0 0", -1, 4}},
		{"the other one pops what it pushed", "0!5 1?", outcome{"true 5 OK", "0 0", -1, 2}},
		{"it begins again, the other one stands at line 2 yet", "0+5 0 1+7 1 0 0+6", outcome{on, "1 2", 0, 1}},
		{"again, line 2", "0+5 0 1+7 1 0 0+6 00", outcome{pushed, "0 2", 2, 2}},
		{"the other one has the last node", "0!1 0!2 0!3 1+4 0+5", outcome{full, "0 1", 2, 3}},
		{"the other one is to pop the last node", "0!1 0!2 0!3 0!4 1- 11 0+5", outcome{full, "0 5", 3, 4}},
		{"the other one has popped the last node", "0!1 0!2 0!3 0!4 1? 0+5", outcome{on, "1 0", 2, 5}},
	})
}

// TestPopsOf2: each line of a hand that pops, and each way where lines 3 and 5 ask, whatever the other one does.
func TestPopsOf2(t *testing.T) {
	checkLines(t, 2, []lined{
		{"it begins, the other one pops, at line 3", "1- 0-", outcome{on, "3 3", -1, 0}},
		{"it begins, the other one pops, at line 5", "1!7 1- 11 0-", outcome{on, "3 5", 0, 1}},
		{"line 3, the other one pushes, at line 2", "1+7 1 0- 0", outcome{empty, "0 2", -1, 0}},
		{"line 3, the other one has pushed", "1!7 0- 0", outcome{on, "4 0", 0, 1}},
		{"line 3, the other one has pushed since it began", "0- 1!7 0", outcome{on, "4 0", 0, 1}},
		{"line 3, the other one has popped since it began", "1!7 0- 1? 0", outcome{empty, "0 0", -1, 2}},
		{"line 4, the other one pops, at line 5", "1!7 1- 11 0- 00", outcome{on, "5 5", 0, 1}},
		{"line 5, none behind", "1!7 0- 000", outcome{"true 7 OK", "0 0", -1, 2}},
		{"line 5, one behind", "1!6 1!7 0- 000", outcome{"true 7 OK", "0 0", 0, 3}},
		{"line 5, the other one pushes, at line 2", "1!7 0- 00 1+8 1 0", outcome{"true 7 OK", "0 2", -1, 2}},
		{"line 5, then the other one", "1!7 0- 00 1+8 1 0 1", outcome{on, "0 1", -1, 2}},
		{"line 5, the other one pops, at line 5", "1!7 1- 11 0- 000", outcome{"true 7 OK", "0 5", -1, 2}},
		{"line 5, then the other one, which pops", "1!7 1- 11 0- 000 1", outcome{on, "0 3", -1, 2}},
		{"line 5, then the other one anew, which finds nothing", "1!7 1- 11 0- 000 11", outcome{empty, "0 0", -1, 2}},
		{"line 5, the other one pushed at line 3", "0- 1!7 000", outcome{"true 7 OK", "0 0", -1, 2}},
		{"line 5, the other one pushed at line 4", "1!7 0- 0 1!8 00", outcome{on, "3 0", 1, 2}},
		{"line 5, the other one pushed", "1!7 0- 00 1!8 0", outcome{on, "3 0", 1, 2}},
		{"anew, line 3", "1!7 0- 00 1!8 00", outcome{on, "4 0", 1, 2}},
		{"anew, line 4", "1!7 0- 00 1!8 000", outcome{on, "5 0", 1, 2}},
		{"anew, line 5", "1!7 0- 00 1!8 0x4", outcome{"true 8 OK", "0 0", 0, 3}},
		{"anew, line 5, the other one pushed once more", "1!7 0- 00 1!8 000 1!9 0", outcome{on, "3 0", 2, 3}},
		{"anew, at last", "1!7 0- 00 1!8 000 1!9 0x4", outcome{"true 9 OK", "0 0", 1, 4}},
		{"line 5, the other one popped at line 4", "1!7 0- 0 1? 00", outcome{on, "3 0", -1, 2}},
		{"line 5, the other one popped", "1!7 0- 00 1? 0", outcome{on, "3 0", -1, 2}},
		{"anew, line 3, nothing is there", "1!7 0- 00 1? 00", outcome{empty, "0 0", -1, 2}},
		{"line 5, the other one popped, one behind", "1!6 1!7 0- 00 1? 0", outcome{on, "3 0", 0, 3}},
		{"anew, line 5, none behind", "1!6 1!7 0- 00 1? 0x4", outcome{"true 6 OK", "0 0", -1, 4}},
		{"it begins again, the other one stands at line 5 yet", "1!6 1!7 1- 11 0? 0-", outcome{on, "3 5", 0, 3}},
		{"again, line 5", "1!6 1!7 1- 11 0? 0- 000", outcome{"true 6 OK", "0 5", -1, 4}},
		{"its node is used until it is done", "1!7 0- 00 1!8", outcome{pushed, "5 0", 1, 2}},
		{"its node is not used any more", "1!7 0- 000 1!8", outcome{pushed, "0 0", 0, 3}},
		{"the node that it saw is used where the other one popped it not", "1!6 1!7 0- 00 1!8 0 1!9", outcome{pushed, "3 0", 3, 4}},
		{"the other one's is not used any more", "1!6 1!7 0- 00 1? 0 1!9", outcome{pushed, "3 0", 1, 4}},
	})
}

// TestLinesOf4: all hands meet where they push, and where they pop.
func TestLinesOf4(t *testing.T) {
	const all = "0+1 1+2 2+3 3+4 "
	const down = all + "00 11 22 33 0- 1- 2- 3- 0123 0123 "
	checkLines(t, 4, []lined{
		{"all begin", all, outcome{on, "1 1 1 1", -1, 0}},
		{"all at line 2", all + "0123", outcome{on, "2 2 2 2", -1, 0}},
		{"one pushes", all + "0123 0", outcome{pushed, "0 2 2 2", 0, 1}},
		{"the others begin anew", all + "0123 0 123", outcome{on, "0 1 1 1", 0, 1}},
		{"one of them pushes", all + "0123 0 123 321 1", outcome{pushed, "0 0 2 2", 1, 2}},
		{"the others begin anew, again", all + "0123 0 123 321 1 32", outcome{on, "0 0 1 1", 1, 2}},
		{"in another order", all + "3210 2 310 013 1", outcome{pushed, "2 0 0 2", 1, 2}},
		{"each in its turn", all + "00 11 22 33", outcome{pushed, "0 0 0 0", 3, 4}},
		{"all nodes are used", all + "00 11 22 33 0+5", outcome{full, "0 0 0 0", 3, 4}},
		{"all nodes are used from when they are taken", all + "11 1+5", outcome{full, "1 0 1 1", 1, 1}},
		{"a hand that does something is told so", all + "11 0+5", outcome{state, "1 0 1 1", 1, 1}},
		{"all at line 5", down, outcome{on, "5 5 5 5", 3, 4}},
		{"one pops", down + "0", outcome{"true 4 OK", "0 5 5 5", 2, 5}},
		{"the others begin anew, to pop", down + "0 123", outcome{on, "0 3 3 3", 2, 5}},
		{"one of them pops", down + "0 123 123 123 3", outcome{"true 3 OK", "0 5 5 0", 1, 6}},
		{"the others begin anew, to pop, again", down + "0 123 123 123 3 12", outcome{on, "0 3 3 0", 1, 6}},
		{"all pop, one is behind all", down + "0 123 123 123 3 12 22 2 111", outcome{"true 1 OK", "0 0 0 0", -1, 8}},
		{"the least that is not used is taken", all + "00 33 11 22 0? 0? 1!9", outcome{pushed, "0 0 0 0", 1, 7}},
		{"then the next one that is not", all + "00 33 11 22 0? 0? 1!9 2!8", outcome{pushed, "0 0 0 0", 2, 8}},
		{"those that were pushed first are there yet", all + "00 33 11 22 0? 0? 1!9 2!8 3? 3? 3?", outcome{"true 4 OK", "0 0 0 0", 0, 11}},
	})
}

// TestSteps: an ordinary script, and what is told behind each act.
func TestSteps(t *testing.T) {
	s := fresh(t, 3, true)
	want := []string{
		on, "1 0 0 -1 0", on, "1 1 0 -1 0", on, "2 1 0 -1 0", on, "2 2 0 -1 0", pushed, "0 2 0 0 1", on, "0 1 0 0 1",
		on, "0 2 0 0 1", pushed, "0 0 0 1 2", on, "0 0 3 1 2", on, "0 0 4 1 2", on, "3 0 4 1 2", on, "4 0 4 1 2",
		on, "4 0 5 1 2", on, "5 0 5 1 2", "true 7 OK", "5 0 0 0 3", on, "3 0 0 0 3", on, "3 1 0 0 3",
		on, "4 1 0 0 3", on, "5 1 0 0 3", "true 5 OK", "0 1 0 -1 4", on, "0 1 3 -1 4", empty, "0 1 0 -1 4", state, "0 1 0 -1 4",
		on, "0 2 0 -1 4", on, "0 2 1 -1 4", pushed, "0 0 1 1 5", on, "0 0 2 1 5", state, "0 0 2 1 5", state, "0 0 2 1 5",
		pushed, "0 0 0 0 6", state, "0 0 0 0 6",
	}
	acts := script("0+5 1+7 01 01 11 2- 2 0- 0 2 0 2 0 1+9 000 2- 22 1 2+3 1 2 2+4 2- 22")
	if len(want) != 2*len(acts) {
		t.Fatalf("%d acts, and %d things that are to be told", len(acts), len(want))
	}
	for i, a := range acts {
		got := a.in(s).String()
		if lines := shown(s, 3); got != want[2*i] || lines != want[2*i+1] {
			t.Errorf("act %d, %v: got %s, %s, want %s, %s", i, a, got, lines, want[2*i], want[2*i+1])
		}
	}
}

// again is a script, and what comes of it with tags, and without. Top goes away and comes back.
type again struct {
	name, script  string
	with, without outcome
}

// breaks is a script by which, without tags, hand 0 pops node 0, and has node 1 on top, which is not used: it saw that one behind node 0, as there was 5 ahead of 7, and takes the node 0 that has 8 for the one that it saw.
const breaks = "0+5 1!7 00 0- 00 1? 1? 1!8 0 "

// TestAgain: a Top that went away and came back is taken for the one that was seen without tags, and not with them.
func TestAgain(t *testing.T) {
	for _, c := range []again{
		{"a push, none on top again", "0+5 0 1!7 1? 0",
			outcome{on, "1 0", -1, 2}, outcome{pushed, "0 0", 0, 0}},
		{"a push, a node on top again", "1!7 0+5 0 1? 1!8 0",
			outcome{on, "1 0", 0, 3}, outcome{pushed, "0 0", 1, 0}},
		{"a push, a node that stayed on top again", "1!7 0+5 0 1!8 1? 0",
			outcome{on, "1 0", 0, 3}, outcome{pushed, "0 0", 1, 0}},
		{"a pop, a node on top again, at line 4", "1!7 0- 0 1? 1!8 00",
			outcome{on, "3 0", 0, 3}, outcome{"true 8 OK", "0 0", -1, 0}},
		{"a pop, a node on top again, at line 5", "1!7 0- 00 1? 1!8 0",
			outcome{on, "3 0", 0, 3}, outcome{"true 8 OK", "0 0", -1, 0}},
		{"a pop, a node that stayed on top again", "1!7 0- 00 1!8 1? 0",
			outcome{on, "3 0", 0, 3}, outcome{"true 7 OK", "0 0", -1, 0}},
		{"a pop, again and again", "1!7 0- 00 1? 1!8 1? 1!9 0",
			outcome{on, "3 0", 0, 5}, outcome{"true 9 OK", "0 0", -1, 0}},
		{"a pop, one behind that is not used any more", breaks,
			outcome{on, "3 0", 0, 5}, outcome{"true 8 OK", "0 0", 1, 0}},
		{"the other one pops then", breaks + "1?",
			outcome{"true 8 OK", "3 0", -1, 6}, outcome{"true 7 OK", "0 0", -1, 0}},
		{"a pop, the node is taken again, and has its next one yet, at line 4", "0+5 1!7 00 0- 0 1? 1? 1+8 0 11 0",
			outcome{on, "3 0", 0, 5}, outcome{"true 8 OK", "0 0", 1, 0}},
		{"a pop, the node is taken again, and has another next one, at line 4", "0+5 1!7 00 0- 0 1? 1? 1+8 1 0 1 0",
			outcome{on, "3 0", 0, 5}, outcome{"true 8 OK", "0 0", -1, 0}},
		{"a pop, the node is only taken again", "0+5 1!7 00 0- 00 1? 1? 1+8 1 0",
			outcome{on, "3 2", -1, 4}, outcome{on, "3 2", -1, 0}},
	} {
		checkScript(t, 2, true, lined{c.name, c.script, c.with})
		checkScript(t, 2, false, lined{c.name, c.script, c.without})
	}
}

// TestAgainOf3: without tags what a third hand pushed is lost, and its node is not free any more.
func TestAgainOf3(t *testing.T) {
	const loses = "1!7 0- 00 1? 1+8 2!9 11 0 "
	for _, c := range []again{
		{"a pop, one behind that it did not see", loses,
			outcome{on, "3 0 0", 0, 4}, outcome{"true 8 OK", "0 0 0", -1, 0}},
		{"it is lost", loses + "1- 111",
			outcome{"true 8 OK", "3 0 0", 1, 5}, outcome{state, "0 0 0", -1, 0}},
		{"two more", loses + "2!1 2!2",
			outcome{pushed, "3 0 0", 3, 6}, outcome{pushed, "0 0 0", 2, 0}},
		{"three more", loses + "2!1 2!2 2+3",
			outcome{full, "3 0 0", 3, 6}, outcome{on, "0 0 1", 2, 0}},
		{"and none more", loses + "2!1 2!2 2!3 2+4",
			outcome{full, "3 0 0", 3, 6}, outcome{full, "0 0 0", 3, 0}},
	} {
		checkScript(t, 3, true, lined{c.name, c.script, c.with})
		checkScript(t, 3, false, lined{c.name, c.script, c.without})
	}
}

// TestBreaks: without tags a node that is not used may come to be on top, and be taken while it is there; each step does its line all the same.
func TestBreaks(t *testing.T) {
	for _, c := range []lined{
		{"a push takes the least node, ahead of it", breaks + "0!9", outcome{pushed, "0 0 0", 0, 0}},
		{"the node behind is taken", breaks + "0!9 1+6", outcome{on, "0 1 0", 0, 0}},
		{"what is ahead is popped", breaks + "0!9 1+6 0?", outcome{"true 9 OK", "0 1 0", 1, 0}},
		{"a node has its value from when it is taken", breaks + "0!9 1+6 0? 0?", outcome{"true 6 OK", "0 1 0", -1, 0}},
		{"the least is used again", breaks + "0!9 1+6 0? 0? 0!4", outcome{pushed, "0 1 0", 0, 0}},
		{"one that another hand pushes is taken", breaks + "0!9 1+6 0? 0? 0!4 0!3", outcome{pushed, "0 1 0", 1, 0}},
		{"that one sees its own node", breaks + "0!9 1+6 0? 0? 0!4 0!3 1", outcome{on, "0 2 0", 1, 0}},
		{"and pushes it", breaks + "0!9 1+6 0? 0? 0!4 0!3 11", outcome{pushed, "0 0 0", 1, 0}},
		{"it is popped", breaks + "0!9 1+6 0? 0? 0!4 0!3 11 1?", outcome{"true 3 OK", "0 0 0", 1, 0}},
		{"and again", breaks + "0!9 1+6 0? 0? 0!4 0!3 11 1? 1? 0?", outcome{"true 3 OK", "0 0 0", 1, 0}},
		{"it is not used, the other one is", breaks + "0!9 1+6 0? 0? 0!4 0!3 11 1? 0!2 0!1", outcome{pushed, "0 0 0", 2, 0}},
		{"a node has the next one that any hand gave it last", breaks + "0!9 1+6 0? 0? 0!4 0+3 1 2? 0 2!8 1", outcome{pushed, "2 0 0", 1, 0}},
		{"what was there behind it is lost", breaks + "0!9 1+6 0? 0? 0!4 0+3 1 2? 0 2!8 1 2?", outcome{"true 3 OK", "2 0 0", -1, 0}},
	} {
		checkScript(t, 3, false, c)
	}
}
