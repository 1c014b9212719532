package fifo_test

import (
	"fmt"
	"slices"
	"strconv"
	"strings"
	"testing"
)

// What an act tells that ends nothing, one that ends a put, one that finds nothing to get, one of a hand that is asked for what it may not do as it stands, and one where there are no more nodes.
const (
	on    = "false 0 OK"
	isIn  = "true -1 OK"
	empty = "true -1 OK"
	state = "false 0 ErrState"
	full  = "false 0 ErrFull"
)

// outcome is what is told of the act that ends a script, where all stand then, and Head and Tail.
type outcome struct {
	told, lines string
	head, tail  int
}

// lined is a script, and what comes of it. Hand 0 is the one that it speaks of.
type lined struct {
	name, script string
	outcome
}

// script of hands: 0+5 begins a put of hand 0, of 5, and 0- a get; 0!5 and 0? are whole ones, from their beginnings to their ends, of five acts each, while no other hand goes on, Tail is the last node, and something is in where one gets; else a digit is a step of a hand, and 0x7 are seven; spaces are for the eye.
func script(text string) []act {
	var out []act
	for _, part := range strings.Fields(text) {
		p := int(part[0] - '0')
		through := slices.Repeat([]act{{hand: p}}, 4)
		switch rest := part[1:]; {
		case rest == "-":
			out = append(out, act{p, gets, 0})
		case rest == "?":
			out = append(append(out, act{p, gets, 0}), through...)
		case strings.HasPrefix(rest, "+"):
			out = append(out, act{p, puts, number(rest[1:])})
		case strings.HasPrefix(rest, "!"):
			out = append(append(out, act{p, puts, number(rest[1:])}), through...)
		case strings.HasPrefix(rest, "x"):
			out = append(out, slices.Repeat([]act{{hand: p}}, number(rest[1:]))...)
		default:
			for _, c := range part {
				out = append(out, act{hand: int(c - '0')})
			}
		}
	}
	return out
}

// number that is written.
func number(text string) int {
	n, err := strconv.Atoi(text)
	if err != nil {
		panic(err)
	}
	return n
}

// String of an answer.
func (a answer) String() string { return fmt.Sprint(a.done, " ", a.got, " ", a.err) }

// orders of n hands, all of them.
func orders(n int) [][]int {
	if n == 0 {
		return [][]int{nil}
	}
	var out [][]int
	for _, less := range orders(n - 1) {
		for i := range n {
			out = append(out, slices.Insert(slices.Clone(less), i, n-1))
		}
	}
	return out
}

// checkLines of each script.
func checkLines(t *testing.T, n int, cases []lined) {
	t.Helper()
	for _, c := range cases {
		checkScript(t, n, c)
	}
}

// checkScript in each order of the hands: whichever of them is called 0, 1, .., the same comes of it.
func checkScript(t *testing.T, n int, c lined) {
	t.Helper()
	for _, order := range orders(n) {
		q, told := fresh(t, n), answer{}
		for _, a := range script(c.script) {
			a.hand = order[a.hand]
			told = a.in(q)
		}
		var lines []string
		for _, p := range order {
			lines = append(lines, strconv.Itoa(q.At(p)))
		}
		head, tail := q.Ends()
		if got := (outcome{told.String(), strings.Join(lines, " "), head, tail}); got != c.outcome {
			t.Errorf("%s: after %s, hands %v, got %v, want %v", c.name, c.script, order, got, c.outcome)
			return
		}
	}
}

// TestPutOf1: each line of a hand that puts and is the only one.
func TestPutOf1(t *testing.T) {
	checkLines(t, 1, []lined{
		{"line 0", "0", outcome{state, "0", 0, 0}},
		{"it begins", "0+5", outcome{on, "1", 0, 0}},
		{"line 1", "0+5 0", outcome{on, "2", 0, 0}},
		{"line 2", "0+5 00", outcome{on, "3", 0, 0}},
		{"line 3", "0+5 000", outcome{on, "5", 0, 0}},
		{"line 5", "0+5 0x4", outcome{isIn, "0", 0, 1}},
		{"line 0 again", "0+5 0x5", outcome{state, "0", 0, 1}},

		{"to put, at line 1", "0+5 0+6", outcome{state, "1", 0, 0}},
		{"to put, at line 2", "0+5 0 0+6", outcome{state, "2", 0, 0}},
		{"to put, at line 3", "0+5 00 0+6", outcome{state, "3", 0, 0}},
		{"to put, at line 5", "0+5 000 0+6", outcome{state, "5", 0, 0}},
		{"to get, at line 1", "0+5 0-", outcome{state, "1", 0, 0}},
		{"to get, at line 2", "0+5 0 0-", outcome{state, "2", 0, 0}},
		{"to get, at line 3", "0+5 00 0-", outcome{state, "3", 0, 0}},
		{"to get, at line 5", "0+5 000 0-", outcome{state, "5", 0, 0}},
		{"it puts what it began to put", "0+5 0+6 0 0+7 0 0+8 0 0+9 0 0?", outcome{"true 5 OK", "0", 1, 1}},
		{"what may not be put takes no node", "0+5 0+6 0 0+7 0 0+8 0 0+9 0 0!4", outcome{isIn, "0", 0, 2}},

		{"again, it begins", "0!5 0+6", outcome{on, "1", 0, 1}},
		{"again, line 1", "0!5 0+6 0", outcome{on, "2", 0, 1}},
		{"again, line 2", "0!5 0+6 00", outcome{on, "3", 0, 1}},
		{"again, line 3", "0!5 0+6 000", outcome{on, "5", 0, 1}},
		{"again, line 5", "0!5 0+6 0x4", outcome{isIn, "0", 0, 2}},
		{"it got, it begins", "0!5 0? 0+6", outcome{on, "1", 1, 1}},
		{"it got, line 5", "0!5 0? 0+6 0x4", outcome{isIn, "0", 1, 2}},
		{"nothing was in, it begins", "0- 000 0+5", outcome{on, "1", 0, 0}},
		{"nothing was in, line 5", "0- 000 0+5 0x4", outcome{isIn, "0", 0, 1}},
	})
}

// TestGetOf1: each line of a hand that gets and is the only one.
func TestGetOf1(t *testing.T) {
	checkLines(t, 1, []lined{
		{"it begins, nothing is in", "0-", outcome{on, "6", 0, 0}},
		{"line 6, nothing is in", "0- 0", outcome{on, "7", 0, 0}},
		{"line 7, nothing is in", "0- 00", outcome{on, "8", 0, 0}},
		{"line 8, nothing is in", "0- 000", outcome{empty, "0", 0, 0}},
		{"line 0 again, nothing was in", "0- 0x4", outcome{state, "0", 0, 0}},
		{"it begins", "0!5 0-", outcome{on, "6", 0, 1}},
		{"line 6", "0!5 0- 0", outcome{on, "7", 0, 1}},
		{"line 7", "0!5 0- 00", outcome{on, "8", 0, 1}},
		{"line 8", "0!5 0- 000", outcome{on, "10", 0, 1}},
		{"line 10", "0!5 0- 0x4", outcome{"true 5 OK", "0", 1, 1}},
		{"line 0 again", "0!5 0- 0x5", outcome{state, "0", 1, 1}},

		{"to put, at line 6", "0!5 0- 0+6", outcome{state, "6", 0, 1}},
		{"to put, at line 7", "0!5 0- 0 0+6", outcome{state, "7", 0, 1}},
		{"to put, at line 8", "0!5 0- 00 0+6", outcome{state, "8", 0, 1}},
		{"to put, at line 10", "0!5 0- 000 0+6", outcome{state, "10", 0, 1}},
		{"to get, at line 6", "0!5 0- 0-", outcome{state, "6", 0, 1}},
		{"to get, at line 7", "0!5 0- 0 0-", outcome{state, "7", 0, 1}},
		{"to get, at line 8", "0!5 0- 00 0-", outcome{state, "8", 0, 1}},
		{"to get, at line 10", "0!5 0- 000 0-", outcome{state, "10", 0, 1}},
		{"what may not be put is not", "0!5 0- 0+6 0 0+7 0 0+8 0 0+9 0 0- 000", outcome{empty, "0", 1, 1}},

		{"what was put first", "0!5 0!6 0?", outcome{"true 5 OK", "0", 1, 2}},
		{"what was put last", "0!5 0!6 0? 0?", outcome{"true 6 OK", "0", 2, 2}},
		{"then nothing is in", "0!5 0!6 0? 0? 0- 000", outcome{empty, "0", 2, 2}},
		{"what was put since it got", "0!5 0? 0!6 0?", outcome{"true 6 OK", "0", 2, 2}},
		{"what was put since nothing was in", "0- 000 0!5 0?", outcome{"true 5 OK", "0", 1, 1}},
		{"nothing is in again", "0- 000 0- 000", outcome{empty, "0", 0, 0}},
		{"nothing is in once more", "0!5 0? 0- 000 0- 000", outcome{empty, "0", 1, 1}},
		{"the same value twice", "0!5 0!5 0? 0?", outcome{"true 5 OK", "0", 2, 2}},
		{"0", "0!0 0?", outcome{"true 0 OK", "0", 1, 1}},
		{"the greatest", "0!1000 0?", outcome{"true 1000 OK", "0", 1, 1}},
	})
}

// TestPutsOf2: each line of a hand that puts, and each way where lines 2, 3, 4 and 5 ask, whatever the other one does.
func TestPutsOf2(t *testing.T) {
	checkLines(t, 2, []lined{
		{"it begins, the other one puts, at line 1", "1+7 0+5", outcome{on, "1 1", 0, 0}},
		{"it begins, the other one gets, at line 6", "1- 0+5", outcome{on, "1 6", 0, 0}},
		{"line 1, Tail is as it is then", "0+5 1!7 0", outcome{on, "2 0", 0, 2}},
		{"line 1, Tail is behind", "1+7 111 0+5 0", outcome{on, "2 5", 0, 0}},

		{"line 2, none, the other one at line 3", "1+7 11 0+5 00", outcome{on, "3 3", 0, 0}},
		{"line 2, none, the other one took a node ahead of it, and put it", "1+7 0+5 1x4 00", outcome{on, "3 0", 0, 1}},
		{"line 2, a node, Tail is behind", "1+7 111 0+5 00", outcome{on, "4 5", 0, 0}},
		{"line 2, a node, Tail has gone on", "0+5 0 1!7 0", outcome{on, "4 0", 0, 2}},
		{"line 2, a node that was got too", "0+5 0 1!7 1? 0", outcome{on, "4 0", 2, 2}},

		{"line 3, none, the other one at line 3", "0+5 00 1+7 11 0", outcome{on, "5 3", 0, 0}},
		{"line 3, then the other one", "0+5 00 1+7 11 0 1", outcome{on, "5 1", 0, 0}},
		{"line 3, a next one, Tail is behind", "0+5 00 1+7 111 0", outcome{on, "1 5", 0, 0}},
		{"line 3, a next one, Tail has gone on", "0+5 00 1!7 0", outcome{on, "1 0", 0, 2}},
		{"line 3, a next one that was got too", "0+5 00 1!7 1? 0", outcome{on, "1 0", 2, 2}},
		{"line 3, what is not last is not put behind", "0+5 00 1!7 0 1?", outcome{"true 7 OK", "1 0", 2, 2}},
		{"line 3, nor anything else", "0+5 00 1!7 0 1? 1- 111", outcome{empty, "1 0", 2, 2}},

		{"line 4, Tail is t", "1+7 111 0+5 000", outcome{on, "1 5", 0, 1}},
		{"line 4, Tail is t, then the other one", "1+7 111 0+5 000 1", outcome{isIn, "1 0", 0, 1}},
		{"line 4, Tail is not t", "1+7 111 0+5 00 1 0", outcome{on, "1 0", 0, 1}},
		{"line 4, Tail is further on", "1+7 111 0+5 00 1 1!8 0", outcome{on, "1 0", 0, 3}},
		{"line 4, behind line 3", "0+5 00 1+7 111 0 000", outcome{on, "1 5", 0, 2}},

		{"line 5, Tail is t", "0+5 000 1+7 11 0", outcome{isIn, "0 4", 0, 1}},
		{"line 5, then the other one at line 4", "0+5 000 1+7 11 0 1", outcome{on, "0 1", 0, 1}},
		{"line 5, Tail is not t, who puts moved it on", "0+5 000 1+7 111 0", outcome{isIn, "0 1", 0, 1}},
		{"line 5, Tail is not t, and behind once more", "0+5 000 1+7 111 111 0", outcome{isIn, "0 5", 0, 1}},
		{"line 5, Tail is further on", "0+5 000 1+7 111 1111 0", outcome{isIn, "0 0", 0, 2}},
		{"line 5, Tail is not t, who gets moved it on", "0+5 000 1- 1111 0", outcome{isIn, "0 6", 0, 1}},
		{"line 5, it was got already", "0+5 000 1- 1x8 0", outcome{isIn, "0 0", 1, 1}},

		{"anew, line 1", "1+7 111 0+5 000 0", outcome{on, "2 5", 0, 1}},
		{"anew, line 2", "1+7 111 0+5 000 00", outcome{on, "3 5", 0, 1}},
		{"anew, line 3", "1+7 111 0+5 000 000", outcome{on, "5 5", 0, 1}},
		{"anew, line 5", "1+7 111 0+5 000 0x4", outcome{isIn, "0 5", 0, 2}},
		{"anew, line 5, then the other one", "1+7 111 0+5 000 0x4 1", outcome{isIn, "0 0", 0, 2}},
		{"anew, who gets gets the other one's first", "1+7 111 0+5 000 0x4 0?", outcome{"true 7 OK", "0 5", 1, 2}},
		{"anew, and then its own", "1+7 111 0+5 000 0x4 0? 0?", outcome{"true 5 OK", "0 5", 2, 2}},
		{"anew, and again, line 4", "1+7 111 0+5 00 1 1+8 111 0 000", outcome{on, "1 5", 0, 3}},
		{"the node that it took is put behind one that was taken later", "0+5 1!7 0x4", outcome{isIn, "0 0", 0, 1}},
		{"that one is got first", "0+5 1!7 0x4 1?", outcome{"true 7 OK", "0 0", 2, 1}},
		{"and then its own one", "0+5 1!7 0x4 1? 1?", outcome{"true 5 OK", "0 0", 1, 1}},
		{"it begins again, the other one is at line 5 yet", "1+7 111 0+5 000 0x4 0+6", outcome{on, "1 5", 0, 2}},
		{"the other one begins again, it is at line 5 yet", "0+5 000 1+7 111 1111 1+8", outcome{on, "5 1", 0, 2}},
	})
}

// TestGetsOf2: each line of a hand that gets, and each way where lines 8, 9 and 10 ask, whatever the other one does.
func TestGetsOf2(t *testing.T) {
	checkLines(t, 2, []lined{
		{"it begins, the other one gets, at line 6", "1- 0-", outcome{on, "6 6", 0, 0}},
		{"it begins, the other one gets, at line 10", "0!5 1- 111 0-", outcome{on, "6 10", 0, 1}},
		{"line 6, Head is as it is then", "0!5 0!6 0- 1? 0", outcome{on, "7 0", 1, 2}},
		{"line 6, what is behind it is got", "0!5 0!6 0- 1? 0x4", outcome{"true 6 OK", "0 0", 2, 2}},
		{"line 7, Tail is as it is then", "0- 0 1!7 0", outcome{on, "8 0", 0, 1}},

		{"line 8, h is t, none, the other one at line 3", "1+7 11 0- 000", outcome{empty, "0 3", 0, 0}},
		{"line 8, h is t, none, all was got", "0!5 1? 0- 000", outcome{empty, "0 0", 1, 1}},
		{"line 8, h is t, a node, Tail is behind", "1+7 111 0- 000", outcome{on, "9 5", 0, 0}},
		{"line 8, h is t, a node, Tail has gone on", "0- 00 1!7 0", outcome{on, "9 0", 0, 1}},
		{"line 8, h is t, a node that was got too", "0- 00 1!7 1? 0", outcome{on, "9 0", 1, 1}},
		{"line 8, h is not t", "0!5 0- 000", outcome{on, "10 0", 0, 1}},
		{"line 8, h is not t, Tail went on at line 7", "0- 0 1!7 00", outcome{on, "10 0", 0, 1}},
		{"line 8, h is not t, Tail is behind", "0!5 1+7 111 0- 000", outcome{on, "10 5", 0, 1}},
		{"line 8, h is not t, Head has gone on", "0!5 0- 0 1? 00", outcome{on, "10 0", 1, 1}},

		{"line 9, Tail is t", "1+7 111 0- 0x4", outcome{on, "6 5", 0, 1}},
		{"line 9, then the other one", "1+7 111 0- 0x4 1", outcome{isIn, "6 0", 0, 1}},
		{"line 9, Tail is not t", "1+7 111 0- 000 1 0", outcome{on, "6 0", 0, 1}},
		{"line 9, Tail is further on", "1+7 111 0- 000 1 1!8 0", outcome{on, "6 0", 0, 2}},
		{"line 9, Tail is further on, and Head too", "1+7 111 0- 000 1 1? 0", outcome{on, "6 0", 1, 1}},
		{"line 9, of what was put at line 8", "0- 00 1!7 00", outcome{on, "6 0", 0, 1}},

		{"line 10, Head is h, the other one gets, at line 10", "0!5 0!6 0- 000 1- 111 0", outcome{"true 5 OK", "0 10", 1, 2}},
		{"line 10, then the other one", "0!5 0!6 0- 000 1- 111 0 1", outcome{on, "0 6", 1, 2}},
		{"line 10, then the other one anew", "0!5 0!6 0- 000 1- 111 0 1 1111", outcome{"true 6 OK", "0 0", 2, 2}},
		{"line 10, Head is h, the other one put", "0!5 0- 000 1!7 0", outcome{"true 5 OK", "0 0", 1, 2}},
		{"line 10, Head is h, Tail is behind", "0!5 1+7 111 0- 0x4", outcome{"true 5 OK", "0 5", 1, 1}},
		{"line 10, Head is not h, that was all", "0!5 0- 000 1? 0", outcome{on, "6 0", 1, 1}},
		{"line 10, Head is not h, something is in", "0!5 0!6 0- 000 1? 0", outcome{on, "6 0", 1, 2}},
		{"line 10, Head is not h, seen at line 7", "0!5 0!6 0- 0 1? 000", outcome{on, "6 0", 1, 2}},
		{"line 10, Head is not h, it is further on", "0!5 0!6 0- 000 1? 1? 0", outcome{on, "6 0", 2, 2}},

		{"anew behind line 9, it gets what the other one puts yet", "1+7 111 0- 0x4 0x4", outcome{"true 7 OK", "0 5", 1, 1}},
		{"then the other one is done", "1+7 111 0- 0x4 0x4 1", outcome{isIn, "0 0", 1, 1}},
		{"anew behind line 9, line 8, nothing is in", "1+7 111 0- 000 1 1? 0 000", outcome{empty, "0 0", 1, 1}},
		{"anew behind line 9, line 10", "0- 00 1!7 00 0x4", outcome{"true 7 OK", "0 0", 1, 1}},
		{"anew behind line 10, line 8, nothing is in", "0!5 0- 000 1? 0 000", outcome{empty, "0 0", 1, 1}},
		{"anew behind line 10, line 10", "0!5 0!6 0- 000 1? 0 0x4", outcome{"true 6 OK", "0 0", 2, 2}},
		{"anew behind line 10, line 9", "0!5 0- 000 1? 1+7 111 0 0x4", outcome{on, "6 5", 1, 2}},
		{"again, Tail is behind, line 8", "0!5 1+7 111 0? 0- 000", outcome{on, "9 5", 1, 1}},
		{"again, Tail is behind, line 9", "0!5 1+7 111 0? 0- 0x4", outcome{on, "6 5", 1, 2}},
		{"again, Tail was behind, line 10", "0!5 1+7 111 0? 0- 0x4 0x4", outcome{"true 7 OK", "0 5", 2, 2}},
		{"it begins again, the other one is at line 10 yet", "0!5 0!6 1- 111 0? 0-", outcome{on, "6 10", 1, 2}},
	})
}

// TestLinesOf3: one puts, and has not moved Tail on; the others find it behind, whoever of them moves it on.
func TestLinesOf3(t *testing.T) {
	const behind = "2+7 222 0- 000 1+5 11 "
	checkLines(t, 3, []lined{
		{"two find it", behind, outcome{on, "9 4 5", 0, 0}},
		{"who gets moves it on", behind + "0", outcome{on, "6 4 5", 0, 1}},
		{"then who puts", behind + "0 1", outcome{on, "6 1 5", 0, 1}},
		{"then who put", behind + "0 1 2", outcome{isIn, "6 1 0", 0, 1}},
		{"who puts moves it on", behind + "1", outcome{on, "9 1 5", 0, 1}},
		{"then who gets", behind + "1 0", outcome{on, "6 1 5", 0, 1}},
		{"who put moves it on", behind + "2", outcome{isIn, "9 4 0", 0, 1}},
		{"then both", behind + "2 0 1", outcome{on, "6 1 0", 0, 1}},
		{"who puts is ahead of who put", behind + "1 1x4", outcome{isIn, "9 0 5", 0, 2}},
		{"then who gets, whose t is not Tail", behind + "1 1x4 0", outcome{on, "6 0 5", 0, 2}},
		{"who gets is ahead of who put", behind + "0 0x4", outcome{"true 7 OK", "0 4 5", 1, 1}},
		{"then who puts, whose t is not Tail", behind + "0 0x4 1", outcome{on, "0 1 5", 1, 1}},
		{"then who put", behind + "0 0x4 1 2", outcome{isIn, "0 1 0", 1, 1}},
		{"it is behind once more, by who helped", behind + "1 111 0", outcome{on, "6 5 5", 0, 1}},
		{"who put is not the one to move it on then", behind + "1 111 0 2", outcome{isIn, "6 5 0", 0, 1}},
		{"who gets does not need to", behind + "1 111 0 2 0x4", outcome{"true 7 OK", "0 5 0", 1, 1}},
		{"until nothing is ahead of that one", behind + "1 111 0 2 0x4 0- 0x4", outcome{on, "6 5 0", 1, 2}},
		{"two get, Tail is behind: both find it", "2+7 222 0- 1- 000 111 0", outcome{on, "6 9 5", 0, 1}},
		{"two get, then the other one", "2+7 222 0- 1- 000 111 0 1", outcome{on, "6 6 5", 0, 1}},
		{"two get, both see it", "2+7 222 0- 1- 000 111 0 1 000 111", outcome{on, "10 10 5", 0, 1}},
		{"two get, one has it", "2+7 222 0- 1- 000 111 0 1 000 111 1", outcome{"true 7 OK", "10 0 5", 1, 1}},
		{"two get, the other one does not", "2+7 222 0- 1- 000 111 0 1 000 111 1 0", outcome{on, "6 0 5", 1, 1}},
		{"two get, and finds nothing", "2+7 222 0- 1- 000 111 0 1 000 111 1 0 000", outcome{empty, "0 0 5", 1, 1}},
	})
}

// TestLinesOf4: all hands meet where they put, and where they get.
func TestLinesOf4(t *testing.T) {
	const all = "0+1 1+2 2+3 3+4 "
	const one = all + "0123 0123 2 013 013 013 "
	const row = "0!1 1!2 2!3 3!4 0- 1- 2- 3- 0123 0123 0123 "
	checkLines(t, 4, []lined{
		{"all begin", all, outcome{on, "1 1 1 1", 0, 0}},
		{"all at line 2", all + "0123", outcome{on, "2 2 2 2", 0, 0}},
		{"all at line 3", all + "0123 0123", outcome{on, "3 3 3 3", 0, 0}},
		{"one is in", all + "0123 0123 2", outcome{on, "3 3 5 3", 0, 0}},
		{"the others begin anew", all + "0123 0123 2 013", outcome{on, "1 1 5 1", 0, 0}},
		{"they find Tail behind", one, outcome{on, "4 4 5 4", 0, 0}},
		{"one of them moves it on", one + "3", outcome{on, "4 4 5 1", 0, 3}},
		{"who is in is done", one + "3 2", outcome{isIn, "4 4 0 1", 0, 3}},
		{"the others move it on no more", one + "3 2 01", outcome{on, "1 1 0 1", 0, 3}},
		{"the next one", one + "3 2 01 1x4", outcome{isIn, "1 0 0 1", 0, 2}},
		{"and the next one", one + "3 2 01 1x4 3x4", outcome{isIn, "1 0 0 0", 0, 4}},
		{"and the last one", one + "3 2 01 1x4 3x4 0x4", outcome{isIn, "0 0 0 0", 0, 1}},
		{"the first one is got", one + "3 2 01 1x4 3x4 0x4 0?", outcome{"true 3 OK", "0 0 0 0", 3, 1}},
		{"the second one is got", one + "3 2 01 1x4 3x4 0x4 0? 1?", outcome{"true 2 OK", "0 0 0 0", 2, 1}},
		{"the third one is got", one + "3 2 01 1x4 3x4 0x4 0? 1? 2?", outcome{"true 4 OK", "0 0 0 0", 4, 1}},
		{"the last one is got", one + "3 2 01 1x4 3x4 0x4 0? 1? 2? 3?", outcome{"true 1 OK", "0 0 0 0", 1, 1}},
		{"nothing is in then", one + "3 2 01 1x4 3x4 0x4 0? 1? 2? 3? 2- 222", outcome{empty, "0 0 0 0", 1, 1}},
		{"each in its turn", all + "3x4 1x4 0x4 2x4", outcome{isIn, "0 0 0 0", 0, 3}},
		{"each in its turn, the first one is got", all + "3x4 1x4 0x4 2x4 0?", outcome{"true 4 OK", "0 0 0 0", 4, 3}},

		{"all at line 10", row, outcome{on, "10 10 10 10", 0, 4}},
		{"one gets", row + "3", outcome{"true 1 OK", "10 10 10 0", 1, 4}},
		{"the others begin anew, to get", row + "3 012", outcome{on, "6 6 6 0", 1, 4}},
		{"one of them gets", row + "3 012 012 012 012 1", outcome{"true 2 OK", "10 0 10 0", 2, 4}},
		{"the others begin anew, to get, again", row + "3 012 012 012 012 1 20", outcome{on, "6 0 6 0", 2, 4}},
		{"all get, one is behind all", row + "3 012 012 012 012 1 20 0x4 2x4", outcome{"true 4 OK", "0 0 0 0", 4, 4}},
		{"all find nothing", "0- 1- 2- 3- 0123 0123 3210", outcome{empty, "0 0 0 0", 0, 0}},
	})
}

// TestSteps: an ordinary script, and what is told behind each act.
func TestSteps(t *testing.T) {
	q := fresh(t, 3)
	want := []string{
		on, "1 0 0 0 0", on, "1 1 0 0 0", on, "2 1 0 0 0", on, "2 2 0 0 0", on, "3 2 0 0 0", on, "3 3 0 0 0", on, "3 5 0 0 0",
		on, "1 5 0 0 0", on, "1 5 6 0 0", on, "1 5 7 0 0", on, "1 5 8 0 0", on, "1 5 9 0 0", on, "2 5 9 0 0",
		on, "4 5 9 0 0", on, "4 5 6 0 2", on, "1 5 6 0 2", isIn, "1 0 6 0 2", state, "1 0 6 0 2",
		on, "2 0 6 0 2", on, "3 0 6 0 2", on, "5 0 6 0 2", on, "5 0 7 0 2", on, "5 0 8 0 2", on, "5 0 10 0 2",
		"true 7 OK", "5 0 0 2 2", on, "5 6 0 2 2", on, "5 7 0 2 2", on, "5 8 0 2 2", on, "5 9 0 2 2", isIn, "0 9 0 2 1",
		on, "0 6 0 2 1", state, "0 6 0 2 1", on, "0 7 0 2 1", on, "0 8 0 2 1", on, "0 10 0 2 1", on, "0 10 1 2 1",
		"true 5 OK", "0 0 1 1 1", on, "6 0 1 1 1", on, "7 0 1 1 1", on, "8 0 1 1 1", empty, "0 0 1 1 1", state, "0 0 1 1 1",
	}
	acts := script("0+5 1+7 01 01 1 0 2- 222 00 2 0 1 1 000 2222 1- 111 0 1 1+9 111 2+3 1 0- 000 0")
	if len(want) != 2*len(acts) {
		t.Fatalf("%d acts, and %d things that are to be told", len(acts), len(want))
	}
	for i, a := range acts {
		got := a.in(q).String()
		if lines := shown(q, 3); got != want[2*i] || lines != want[2*i+1] {
			t.Errorf("act %d, %v: got %s, %s, want %s, %s", i, a, got, lines, want[2*i], want[2*i+1])
		}
	}
}
