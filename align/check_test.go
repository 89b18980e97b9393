package align

import (
	"slices"
	"strings"
	"testing"

	"telecine/api"
)

// ofTwo calls all functions with two elements, and returns their errors.
func ofTwo(a, b api.AlElement, slack, most int, l []api.AlPair) [4]api.Errno {
	_, _, best := Best(a, b, slack)
	_, all := All(a, b, slack, most)
	_, _, surely := Surely(a, b, slack)
	_, judge := Judge(a, b, slack, l)
	return [4]api.Errno{best, all, surely, judge}
}

// ofList calls all functions with a list of elements, and returns their errors.
func ofList(l []api.AlElement, script []int) [4]api.Errno {
	_, _, whole := Whole(l)
	_, round := Round(l)
	_, lost := Lost(l, script)
	_, _, version := Version(l, script)
	return [4]api.Errno{whole, round, lost, version}
}

// all returns an error for each of four functions.
func all(e api.Errno) [4]api.Errno { return [4]api.Errno{e, e, e, e} }

// P6.1: the name, the grade, how many shots there may be, and the first shot with an error; all other functions return this error before their own ones.
func TestCheck(t *testing.T) {
	for i, c := range []struct {
		change func(x *api.AlElement)
		at     int
		e      api.Errno
	}{
		{func(x *api.AlElement) {}, 0, api.OK},
		{func(x *api.AlElement) { *x = api.AlElement{} }, 0, api.ErrForm},
		{func(x *api.AlElement) { x.Name = "Neg" }, 0, api.ErrForm},
		{func(x *api.AlElement) { x.Name = "neg-" }, 0, api.ErrForm},
		{func(x *api.AlElement) { x.Name = strings.Repeat("n", 25) }, 0, api.ErrForm},
		{func(x *api.AlElement) { x.Name = strings.Repeat("n", 24) }, 0, api.OK},
		{func(x *api.AlElement) { x.Name, x.Grade, x.Shots = "", 10, make([]api.AlShot, 41) }, 0, api.ErrForm},
		{func(x *api.AlElement) { x.Grade = -1 }, 0, api.ErrRange},
		{func(x *api.AlElement) { x.Grade = 10 }, 0, api.ErrRange},
		{func(x *api.AlElement) { x.Grade = 9 }, 0, api.OK},
		{func(x *api.AlElement) { x.Grade, x.Shots = 10, make([]api.AlShot, 41) }, 0, api.ErrRange},
		{func(x *api.AlElement) { x.Grade, x.Shots[3].Mark = 10, -1 }, 0, api.ErrRange},
		{func(x *api.AlElement) { x.Shots = nil }, 0, api.OK},
		{func(x *api.AlElement) { x.Shots = []api.AlShot{} }, 0, api.OK},
		{func(x *api.AlElement) { x.Shots = alike("x", 40, 200000).Shots }, 0, api.OK},
		{func(x *api.AlElement) { x.Shots = alike("x", 41, 200000).Shots }, 0, api.ErrLong},
		{func(x *api.AlElement) { x.Shots = make([]api.AlShot, 41) }, 0, api.ErrLong},
		{func(x *api.AlElement) { x.Shots[2].Mark = 0 }, 0, api.OK},
		{func(x *api.AlElement) { x.Shots[2].Mark = 999 }, 0, api.OK},
		{func(x *api.AlElement) { x.Shots[2].Mark = -1 }, 2, api.ErrRange},
		{func(x *api.AlElement) { x.Shots[2].Mark = 1000 }, 2, api.ErrRange},
		{func(x *api.AlElement) { x.Shots[2].Frames = 0 }, 2, api.ErrRange},
		{func(x *api.AlElement) { x.Shots[2].Frames = 1 }, 0, api.OK},
		{func(x *api.AlElement) { x.Shots[2].Frames = 200000 }, 0, api.OK},
		{func(x *api.AlElement) { x.Shots[2].Frames = 200001 }, 2, api.ErrRange},
		{func(x *api.AlElement) { x.Shots[0].Frames = 0 }, 0, api.ErrRange},
		// Twice is the shot behind; of one shot the numbers come first, of several the first one.
		{func(x *api.AlElement) { x.Shots[3].Mark = 1 }, 3, api.ErrTwice},
		{func(x *api.AlElement) { x.Shots[1].Mark, x.Shots[3].Frames = 1, 0 }, 1, api.ErrTwice},
		{func(x *api.AlElement) { x.Shots[3].Mark, x.Shots[1].Frames = 1, 0 }, 1, api.ErrRange},
		{func(x *api.AlElement) { x.Shots[2] = shot(1, 0) }, 2, api.ErrRange},
		{func(x *api.AlElement) { x.Shots[1].Mark, x.Shots[3].Mark = 0, 0 }, 0, api.OK},
		{func(x *api.AlElement) { x.Shots[0].Mark, x.Shots[3].Mark = 1000, 1000 }, 0, api.ErrRange},
	} {
		l := example()
		c.change(&l[0])
		if at, e := Check(l[0]); at != c.at || e != c.e {
			t.Errorf("%d: Check = %d, %d; want %d, %d", i, at, e, c.at, c.e)
		}
		if c.e == api.OK {
			continue
		}
		for _, other := range []api.AlElement{l[1], {Name: "x", Grade: 10}, {}} {
			want := c.e
			if e := ofTwo(l[0], other, -1, 0, pairs(-1, 9)); e != all(want) {
				t.Errorf("%d: with the left one %v; want %d", i, e, want)
			}
			if _, e := Check(other); e != api.OK {
				want = e
			}
			if e := ofTwo(other, l[0], -1, 0, pairs(-1, 9)); e != all(want) {
				t.Errorf("%d: with the right one %v; want %d", i, e, want)
			}
		}
		if e := ofList(l, []int{0}); e != all(c.e) {
			t.Errorf("%d: with a list %v; want %d", i, e, c.e)
		}
	}
}

// P6.2 to P6.8: two elements may have the same name, and elements of a list may not; there are at most 8 of them.
func TestCheckLists(t *testing.T) {
	l := example()
	same := graded(element("neg", shot(7, 1)), 9)
	if e := ofTwo(l[0], same, 0, 1, nil); e != all(api.OK) {
		t.Errorf("two with the same name: %v", e)
	}
	eight := []api.AlElement{listed("a", 1), listed("b", 2), listed("c", 3), listed("d", 4), listed("e", 5), listed("f", 6), listed("g", 7), listed("h", 8)}
	for i, c := range []struct {
		l []api.AlElement
		e api.Errno
	}{
		{nil, api.OK}, {l, api.OK}, {eight, api.OK},
		{append(slices.Clone(eight), listed("i", 9)), api.ErrLong},
		{append(slices.Clone(eight), eight[0]), api.ErrLong},
		{make([]api.AlElement, 9), api.ErrLong},
		{make([]api.AlElement, 8), api.ErrForm},
		{append(slices.Clone(l), same), api.ErrTwice},
		{[]api.AlElement{l[3], l[3]}, api.ErrTwice},
		// The first one with an error decides, and comes before a name that is there twice.
		{append(slices.Clone(l), graded(l[0], 10), element("")), api.ErrRange},
		{append(slices.Clone(l), element(""), graded(l[0], 10)), api.ErrForm},
		{append(slices.Clone(l), same, element("")), api.ErrForm},
		{append(slices.Clone(l), listed("x", 3, 3), graded(l[0], 10)), api.ErrTwice},
		// And both come before marks that contradict each other.
		{[]api.AlElement{listed("x", 1, 2), listed("x", 2, 1)}, api.ErrTwice},
		{[]api.AlElement{listed("x", 1, 2), listed("y", 2, 1), graded(l[0], 10)}, api.ErrRange},
	} {
		if e := ofList(c.l, nil); e != all(c.e) {
			t.Errorf("%d: %v; want %d", i, e, c.e)
		}
		if e := ofList(c.l, []int{0, 0}); c.e != api.OK && e != all(c.e) {
			t.Errorf("%d: with a script with an error %v; want %d", i, e, c.e)
		}
	}
}

// P6.7, P6.8: the error of a script.
func TestCheckScripts(t *testing.T) {
	full := make([]int, 60)
	for i := range full {
		full[i] = 999 - i
	}
	l := example()
	for i, c := range []struct {
		script []int
		e      api.Errno
	}{
		{nil, api.OK}, {[]int{1}, api.OK}, {[]int{999, 1}, api.OK}, {full, api.OK},
		{append(full[:60:60], 1), api.ErrLong}, {make([]int, 61), api.ErrLong}, {slices.Repeat([]int{1}, 61), api.ErrLong},
		{[]int{0}, api.ErrRange}, {[]int{1, 2, 1000}, api.ErrRange}, {[]int{-1, 5}, api.ErrRange}, {[]int{1, 1, 1000}, api.ErrRange}, {[]int{0, 0}, api.ErrRange},
		{[]int{1, 1}, api.ErrTwice}, {[]int{5, 9, 7, 9}, api.ErrTwice},
	} {
		_, lost := Lost(l, c.script)
		_, _, version := Version(l, c.script)
		_, _, contradicted := Version([]api.AlElement{listed("x", 1, 2), listed("y", 2, 1)}, c.script)
		want := c.e
		if want == api.OK {
			want = api.AlErrRound
		}
		if lost != c.e || version != c.e || contradicted != want {
			t.Errorf("%d: Lost: %d; Version: %d, and of elements that contradict each other %d; want %d", i, lost, version, contradicted, c.e)
		}
	}
}
