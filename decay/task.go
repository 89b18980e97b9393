package decay

import (
	"cmp"
	"iter"
	"slices"

	"telecine/api"
)

// Own returns the first morning at which levels are no course (-1: they are one).
func Own(t api.DcTask, course []int) (int, api.Errno) {
	if _, _, e := CheckTask(t); e != api.OK {
		return 0, e
	}
	if len(course) != len(t.Days)+1 {
		return 0, api.ErrArg
	}
	x := taskOf(t)
	can := x.start
	for m := range forward(0, len(course)) {
		n := course[m]
		if !within(n, can.Lo, can.Hi) {
			return m, api.OK
		}
		if m < len(x.strengths) {
			can = x.next(x.strengths[m], api.Span{Lo: n, Hi: n})
		}
	}
	return -1, api.OK
}

// Levels returns what can be known of all mornings, and the tests that are struck.
func Levels(t api.DcTask) (levels []api.Span, struck []api.DcStrike, e api.Errno) {
	if _, _, e := CheckTask(t); e != api.OK {
		return nil, nil, e
	}
	levels, struck = taskOf(t).known()
	return levels, struck, api.OK
}

// Lost returns the first morning on which the reel can be lost, and the first one by which it is (-1: none).
func Lost(t api.DcTask) (api.Span, api.Errno) {
	if _, _, e := CheckTask(t); e != api.OK {
		return api.Span{}, e
	}
	return taskOf(t).lost(), api.OK
}

// Moved returns the same for another climate from a day on.
func Moved(t api.DcTask, from int, d api.DcDay) (api.Span, api.Errno) {
	if _, _, e := CheckTask(t); e != api.OK {
		return api.Span{}, e
	}
	if !within(from, t.First, t.First+len(t.Days)-1) {
		return api.Span{}, api.ErrRange
	}
	if e := climateError(d); e != api.OK {
		return api.Span{}, e
	}
	stays := from - t.First
	t.Days = slices.Concat(t.Days[:stays], slices.Repeat([]api.DcDay{d}, len(t.Days)-stays))
	t.Tests = slices.DeleteFunc(slices.Clone(t.Tests), func(x api.DcTest) bool { return x.Day > from })
	return taskOf(t).lost(), api.OK
}

// task is a task without an error; it has the strengths of the climates.
type task struct {
	rule
	first     int
	strengths []api.Span
	start     api.Span
	tests     []api.DcTest
}

// taskOf returns the task of an api.DcTask without an error.
func taskOf(t api.DcTask) task {
	x := task{rule: rule{t.Rule}, first: t.First, start: t.Start, tests: t.Tests}
	for _, d := range t.Days {
		x.strengths = append(x.strengths, x.strength(d))
	}
	return x
}

// forward yields the mornings from one on and before another one, the first one first.
func forward(from, until int) iter.Seq[int] {
	return func(yield func(int) bool) {
		for m := from; m < until && yield(m); m++ {
		}
	}
}

// backward yields the mornings from one on and before another one, the last one first.
func backward(from, until int) iter.Seq[int] {
	return func(yield func(int) bool) {
		for m := until - 1; m >= from && yield(m); m-- {
		}
	}
}

// inOrder returns the indices of a list in the order of numbers of its elements, of the same number ascending.
func inOrder[T any](list []T, number func(T) int) []int {
	order := make([]int, len(list))
	for i := range order {
		order[i] = i
	}
	slices.SortStableFunc(order, func(a, b int) int { return cmp.Compare(number(list[a]), number(list[b])) })
	return order
}

// common returns the levels that are in both of two spans, and whether there are any.
func common(a, b api.Span) (api.Span, bool) {
	both := api.Span{Lo: max(a.Lo, b.Lo), Hi: min(a.Hi, b.Hi)}
	return both, both.Lo <= both.Hi
}

// morning returns the morning of a test.
func (t task) morning(test int) int { return t.tests[test].Day - t.first }

// known returns, for each morning, what can be known, and the tests that are struck.
func (t task) known() (levels []api.Span, struck []api.DcStrike) {
	levels, struck = t.reached()
	// A level stays only if one that can be known follows it: later tests narrow earlier mornings.
	for m := range backward(0, len(t.strengths)) {
		levels[m] = t.before(t.strengths[m], levels[m], levels[m+1])
	}
	return levels, struck
}

// reached returns, for each morning, the levels of the courses that keep to the tests taken up to it, and the tests that are struck.
func (t task) reached() (levels []api.Span, struck []api.DcStrike) {
	waiting := inOrder(t.tests, func(x api.DcTest) int { return x.Day })
	var taken []int
	can := t.start
	for m := range forward(0, len(t.strengths)+1) {
		if m > 0 {
			can = t.next(t.strengths[m-1], can)
		}
		for ; len(waiting) > 0 && t.morning(waiting[0]) == m; waiting = waiting[1:] {
			test := waiting[0]
			if both, ok := common(can, t.keeping(t.tests[test])); ok {
				can, taken = both, append(taken, test)
			} else {
				struck = append(struck, api.DcStrike{Test: test, By: t.by(taken, test)})
			}
		}
		levels = append(levels, can)
	}
	return levels, struck
}

// by returns the last one of the tests taken before a struck test by which it is struck (-1: by Start).
func (t task) by(taken []int, struck int) int {
	for _, former := range slices.Backward(taken) {
		can := t.keeping(t.tests[former])
		for m := range forward(t.morning(former), t.morning(struck)) {
			can = t.next(t.strengths[m], can)
		}
		if _, ok := common(can, t.keeping(t.tests[struck])); !ok {
			return former
		}
	}
	return -1
}

// lost returns the first day on which the reel can be lost, and the first one by which it is (-1: none).
func (t task) lost() api.Span {
	levels, _ := t.known()
	first := func(lost func(n api.Span) bool) int {
		if m := slices.IndexFunc(levels, lost); m >= 0 {
			return t.first + m
		}
		return -1
	}
	return api.Span{
		Lo: first(func(n api.Span) bool { return n.Hi >= t.Lost }),
		Hi: first(func(n api.Span) bool { return n.Lo >= t.Lost }),
	}
}
