package sound

import (
	"iter"

	"telecine/api"
)

// task is a task without an error, and its marks that are taken and struck.
type task struct {
	api.SdTask
	taken  []int // indices of marks; the first mark is always one
	struck []api.SdStrike
}

// taskOf returns a task that has to be without an error, or its error.
func taskOf(t api.SdTask) (task, api.Errno) {
	if _, _, e := Check(t); e != api.OK {
		return task{}, e
	}
	x := task{SdTask: t}
	// Each mark leaves a span of samples at a frame, and spans of which each two overlap have a sample in common. So a sync that keeps to all of some marks is missing only if one that keeps to some two of them is.
	take := func(mark int) {
		for _, by := range x.taken {
			if x.contradict(mark, by) {
				x.struck = append(x.struck, api.SdStrike{Mark: mark, By: by})
				return
			}
		}
		x.taken = append(x.taken, mark)
	}
	for mark := range t.Marks {
		take(mark)
	}
	return x, api.OK
}

// narrowed returns what a span has in common with all that are made of a list; its Lo is above its Hi if that is nothing.
func narrowed[T any](s api.Span, list []T, made func(T) api.Span) api.Span {
	for _, x := range list {
		other := made(x)
		s = api.Span{Lo: max(s.Lo, other.Lo), Hi: min(s.Hi, other.Hi)}
	}
	return s
}

// leaves returns a function of marks, by their indices: the samples of a frame in syncs that keep to this mark.
func (x task) leaves(frame int) func(mark int) api.Span {
	return func(mark int) api.Span {
		m := x.Marks[mark]
		behind := frame - m.Frame
		least, most := x.Rate.Lo, x.Rate.Hi
		if behind < 0 {
			least, most = most, least
		}
		return api.Span{Lo: m.Sample - m.Error + behind*least, Hi: m.Sample + m.Error + behind*most}
	}
}

// contradict reports whether no sync keeps to both of two marks.
func (x task) contradict(mark, other int) bool {
	left := x.leaves(x.Marks[mark].Frame)
	both := narrowed(left(mark), []int{other}, left)
	return both.Lo > both.Hi
}

// samples returns the samples of a frame in possible syncs; the task has marks.
func (x task) samples(frame int) api.Span {
	left := x.leaves(frame)
	return narrowed(left(x.taken[0]), x.taken[1:], left)
}

// possible yields all frames, each with its samples in possible syncs; the task has marks.
func (x task) possible() iter.Seq2[int, api.Span] {
	return func(yield func(int, api.Span) bool) {
		for frame := range x.Frames {
			if !yield(frame, x.samples(frame)) {
				return
			}
		}
	}
}

// Struck returns the marks that are struck.
func Struck(t api.SdTask) ([]api.SdStrike, api.Errno) {
	x, e := taskOf(t)
	return x.struck, e
}

// Where returns the sample that is to be heard with a frame.
func Where(t api.SdTask, frame int) (api.Span, api.Errno) {
	x, e := taskOf(t)
	switch {
	case e != api.OK:
		return api.Span{}, e
	case !within(frame, 0, t.Frames-1):
		return api.Span{}, api.ErrRange
	case len(t.Marks) == 0:
		return api.Span{}, api.ErrDown
	}
	return x.samples(frame), api.OK
}
