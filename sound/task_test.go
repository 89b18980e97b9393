package sound

import (
	"slices"
	"testing"

	"telecine/api"
)

// badTask is the example with a change, and what Check then returns.
type badTask struct {
	change   func(x *api.SdTask)
	part, at int
	e        api.Errno
}

// badPictures are tasks whose first part is as stated, or not.
func badPictures() []badTask {
	return []badTask{
		{func(x *api.SdTask) {}, 0, 0, api.OK},
		{func(x *api.SdTask) { x.Frames = 0 }, 1, 0, api.ErrRange},
		{func(x *api.SdTask) { x.Frames = -1 << 63 }, 1, 0, api.ErrRange},
		{func(x *api.SdTask) { x.Frames = 20000 }, 0, 0, api.OK},
		{func(x *api.SdTask) { x.Frames = 20001 }, 1, 0, api.ErrRange},
		{func(x *api.SdTask) { x.Frames, x.Marks = 1, nil }, 0, 0, api.OK},
		{func(x *api.SdTask) { x.Rate = span(1, 4000) }, 0, 0, api.OK},
		{func(x *api.SdTask) { x.Rate = span(1, 1) }, 0, 0, api.OK},
		{func(x *api.SdTask) { x.Rate = span(4000, 4000) }, 0, 0, api.OK},
		{func(x *api.SdTask) { x.Rate = span(0, 1000) }, 1, 0, api.ErrRange},
		{func(x *api.SdTask) { x.Rate = span(1000, 4001) }, 1, 0, api.ErrRange},
		{func(x *api.SdTask) { x.Rate = span(4001, 1000) }, 1, 0, api.ErrRange},
		{func(x *api.SdTask) { x.Rate = span(1000, 0) }, 1, 0, api.ErrRange},
		{func(x *api.SdTask) { x.Rate = span(1000, 999) }, 1, 0, api.ErrArg},
		{func(x *api.SdTask) { x.Rate, x.Frames = span(1000, 999), 0 }, 1, 0, api.ErrRange},
		{func(x *api.SdTask) { x.Rate, x.Marks = span(1000, 999), make([]api.SdMark, 41) }, 1, 0, api.ErrArg},
	}
}

// badMarks are tasks whose second part is as stated, or not.
func badMarks() []badTask {
	return []badTask{
		{func(x *api.SdTask) { x.Marks = nil }, 0, 0, api.OK},
		{func(x *api.SdTask) { x.Marks = make([]api.SdMark, 40) }, 0, 0, api.OK},
		{func(x *api.SdTask) { x.Marks = make([]api.SdMark, 41) }, 2, 0, api.ErrLong},
		{func(x *api.SdTask) { x.Marks = slices.Repeat(marks(-1, -1, -1), 41) }, 2, 0, api.ErrLong},
		{func(x *api.SdTask) { x.Frames = 90 }, 2, 3, api.ErrNone},
		{func(x *api.SdTask) { x.Frames = 91 }, 0, 0, api.OK},
		{func(x *api.SdTask) { x.Marks[0].Frame = -1 }, 2, 0, api.ErrNone},
		{func(x *api.SdTask) { x.Marks[2].Frame = 1 << 62 }, 2, 2, api.ErrNone},
		{func(x *api.SdTask) { x.Marks = marks(0, 0, 0, 99, 100000000, 100000000) }, 0, 0, api.OK},
		{func(x *api.SdTask) { x.Marks[1].Sample = -1 }, 2, 1, api.ErrRange},
		{func(x *api.SdTask) { x.Marks[1].Sample = 100000001 }, 2, 1, api.ErrRange},
		{func(x *api.SdTask) { x.Marks[3].Error = -1 }, 2, 3, api.ErrRange},
		{func(x *api.SdTask) { x.Marks[3].Error = 100000001 }, 2, 3, api.ErrRange},
		// The first mark decides, and the frame comes first.
		{func(x *api.SdTask) { x.Marks[1] = marks(-1, -1, -1)[0] }, 2, 1, api.ErrNone},
		{func(x *api.SdTask) { x.Marks[1].Error, x.Marks[2].Frame = -1, -1 }, 2, 1, api.ErrRange},
		{func(x *api.SdTask) { x.Marks[3].Error, x.Speeds = -1, nil }, 2, 3, api.ErrRange},
	}
}

// badSpeeds are tasks whose third part is as stated, or not.
func badSpeeds() []badTask {
	return []badTask{
		{func(x *api.SdTask) { x.Speeds = nil }, 3, 0, api.ErrLong},
		{func(x *api.SdTask) { x.Speeds = []int{1} }, 0, 0, api.OK},
		{func(x *api.SdTask) { x.Speeds = []int{4000000} }, 0, 0, api.OK},
		{func(x *api.SdTask) { x.Speeds = full().Speeds }, 0, 0, api.OK},
		{func(x *api.SdTask) { x.Speeds = make([]int, 17) }, 3, 0, api.ErrLong},
		{func(x *api.SdTask) { x.Speeds[0] = 0 }, 3, 0, api.ErrRange},
		{func(x *api.SdTask) { x.Speeds[1] = 0 }, 3, 1, api.ErrRange},
		{func(x *api.SdTask) { x.Speeds[1] = -1 << 63 }, 3, 1, api.ErrRange},
		{func(x *api.SdTask) { x.Speeds[1] = 4000001 }, 3, 1, api.ErrRange},
		{func(x *api.SdTask) { x.Speeds[1] = 1000000 }, 3, 1, api.ErrArg},
		{func(x *api.SdTask) { x.Speeds[1] = 999999 }, 3, 1, api.ErrArg},
		{func(x *api.SdTask) { x.Speeds = []int{1, 2, 3, 3, 0} }, 3, 3, api.ErrArg},
		{func(x *api.SdTask) { x.Speeds = []int{1, 2, 3, 0, 3} }, 3, 3, api.ErrRange},
	}
}

// P9.2: Check names the part, the index and the error that come first, and all functions with a task return this error before their own.
func TestCheck(t *testing.T) {
	for i, c := range slices.Concat(badPictures(), badMarks(), badSpeeds()) {
		x := example()
		c.change(&x)
		if part, at, e := Check(x); part != c.part || at != c.at || e != c.e {
			t.Errorf("%d: Check = %d, %d, %d; want %d, %d, %d", i, part, at, e, c.part, c.at, c.e)
		}
		if c.e != api.OK {
			expectError(t, x, c.e)
		}
	}
}

// expectError checks that all functions with a task return its error, and nothing else, also with arguments that have errors.
func expectError(t *testing.T, x api.SdTask, want api.Errno) {
	t.Helper()
	for _, n := range []int{0, -1, 1 << 62} {
		if s, e := Where(x, n); s != (api.Span{}) || e != want {
			t.Errorf("Where of %v of %d = %v, %d; want %d", x, n, s, e, want)
		}
		if off, at, e := Off(x, n, n); off != 0 || at != 0 || e != want {
			t.Errorf("Off of %v with %d = %d, %d, %d; want %d", x, n, off, at, e, want)
		}
	}
	if l, e := Struck(x); l != nil || e != want {
		t.Errorf("Struck of %v = %v, %d; want %d", x, l, e, want)
	}
	if fit, l, e := Fit(x); fit != (api.SdFit{}) || l != nil || e != want {
		t.Errorf("Fit of %v = %v, %v, %d; want %d", x, fit, l, e, want)
	}
}
