package sound

import (
	"slices"
	"testing"

	"telecine/api"
)

// expectStruck checks what Struck returns without an error.
func expectStruck(t *testing.T, x api.SdTask, want ...api.SdStrike) {
	t.Helper()
	if l, e := Struck(x); !slices.Equal(l, want) || e != api.OK {
		t.Errorf("Struck of %v = %v, %d; want %v", x, l, e, want)
	}
}

// expectWhere checks what Where returns without an error.
func expectWhere(t *testing.T, x api.SdTask, frame, lo, hi int) {
	t.Helper()
	if s, e := Where(x, frame); s != span(lo, hi) || e != api.OK {
		t.Errorf("Where of %v of %d = %v, %d; want %d to %d", x, frame, s, e, lo, hi)
	}
}

// P9.3: the examples, and marks at the ends of what others leave.
func TestStruck(t *testing.T) {
	expectStruck(t, example(), strikes(2, 0)...)
	x := example()
	expectStruck(t, with(x, nil))
	expectStruck(t, with(x, marks(0, 100000000, 0)))
	// The same frame: errors that touch, and that do not.
	expectStruck(t, with(x, marks(5, 100, 10, 5, 120, 10)))
	expectStruck(t, with(x, marks(5, 100, 10, 5, 121, 10)), strikes(1, 0)...)
	expectStruck(t, with(x, marks(5, 121, 10, 5, 100, 10)), strikes(1, 0)...)
	// Ten frames later from 9900 to 10100 samples more, and earlier so many fewer.
	expectStruck(t, with(x, marks(10, 20000, 0, 20, 29900, 0)))
	expectStruck(t, with(x, marks(10, 20000, 0, 20, 29899, 0)), strikes(1, 0)...)
	expectStruck(t, with(x, marks(10, 20000, 0, 20, 30100, 0)))
	expectStruck(t, with(x, marks(10, 20000, 0, 20, 30101, 0)), strikes(1, 0)...)
	expectStruck(t, with(x, marks(20, 29900, 0, 10, 20000, 0)))
	expectStruck(t, with(x, marks(20, 29899, 0, 10, 20000, 0)), strikes(1, 0)...)
	expectStruck(t, with(x, marks(20, 30100, 0, 10, 20000, 0)))
	expectStruck(t, with(x, marks(20, 30101, 0, 10, 20000, 0)), strikes(1, 0)...)
	expectStruck(t, with(x, marks(10, 20000, 3, 20, 30110, 7)))
	expectStruck(t, with(x, marks(10, 20000, 3, 20, 30111, 7)), strikes(1, 0)...)
}

// P9.3: by which mark another one is struck, if there are several.
func TestStruckBy(t *testing.T) {
	x := example()
	// The first one in the list, not the nearest one; what is struck strikes nothing.
	expectStruck(t, with(x, marks(20, 30000, 0, 22, 32000, 0, 23, 33100, 0)), strikes(2, 0)...)
	expectStruck(t, with(x, marks(20, 30000, 40, 22, 32000, 0, 23, 33050, 0)), strikes(2, 1)...)
	expectStruck(t, with(x, marks(0, 5000, 0, 0, 9000, 0, 0, 9000, 0, 0, 5000, 0)), strikes(1, 0, 2, 0)...)
	expectStruck(t, with(x, marks(0, 5000, 0, 0, 9000, 0, 1, 10000, 0, 1, 6000, 0, 1, 6005, 0)), strikes(1, 0, 2, 0, 4, 3)...)
	// Each two of three marks are kept, and so all are; a narrow one behind wide ones strikes alone.
	expectStruck(t, with(x, marks(0, 100, 100, 0, 200, 100, 0, 150, 50)))
	expectStruck(t, with(x, marks(0, 5000, 30, 50, 54500, 0, 0, 9000, 0)), strikes(2, 0)...)
	expectStruck(t, with(x, marks(0, 5000, 500, 0, 5400, 100, 0, 4800, 400)), strikes(2, 1)...)
}

// P9.3: the examples, and frames ahead of, at and behind marks.
func TestWhere(t *testing.T) {
	x := example()
	expectWhere(t, x, 0, 9850, 10150)
	expectWhere(t, x, 10, 19950, 20050)
	expectWhere(t, x, 37, 46680, 47320)
	expectWhere(t, x, 60, 69900, 70100)
	expectWhere(t, x, 75, 85050, 85250)
	expectWhere(t, x, 90, 100200, 100200)
	expectWhere(t, x, 99, 109110, 109290)
	// Samples below 0 are possible.
	expectWhere(t, with(x, marks(3, 0, 0)), 0, -3030, -2970)
	expectWhere(t, with(x, marks(0, 0, 5)), 0, -5, 5)
	expectWhere(t, with(x, marks(0, 0, 5)), 1, 985, 1015)
	// What is struck leaves nothing out.
	expectWhere(t, with(x, marks(0, 50, 5, 0, 70, 5, 0, 53, 5)), 0, 48, 55)
	// As far as the limits allow.
	y := full()
	expectWhere(t, y, 0, 0, 200000000-19500)
	expectWhere(t, y, 19999, 19999, 200000000+499*4000)
	y.Marks = marks(0, 100000000, 100000000)
	expectWhere(t, y, 19999, 19999, 200000000+19999*4000)
	y.Marks = marks(19999, 0, 100000000)
	expectWhere(t, y, 0, -100000000-19999*4000, 100000000-19999)
}

// P9.3: the errors of Where.
func TestWhereErrors(t *testing.T) {
	none := with(example(), nil)
	for i, c := range []struct {
		x     api.SdTask
		frame int
		e     api.Errno
	}{
		{example(), -1, api.ErrRange}, {example(), 100, api.ErrRange}, {example(), 1 << 62, api.ErrRange}, {example(), -1 << 63, api.ErrRange}, {example(), 99, api.OK}, {none, -1, api.ErrRange}, {none, 100, api.ErrRange}, {none, 0, api.ErrDown}, {none, 99, api.ErrDown},
	} {
		if s, e := Where(c.x, c.frame); e != c.e || e != api.OK && s != (api.Span{}) {
			t.Errorf("%d: Where = %v, %d; want %d", i, s, e, c.e)
		}
	}
}

// P9.3: Struck and Where of small tasks, against all their syncs.
func TestSmallSyncs(t *testing.T) {
	d := dice(2)
	var struck, open int
	for range 1500 {
		x := smallTask(d)
		possible, want := slowTaken(x)
		expectStruck(t, x, want...)
		for f, s := range slowWhere(possible) {
			expectWhere(t, x, f, s.Lo, s.Hi)
			open += s.Hi - s.Lo
		}
		if t.Failed() {
			t.FailNow()
		}
		struck += len(want)
	}
	if struck < 1000 || open < 1000 {
		t.Errorf("struck, open: %d, %d", struck, open)
	}
}

// P9.3: Struck and Where of greater tasks, against samples that are narrowed from frame to frame.
func TestGreaterSyncs(t *testing.T) {
	d := dice(3)
	var struck, by int
	for i := range 600 {
		x, _ := anyTask(d, 300)
		if i%3 > 0 {
			x.Marks = falseMarks(d, x.Marks)
		}
		where, want := slowTake(x)
		expectStruck(t, x, want...)
		for f, s := range where {
			expectWhere(t, x, f, s.Lo, s.Hi)
		}
		for _, s := range want {
			by += s.By
		}
		struck += len(want)
		if t.Failed() {
			t.FailNow()
		}
	}
	if struck < 1000 || by < 1000 {
		t.Errorf("struck, by: %d, %d", struck, by)
	}
}
