package sound

import (
	"slices"
	"testing"

	"telecine/api"
)

// expectOff checks what Off returns without an error.
func expectOff(t *testing.T, x api.SdTask, speed, begin, off, frame int) {
	t.Helper()
	if n, f, e := Off(x, speed, begin); n != off || f != frame || e != api.OK {
		t.Errorf("Off of %v with %d from %d = %d, %d, %d; want %d, %d", x, speed, begin, n, f, e, off, frame)
	}
}

// expectFit checks what Fit returns without an error.
func expectFit(t *testing.T, x api.SdTask, fit api.SdFit, want ...api.SdProof) {
	t.Helper()
	if best, l, e := Fit(x); best != fit || !slices.Equal(l, want) || e != api.OK {
		t.Errorf("Fit of %v = %v, %v, %d; want %v, %v", x, best, l, e, fit, want)
	}
}

// exact is a task of which one sync is possible, with 1000 samples in each of its frames.
func exact(frames int, speeds ...int) api.SdTask {
	return api.SdTask{Frames: frames, Rate: span(1000, 1000), Marks: marks(0, 500, 0), Speeds: speeds}
}

// P9.4: the examples, and sound that is off at none, at the first and at the last frame, to both sides.
func TestOff(t *testing.T) {
	expectOff(t, example(), 1000000, 10000, 320, 37)
	expectOff(t, example(), 1000000, 10100, 420, 37)
	expectOff(t, example(), 1000000, 9000, 1320, 37)
	expectOff(t, example(), 1005000, 9820, 330, 0)
	expectOff(t, exact(100, 1), 1000000, 500, 0, 0)
	expectOff(t, exact(100, 1), 1000000, 499, 1, 0)
	expectOff(t, exact(100, 1), 1000000, 501, 1, 0)
	expectOff(t, exact(100, 1), 1000000, -1000000000, 1000000500, 0)
	expectOff(t, exact(100, 1), 1000000, 1000000000, 999999500, 0)
	// A thousandth of a sample in each frame: the sample that is heard is rounded down.
	expectOff(t, exact(1000, 1), 1000001, 500, 0, 0)
	expectOff(t, exact(1001, 1), 1000001, 500, 1, 1000)
	expectOff(t, exact(1, 1), 999999, 500, 0, 0)
	expectOff(t, exact(2, 1), 999999, 500, 1, 1)
	expectOff(t, exact(20000, 1), 4000000, 500, 3000*19999, 19999)
	expectOff(t, exact(20000, 1), 1, 500, 1000*19999-19, 19999)
}

// P9.4: the errors of Off and Fit, and which one comes first.
func TestOffErrors(t *testing.T) {
	none := with(example(), nil)
	for i, c := range []struct {
		x            api.SdTask
		speed, begin int
		e            api.Errno
	}{
		{example(), 1, -1000000000, api.OK}, {example(), 4000000, 1000000000, api.OK}, {example(), 0, 0, api.ErrRange}, {example(), -1, 0, api.ErrRange}, {example(), 4000001, 0, api.ErrRange}, {example(), 1 << 62, 0, api.ErrRange}, {example(), -1 << 63, 0, api.ErrRange},
		{example(), 1, -1000000001, api.ErrRange}, {example(), 1, 1000000001, api.ErrRange}, {example(), 1, 1 << 62, api.ErrRange}, {example(), 1, -1 << 63, api.ErrRange}, {none, 0, 0, api.ErrRange}, {none, 1, 1000000001, api.ErrRange}, {none, 1, 1000000000, api.ErrDown},
	} {
		if off, frame, e := Off(c.x, c.speed, c.begin); e != c.e || e != api.OK && (off != 0 || frame != 0) {
			t.Errorf("%d: Off = %d, %d, %d; want %d", i, off, frame, e, c.e)
		}
	}
	if fit, l, e := Fit(none); fit != (api.SdFit{}) || l != nil || e != api.ErrDown {
		t.Errorf("Fit = %v, %v, %d", fit, l, e)
	}
}

// P9.4: the examples; of speeds that are as good the least one is the best; and of begins too.
func TestFit(t *testing.T) {
	expectFit(t, example(), api.SdFit{Speed: 1000000, Begin: 10000, Off: 320}, proofs(1000000, 37, 37, 320, 1005000, 0, 38, 330)...)
	expectFit(t, exact(100, 1000000), api.SdFit{Speed: 1000000, Begin: 500}, proofs(1000000, 0, 0, 0)...)
	expectFit(t, exact(1, 5, 7, 4000000), api.SdFit{Speed: 5, Begin: 500}, proofs(5, 0, 0, 0, 7, 0, 0, 0, 4000000, 0, 0, 0)...)
	// With an odd difference there are two begins.
	x := exact(1, 5)
	x.Marks = marks(0, 500, 10, 0, 511, 10)
	expectFit(t, x, api.SdFit{Speed: 5, Begin: 505, Off: 5}, proofs(5, 0, 0, 5)...)
	x.Marks = marks(0, 500, 10, 0, 510, 9)
	expectFit(t, x, api.SdFit{Speed: 5, Begin: 505, Off: 5}, proofs(5, 0, 0, 5)...)
	x.Marks = marks(0, 0, 8, 0, 1, 8)
	expectFit(t, x, api.SdFit{Speed: 5, Begin: 0, Off: 8}, proofs(5, 0, 0, 8)...)
	// Too slow, exact, too fast: where it is off by the most, and the first of such frames.
	expectFit(t, exact(4, 999000, 1000000, 1001000), api.SdFit{Speed: 1000000, Begin: 500}, proofs(999000, 3, 0, 2, 1000000, 0, 0, 0, 1001000, 0, 3, 2)...)
	expectFit(t, exact(1002, 1000001), api.SdFit{Speed: 1000001, Begin: 499, Off: 1}, proofs(1000001, 0, 1000, 1)...)
	expectFit(t, exact(1002, 999999), api.SdFit{Speed: 999999, Begin: 501, Off: 1}, proofs(999999, 1001, 0, 1)...)
	// As far as the limits allow.
	y := full()
	y.Marks, y.Speeds = marks(0, 100000000, 100000000), []int{1, 4000000}
	expectFit(t, y, api.SdFit{Speed: 4000000, Begin: 60011999, Off: 139988001}, proofs(1, 19999, 0, 139997991, 4000000, 0, 19999, 139988001)...)
}

// P9.4, P9.12: Off and Fit of small tasks, against all begins from -45 to 45; the first sample is from -20 to 16, and no task is off by 20 at its best, so that no other begin is as good.
func TestSmallFits(t *testing.T) {
	d := dice(4)
	for range 1500 {
		x := smallTask(d)
		possible, _ := slowTaken(x)
		where := slowWhere(possible)
		var want []api.SdProof
		for _, speed := range x.Speeds {
			want = append(want, slowProof(where, speed))
		}
		best := slowFit(x, where, -45, 45)
		expectFit(t, x, best, want...)
		if best.Off >= 20 || where[0].Lo < -20 || where[0].Hi > 16 {
			t.Errorf("begins beyond 45 can be as good for %v", x)
		}
		speed, begin := from(d, 1, 4500), from(d, -60, 60)
		off := slowOff(where, speed, begin)
		expectOff(t, x, speed, begin, slices.Max(off), slices.Index(off, slices.Max(off)))
		if t.Failed() {
			t.FailNow()
		}
	}
}

// P9.4: Off and Fit of greater tasks, against samples that are narrowed from frame to frame.
func TestGreaterFits(t *testing.T) {
	d := dice(5)
	later := 0
	for i := range 600 {
		x, _ := anyTask(d, 300)
		if i%3 > 0 {
			x.Marks = falseMarks(d, x.Marks)
		}
		where, _ := slowTake(x)
		var want []api.SdProof
		for _, speed := range x.Speeds {
			want = append(want, slowProof(where, speed))
		}
		fit, l, e := Fit(x)
		if !slices.Equal(l, want) || e != api.OK {
			t.Fatalf("Fit of %v: %v, %d; want %v", x, l, e, want)
		}
		if best := slowFit(x, where, fit.Begin-3, fit.Begin+3); fit != best {
			t.Fatalf("Fit of %v = %v; want %v", x, fit, best)
		}
		off := slowOff(where, x.Speeds[0], fit.Begin)
		expectOff(t, x, x.Speeds[0], fit.Begin, slices.Max(off), slices.Index(off, slices.Max(off)))
		if fit.Speed > x.Speeds[0] {
			later++
		}
	}
	if later < 100 {
		t.Errorf("later: %d", later)
	}
}
