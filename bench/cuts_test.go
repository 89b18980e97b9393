package bench

import (
	"math/rand/v2"
	"slices"
	"testing"

	"telecine/api"
)

// cuts returns cuts from their first and last frames.
func cuts(list ...[2]int) []api.BnCut {
	var l []api.BnCut
	for _, c := range list {
		l = append(l, api.BnCut{From: c[0], Until: c[1]})
	}
	return l
}

// P5.7: the examples, and frames at both ends of cuts and of the reel; -1 if the frame is cut out.
func TestAfterBefore(t *testing.T) {
	two := cuts([2]int{10, 19}, [2]int{50, 59})
	for _, c := range []struct {
		frames int
		cuts   []api.BnCut
		frame  int
		after  int
	}{
		{1000, two, 5, 5}, {1000, two, 12, -1}, {1000, two, 45, 35}, {1000, two, 62, -1}, {1000, two, 100, 80},
		{1000, two, 70, 50}, {1000, two, 999, 979}, {1000, two, 0, 0}, {1000, two, 9, 9}, {1000, two, 10, -1}, {1000, two, 19, -1}, {1000, two, 20, 10}, {1000, two, 59, 49}, {1000, two, 60, -1}, {1000, two, 69, -1},
		{10, nil, 0, 0}, {10, nil, 9, 9}, {1, nil, 0, 0}, {200000, nil, 199999, 199999},
		{10, cuts([2]int{0, 0}), 0, -1}, {10, cuts([2]int{0, 0}), 1, 0}, {10, cuts([2]int{9, 9}), 9, -1}, {10, cuts([2]int{9, 9}), 8, 8},
		{10, cuts([2]int{0, 9}), 4, -1}, {10, cuts([2]int{0, 4}, [2]int{0, 4}), 9, -1},
		// The same numbers again are other frames.
		{10, cuts([2]int{3, 4}, [2]int{3, 4}), 5, -1}, {10, cuts([2]int{3, 4}, [2]int{3, 4}), 7, 3}, {10, cuts([2]int{3, 4}, [2]int{2, 3}), 2, -1}, {10, cuts([2]int{3, 4}, [2]int{2, 3}), 6, 2},
	} {
		n, e := After(c.frames, c.cuts, c.frame)
		if c.after < 0 {
			if n != 0 || e != api.ErrNone {
				t.Errorf("After of %d, %v, %d = %d, %d", c.frames, c.cuts, c.frame, n, e)
			}
			continue
		}
		if n != c.after || e != api.OK {
			t.Errorf("After of %d, %v, %d = %d, %d", c.frames, c.cuts, c.frame, n, e)
		}
		if n, e := Before(c.frames, c.cuts, c.after); n != c.frame || e != api.OK {
			t.Errorf("Before of %d, %v, %d = %d, %d", c.frames, c.cuts, c.after, n, e)
		}
	}
}

// P5.7: errors of both functions, in their order.
func TestCutErrors(t *testing.T) {
	for i, c := range []struct {
		frames        int
		cuts          []api.BnCut
		frame         int
		after, before api.Errno
	}{
		{0, nil, 0, api.ErrRange, api.ErrRange},
		{-1, nil, 0, api.ErrRange, api.ErrRange},
		{200001, nil, 0, api.ErrRange, api.ErrRange},
		{0, make([]api.BnCut, 31), 0, api.ErrRange, api.ErrRange},
		{200, make([]api.BnCut, 31), -1, api.ErrLong, api.ErrLong},
		{10, cuts(slices.Repeat([][2]int{{5, 4}}, 31)...), 0, api.ErrLong, api.ErrLong},
		{200, make([]api.BnCut, 30), 30, api.OK, api.OK},
		{200, make([]api.BnCut, 30), 29, api.ErrNone, api.OK},
		{200, make([]api.BnCut, 30), 169, api.OK, api.OK},
		{200, make([]api.BnCut, 30), 170, api.OK, api.ErrRange},
		{10, nil, -1, api.ErrRange, api.ErrRange},
		{10, nil, 10, api.ErrRange, api.ErrRange},
		{10, cuts([2]int{4, 4}), 10, api.ErrRange, api.ErrRange},
		{10, cuts([2]int{-1, 4}), 0, api.ErrRange, api.ErrRange},
		{10, cuts([2]int{4, -1}), 0, api.ErrRange, api.ErrRange},
		{10, cuts([2]int{10, 10}), 0, api.ErrRange, api.ErrRange},
		{10, cuts([2]int{4, 10}), 0, api.ErrRange, api.ErrRange},
		{10, cuts([2]int{10, 4}), 0, api.ErrRange, api.ErrRange},
		{10, cuts([2]int{5, 4}), -1, api.ErrArg, api.ErrArg},
		{10, cuts([2]int{5, 4}, [2]int{-1, 0}), 0, api.ErrArg, api.ErrArg},
		{10, cuts([2]int{0, 0}, [2]int{-1, 0}, [2]int{5, 4}), 0, api.ErrRange, api.ErrRange},
		// What is a frame depends on the cuts before.
		{10, cuts([2]int{0, 4}, [2]int{4, 4}), 4, api.ErrNone, api.ErrRange},
		{10, cuts([2]int{0, 4}, [2]int{4, 5}), 4, api.ErrRange, api.ErrRange},
		{10, cuts([2]int{0, 4}, [2]int{5, 4}), 4, api.ErrRange, api.ErrRange},
		{10, cuts([2]int{0, 9}), 0, api.ErrNone, api.ErrRange},
		{10, cuts([2]int{0, 9}), 10, api.ErrRange, api.ErrRange},
		{10, cuts([2]int{0, 9}, [2]int{0, 0}), 0, api.ErrRange, api.ErrRange},
	} {
		n, e := After(c.frames, c.cuts, c.frame)
		m, f := Before(c.frames, c.cuts, c.frame)
		if e != c.after || f != c.before || e != api.OK && n != 0 || f != api.OK && m != 0 {
			t.Errorf("%d: After = %d, %d; Before = %d, %d; want %d and %d", i, n, e, m, f, c.after, c.before)
		}
	}
}

// anyCuts returns some cuts of so many frames, and the frames that they leave, in order.
func anyCuts(d *rand.Rand, frames int) (list []api.BnCut, left []int) {
	for i := range frames {
		left = append(left, i)
	}
	for range d.IntN(6) {
		if len(left) == 0 {
			break
		}
		s := anySpan(d, 0, len(left)-1)
		s.Hi = min(s.Hi, s.Lo+d.IntN(12))
		list = append(list, api.BnCut{From: s.Lo, Until: s.Hi})
		left = slices.Delete(left, s.Lo, s.Hi+1)
	}
	return list, left
}

// P5.7, P5.13: After and Before follow the frames that cuts leave, and lead back to each other; the order stays; the last cut is made of what those before leave.
func TestCutFrames(t *testing.T) {
	d := dice(13)
	for range 2000 {
		frames := from(d, 1, 50)
		list, left := anyCuts(d, frames)
		for frame := range frames {
			n, e := After(frames, list, frame)
			want := slices.Index(left, frame)
			if want < 0 && (n != 0 || e != api.ErrNone) || want >= 0 && (n != want || e != api.OK) {
				t.Fatalf("After of %d, %v, %d = %d, %d; want %d", frames, list, frame, n, e, want)
			}
			if len(list) > 0 {
				expectLast(t, frames, list, frame)
			}
		}
		for i, want := range left {
			if frame, e := Before(frames, list, i); frame != want || e != api.OK {
				t.Fatalf("Before of %d, %v, %d = %d, %d; want %d", frames, list, i, frame, e, want)
			}
		}
		if n, e := Before(frames, list, len(left)); n != 0 || e != api.ErrRange {
			t.Fatalf("Before of %d, %v, %d = %d, %d", frames, list, len(left), n, e)
		}
	}
}

// expectLast holds After of all cuts against that of the last one, for what that of those before returns.
func expectLast(t *testing.T, frames int, list []api.BnCut, frame int) {
	t.Helper()
	n, e := After(frames, list, frame)
	last := len(list) - 1
	left := frames
	for _, c := range list[:last] {
		left -= c.Until - c.From + 1
	}
	m, f := After(frames, list[:last], frame)
	if f == api.OK {
		m, f = After(left, list[last:], m)
	}
	if n != m || e != f {
		t.Fatalf("After of %d, %v, %d = %d, %d; step by step %d, %d", frames, list, frame, n, e, m, f)
	}
}
