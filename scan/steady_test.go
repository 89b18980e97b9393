package scan

import (
	"testing"

	"telecine/api"
)

// expectSteady checks what Steady returns.
func expectSteady(t *testing.T, first, f api.SnFrame, window api.SnArea, reach int, want api.SnShift, e api.Errno) {
	t.Helper()
	if s, f := Steady(first, f, window, reach); s != want || f != e {
		t.Errorf("Steady in %v with %d = %v, %d; want %v, %d", window, reach, s, f, want, e)
	}
}

// P7.2: of several shifts that differ by as much the sizes decide, then Y, and then X.
func TestSteadyOrder(t *testing.T) {
	dot, middle := frame(3, 0, 0, 0, 0, 9, 0, 0, 0, 0), area(1, 1, 1, 1)
	for _, c := range []struct {
		f    api.SnFrame
		x, y int
	}{
		{plain(3, 3, 9), 0, 0}, {plain(3, 3, 0), 0, 0}, {frame(3, 9, 9, 9, 9, 0, 9, 9, 9, 9), 0, -1},
		{frame(3, 9, 0, 9, 9, 0, 9, 9, 9, 9), -1, 0}, {frame(3, 9, 0, 9, 0, 0, 9, 9, 9, 9), 1, 0}, {frame(3, 9, 0, 9, 0, 0, 0, 9, 9, 9), 0, 1},
		{frame(3, 9, 0, 9, 0, 0, 0, 9, 0, 9), -1, -1}, {frame(3, 0, 0, 9, 0, 0, 0, 9, 0, 9), 1, -1}, {frame(3, 0, 0, 0, 0, 0, 0, 9, 0, 9), -1, 1}, {frame(3, 0, 0, 0, 0, 0, 0, 0, 0, 9), 1, 1},
		// Least is what differs, whichever the side.
		{frame(3, 0, 7, 0, 0, 0, 11, 0, 0, 0), 0, -1}, {frame(3, 0, 7, 0, 0, 0, 10, 0, 0, 0), 1, 0}, {frame(3, 0, 8, 0, 0, 0, 11, 0, 0, 0), 0, -1},
	} {
		want := api.SnShift{X: c.x, Y: c.y}
		level := int(c.f.Pixels[(1+c.y)*3+1+c.x])
		want.Sum = max(9-level, level-9)
		expectSteady(t, dot, c.f, middle, 1, want, api.OK)
	}
	// A shift of two at one side is as far as one at both, and farther than one at one side.
	line := plain(5, 5, 0)
	line.Pixels[12] = 9
	f := plain(5, 5, 0)
	f.Pixels[12-2], f.Pixels[12+5+1] = 9, 9
	expectSteady(t, line, f, area(2, 2, 2, 2), 2, api.SnShift{X: -2}, api.OK)
	f.Pixels[12-5-1] = 9
	expectSteady(t, line, f, area(2, 2, 2, 2), 2, api.SnShift{X: -1, Y: -1}, api.OK)
	f.Pixels[12-10] = 9
	expectSteady(t, line, f, area(2, 2, 2, 2), 2, api.SnShift{Y: -2}, api.OK)
	f.Pixels[12+1] = 9
	expectSteady(t, line, f, area(2, 2, 2, 2), 2, api.SnShift{X: 1}, api.OK)
}

// P7.2: the window stays within the other frame, and pixels outside of it do not count.
func TestSteadyWindow(t *testing.T) {
	a, b := frame(3, 1, 2, 3), frame(3, 2, 3, 4)
	expectSteady(t, a, b, area(1, 2, 0, 0), 2, api.SnShift{X: -1}, api.OK)
	expectSteady(t, a, b, area(1, 2, 0, 0), 0, api.SnShift{Sum: 2}, api.OK)
	expectSteady(t, a, b, area(0, 2, 0, 0), 2, api.SnShift{Sum: 3}, api.OK)
	expectSteady(t, a, b, area(0, 0, 0, 0), 2, api.SnShift{Sum: 1}, api.OK)
	expectSteady(t, b, a, area(0, 0, 0, 0), 2, api.SnShift{X: 1}, api.OK)
	expectSteady(t, b, a, area(0, 1, 0, 0), 12, api.SnShift{X: 1}, api.OK)
	expectSteady(t, frame(1, 1, 2, 3), frame(1, 2, 3, 4), area(0, 0, 1, 2), 12, api.SnShift{Y: -1}, api.OK)
	expectSteady(t, frame(1, 2, 3, 4), frame(1, 1, 2, 3), area(0, 0, 0, 1), 12, api.SnShift{Y: 1}, api.OK)
	// Levels that differ by all there is, on all pixels.
	expectSteady(t, plain(48, 48, 255), plain(48, 48, 0), area(0, 47, 0, 47), 12, api.SnShift{Sum: 2304 * 255}, api.OK)
	expectSteady(t, plain(48, 48, 0), plain(48, 48, 255), area(0, 47, 0, 47), 12, api.SnShift{Sum: 2304 * 255}, api.OK)
}

// P7.2: the reach is as far as it says, and not farther.
func TestSteadyReach(t *testing.T) {
	first, f := plain(48, 48, 0), plain(48, 48, 0)
	first.Pixels[24*48+24], f.Pixels[12*48+36] = 5, 5
	window := area(24, 24, 24, 24)
	expectSteady(t, first, f, window, 12, api.SnShift{X: 12, Y: -12}, api.OK)
	expectSteady(t, first, f, window, 11, api.SnShift{Sum: 5}, api.OK)
	f.Pixels[36*48+12] = 5
	expectSteady(t, first, f, window, 12, api.SnShift{X: 12, Y: -12}, api.OK)
	f.Pixels[12*48+36] = 0
	expectSteady(t, first, f, window, 12, api.SnShift{X: -12, Y: 12}, api.OK)
	expectSteady(t, first, f, window, 11, api.SnShift{Sum: 5}, api.OK)
}

// P7.2: the errors of Steady, and which one comes first.
func TestSteadyErrors(t *testing.T) {
	a, b, dot := example(), moved(), area(0, 0, 0, 0)
	short, bad := api.SnFrame{Wide: 1, High: 1}, api.SnFrame{}
	for i, c := range []struct {
		first, f api.SnFrame
		window   api.SnArea
		reach    int
		e        api.Errno
	}{
		{a, b, dot, 0, api.OK}, {a, b, dot, 12, api.OK}, {a, b, area(0, 5, 0, 3), 12, api.OK}, {a, b, area(5, 5, 3, 3), 12, api.OK},
		{a, b, dot, 13, api.ErrRange}, {a, b, dot, -1, api.ErrRange},
		{a, b, area(3, 2, 0, 0), 2, api.ErrArg}, {a, b, area(0, 0, 3, 2), 2, api.ErrArg}, {a, b, area(-1, 0, 0, 0), 2, api.ErrArg}, {a, b, area(0, 0, -1, 0), 2, api.ErrArg}, {a, b, area(0, 6, 0, 0), 2, api.ErrArg}, {a, b, area(0, 0, 0, 4), 2, api.ErrArg}, {a, b, area(6, 6, 0, 0), 2, api.ErrArg}, {a, b, area(0, 0, 4, 4), 2, api.ErrArg},
		{a, b, area(0, 6, 0, 0), 13, api.ErrArg}, {a, frame(4, a.Pixels...), dot, 13, api.ErrArg}, {a, frame(6, a.Pixels[:18]...), dot, 0, api.ErrArg}, {frame(6, a.Pixels[:18]...), a, dot, 0, api.ErrArg},
		{a, bad, area(0, 6, 0, 0), 13, api.ErrRange}, {a, short, area(0, 6, 0, 0), 13, api.ErrArg}, {bad, short, dot, 0, api.ErrRange}, {short, bad, dot, -1, api.ErrArg},
	} {
		s, e := Steady(c.first, c.f, c.window, c.reach)
		if e != c.e || e != api.OK && s != (api.SnShift{}) {
			t.Errorf("%d: Steady = %v, %d; want %d", i, s, e, c.e)
		}
	}
}
