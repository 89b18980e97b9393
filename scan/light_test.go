package scan

import (
	"slices"
	"testing"

	"telecine/api"
)

// shots returns the shots of their exposures and levels.
func shots(numbers ...int) (l []api.SnShot) {
	for s := range slices.Chunk(numbers, 2) {
		l = append(l, api.SnShot{Exposure: s[0], Level: s[1]})
	}
	return l
}

// expectLight checks what Light returns without an error.
func expectLight(t *testing.T, l []api.SnShot, light api.Span, wrong int) {
	t.Helper()
	if s, n, e := Light(l); s != light || n != wrong || e != api.OK {
		t.Errorf("Light of %v = %v, %d, %d; want %v, %d", l, s, n, e, light, wrong)
	}
}

// expectFlicker checks what Flicker returns without an error.
func expectFlicker(t *testing.T, l []api.SnFrame, patch api.SnArea, exposures []api.Span, wrong ...int) {
	t.Helper()
	if x, n, e := Flicker(l, patch); !slices.Equal(x, exposures) || !slices.Equal(n, wrong) || e != api.OK {
		t.Errorf("Flicker of %v in %v = %v, %v, %d; want %v, %v", l, patch, x, n, e, exposures, wrong)
	}
}

// expectEven checks what Even returns without an error.
func expectEven(t *testing.T, f api.SnFrame, exposure int, want api.SnFrame) {
	t.Helper()
	if g, e := Even(f, exposure); !alikeFrames(g, want) || e != api.OK {
		t.Errorf("Even of %v with %d = %v, %d; want %v", f, exposure, g, e, want)
	}
}

// P7.3: what shots allow, at the ends of levels, exposures and lights.
func TestLight(t *testing.T) {
	expectLight(t, nil, span(0, 10000000), -1)
	expectLight(t, shots(1000, 0), span(0, 999), -1)
	expectLight(t, shots(1000, 254), span(254000, 254999), -1)
	expectLight(t, shots(1000, 255), span(255000, 10000000), -1)
	expectLight(t, shots(3, 1), span(333334, 666666), -1)
	expectLight(t, shots(7, 0), span(0, 142857), -1)
	expectLight(t, shots(1, 0), span(0, 999999), -1)
	expectLight(t, shots(1, 9), span(9000000, 9999999), -1)
	expectLight(t, shots(1, 10), span(10000000, 10000000), -1)
	expectLight(t, shots(1, 11), api.Span{}, 0)
	expectLight(t, shots(1, 255), api.Span{}, 0)
	expectLight(t, shots(25, 250), span(10000000, 10000000), -1)
	expectLight(t, shots(25, 251), api.Span{}, 0)
	expectLight(t, shots(26, 255), span(9807693, 10000000), -1)
	expectLight(t, shots(100000, 0), span(0, 9), -1)
	expectLight(t, shots(100000, 7), span(70, 79), -1)
	expectLight(t, shots(100000, 255), span(2550, 10000000), -1)
}

// P7.3: the first shot that contradicts all before it together is named, not one that contradicts another one behind it.
func TestLightWrong(t *testing.T) {
	expectLight(t, shots(1000, 0, 2000, 1, 2000, 0), api.Span{}, 2)
	expectLight(t, shots(1000, 100, 1000, 100, 1000, 101, 1000, 100, 1000, 102), api.Span{}, 2)
	expectLight(t, shots(1000, 100, 500, 51, 1, 11), api.Span{}, 1)
	// Both others allow 100000 to 100999 alone, but not the same lights of it.
	expectLight(t, shots(1000, 100, 2000, 200), span(100000, 100499), -1)
	expectLight(t, shots(1000, 100, 2000, 201), span(100500, 100999), -1)
	expectLight(t, shots(1000, 100, 2000, 200, 2000, 201), api.Span{}, 2)
	expectLight(t, shots(2000, 200, 1000, 100, 1991, 200), span(100453, 100499), -1)
	expectLight(t, shots(2000, 200, 1000, 100, 1990, 200), api.Span{}, 2)
}

// P7.3: the errors of Light, and which one comes first.
func TestLightErrors(t *testing.T) {
	for i, c := range []struct {
		l []api.SnShot
		e api.Errno
	}{
		{slices.Repeat(shots(1000, 5), 16), api.OK}, {slices.Repeat(shots(1000, 5), 17), api.ErrLong}, {make([]api.SnShot, 17), api.ErrLong}, {make([]api.SnShot, 16), api.ErrRange},
		{shots(1, 0), api.OK}, {shots(0, 0), api.ErrRange}, {shots(-1, 0), api.ErrRange}, {shots(100000, 0), api.OK}, {shots(100001, 0), api.ErrRange}, {shots(5, 255), api.OK}, {shots(5, 256), api.ErrRange}, {shots(5, -1), api.ErrRange},
		// Also behind shots that contradict each other.
		{shots(1000, 5, 1000, 6, 0, 0), api.ErrRange}, {shots(1, 11, 5, 256), api.ErrRange},
	} {
		light, wrong, e := Light(c.l)
		if e != c.e || e != api.OK && (light != (api.Span{}) || wrong != 0) {
			t.Errorf("%d: Light = %v, %d, %d; want %d", i, light, wrong, e, c.e)
		}
	}
}

// P7.4: what one pixel allows, in black, white and between.
func TestFlickerPixel(t *testing.T) {
	for _, c := range []struct {
		before, level byte
		want          api.Span
	}{
		{100, 100, span(991, 1009)}, {100, 80, span(793, 809)}, {100, 0, span(1, 9)}, {100, 254, span(2515, 2549)}, {100, 255, span(2525, 100000)},
		{1, 1, span(501, 1999)}, {1, 200, span(100051, 0)}, {1, 199, span(99550, 100000)}, {254, 254, span(997, 1003)}, {254, 255, span(1001, 100000)},
		// Black tells nothing if it stays black, and its light can be a thousandth short of 1.
		{0, 0, span(1, 100000)}, {0, 1, span(1002, 100000)}, {0, 99, span(99100, 100000)}, {0, 100, span(100101, 0)}, {0, 255, span(0, -1)},
		// White can have any light above it.
		{255, 255, span(26, 100000)}, {255, 254, span(26, 999)}, {255, 100, span(10, 396)}, {255, 1, span(1, 7)}, {255, 0, span(1, 3)},
	} {
		l := frames(frame(1, c.before), frame(1, c.level))
		if c.want.Lo > c.want.Hi {
			expectFlicker(t, l, area(0, 0, 0, 0), []api.Span{span(1000, 1000), {}}, 1)
		} else {
			expectFlicker(t, l, area(0, 0, 0, 0), []api.Span{span(1000, 1000), c.want})
		}
	}
}

// P7.4: all pixels of the patch count, and no others; each frame is held against the first one alone.
func TestFlickerPatch(t *testing.T) {
	l := frames(frame(2, 100, 200), frame(2, 80, 160), frame(2, 100, 190))
	expectFlicker(t, l, area(0, 0, 0, 0), []api.Span{span(1000, 1000), span(793, 809), span(991, 1009)})
	expectFlicker(t, l, area(1, 1, 0, 0), []api.Span{span(1000, 1000), span(797, 804), span(946, 954)})
	expectFlicker(t, l[:1], area(0, 1, 0, 0), []api.Span{span(1000, 1000)})
	expectFlicker(t, frames(l[0], l[2], l[1], l[0], l[2]), area(0, 1, 0, 0), []api.Span{span(1000, 1000), {}, span(797, 804), span(996, 1004), {}}, 1, 4)
	// A pixel that allows no exposure at all leaves none for the others.
	expectFlicker(t, frames(frame(1, 100, 0), frame(1, 100, 100)), area(0, 0, 0, 1), []api.Span{span(1000, 1000), {}}, 1)
	expectFlicker(t, frames(frame(1, 0, 0), frame(1, 0, 100)), area(0, 0, 0, 1), []api.Span{span(1000, 1000), {}}, 1)
	// A pixel at each side, inside of a patch and outside of it.
	for at := range 25 {
		first, f := plain(5, 5, 100), plain(5, 5, 100)
		f.Pixels[at] = 0
		if x, y := at%5, at/5; within(x, 1, 2) && within(y, 2, 3) {
			expectFlicker(t, frames(first, first, f), area(1, 2, 2, 3), []api.Span{span(1000, 1000), span(991, 1009), {}}, 2)
		} else {
			expectFlicker(t, frames(first, first, f), area(1, 2, 2, 3), []api.Span{span(1000, 1000), span(991, 1009), span(991, 1009)})
		}
	}
}

// P7.4: the patch has to be an area of the first frame, and the error of the list comes first.
func TestFlickerErrors(t *testing.T) {
	l := frames(example(), moved())
	for i, c := range []struct {
		l     []api.SnFrame
		patch api.SnArea
		e     api.Errno
	}{
		{l, area(0, 5, 0, 3), api.OK}, {l, area(5, 5, 3, 3), api.OK}, {l, area(1, 0, 0, 0), api.ErrArg}, {l, area(0, 0, 1, 0), api.ErrArg}, {l, area(0, 6, 0, 0), api.ErrArg}, {l, area(0, 0, 0, 4), api.ErrArg}, {l, area(-1, 0, 0, 0), api.ErrArg}, {l, area(0, 0, -1, 0), api.ErrArg},
		{nil, area(1, 0, 0, 0), api.ErrLong}, {frames(l[0], api.SnFrame{}), area(1, 0, 0, 0), api.ErrRange},
	} {
		exposures, wrong, e := Flicker(c.l, c.patch)
		if e != c.e || e != api.OK && (exposures != nil || wrong != nil) {
			t.Errorf("%d: Flicker = %v, %v, %d; want %d", i, exposures, wrong, e, c.e)
		}
	}
}

// P7.4: levels that are made even, white ones and those that become white among them; and the errors.
func TestEven(t *testing.T) {
	levels := make([]byte, 48)
	for i := range levels {
		levels[i] = byte(i)
	}
	expectEven(t, frame(48, levels...), 1000, frame(48, levels...))
	expectEven(t, frame(3, 126, 254, 255), 500, frame(3, 253, 255, 255))
	expectEven(t, frame(3, 127, 128, 255), 500, frame(3, 255, 255, 255))
	expectEven(t, frame(4, 0, 1, 254, 255), 2000, frame(4, 0, 0, 127, 255))
	expectEven(t, frame(4, 0, 1, 254, 255), 999, frame(4, 0, 1, 254, 255))
	expectEven(t, frame(4, 0, 1, 253, 254), 998, frame(4, 0, 1, 254, 255))
	expectEven(t, frame(3, 0, 254, 255), 1, frame(3, 255, 255, 255))
	expectEven(t, frame(3, 0, 200, 255), 100000, frame(3, 0, 2, 255))
	expectEven(t, frame(3, 1, 2, 3), 3, frame(3, 255, 255, 255))
	expectEven(t, frame(2, 0, 1), 3, frame(2, 166, 255))
	expectEven(t, frame(1, 0, 100, 255), 100, frame(1, 5, 255, 255))
	for _, exposure := range []int{0, -1, 100001, 1 << 62, -1 << 63} {
		if f, e := Even(frame(1, 5), exposure); !alikeFrames(f, api.SnFrame{}) || e != api.ErrRange {
			t.Errorf("Even with %d = %v, %d", exposure, f, e)
		}
		if f, e := Even(api.SnFrame{Wide: 1, High: 1}, exposure); !alikeFrames(f, api.SnFrame{}) || e != api.ErrArg {
			t.Errorf("Even with %d = %v, %d", exposure, f, e)
		}
	}
}
