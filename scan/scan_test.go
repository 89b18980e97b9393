package scan

import (
	"math/rand/v2"
	"slices"
	"testing"

	"telecine/api"
)

// span returns the numbers from lo to hi.
func span(lo, hi int) api.Span { return api.Span{Lo: lo, Hi: hi} }

// area returns the area of the columns from left to right, and the rows from top to low.
func area(left, right, top, low int) api.SnArea {
	return api.SnArea{X: span(left, right), Y: span(top, low)}
}

// frame returns the frame that is so wide and has these pixels.
func frame(wide int, pixels ...byte) api.SnFrame {
	return api.SnFrame{Wide: wide, High: len(pixels) / wide, Pixels: pixels}
}

// plain returns a frame whose pixels are all the same.
func plain(wide, high int, level byte) api.SnFrame {
	return frame(wide, slices.Repeat([]byte{level}, wide*high)...)
}

// frames returns a list of frames.
func frames(l ...api.SnFrame) []api.SnFrame { return l }

// example is the frame A of the chapter's examples.
func example() api.SnFrame {
	return frame(6,
		0, 0, 0, 0, 0, 0,
		0, 9, 9, 5, 0, 0,
		0, 9, 200, 5, 0, 0,
		7, 7, 7, 7, 7, 7)
}

// moved is the frame B of the chapter's examples.
func moved() api.SnFrame {
	return frame(6,
		3, 0, 9, 9, 5, 0,
		3, 0, 9, 200, 5, 0,
		3, 7, 7, 7, 7, 7,
		3, 3, 3, 3, 3, 3)
}

// copied returns frames that share no memory with l.
func copied(l []api.SnFrame) []api.SnFrame {
	l = slices.Clone(l)
	for i := range l {
		l[i].Pixels = slices.Clone(l[i].Pixels)
	}
	return l
}

// alikeFrames reports whether two frames are the same.
func alikeFrames(a, b api.SnFrame) bool {
	return a.Wide == b.Wide && a.High == b.High && slices.Equal(a.Pixels, b.Pixels)
}

// dice is a source of numbers that are the same in each run.
func dice(seed uint64) *rand.Rand { return rand.New(rand.NewPCG(seed, 1895)) }

// from returns a number from lo to hi.
func from(d *rand.Rand, lo, hi int) int { return lo + d.IntN(hi-lo+1) }

// anySize returns a size of at most so many pixels at each side; the greatest and the least sides come often.
func anySize(d *rand.Rand, most int) (wide, high int) {
	side := func() int { return max(1, min(most, from(d, -most/8, most+most/8))) }
	return side(), side()
}

// anyFrame returns a frame of a size whose pixels have so many levels, few of them often.
func anyFrame(d *rand.Rand, wide, high, levels int) api.SnFrame {
	f := plain(wide, high, 0)
	step := 255 / levels
	run := 1 + d.IntN(6)
	level := byte(0)
	for i := range f.Pixels {
		if d.IntN(run) == 0 {
			level = byte(d.IntN(levels+1) * step)
		}
		f.Pixels[i] = level
	}
	return f
}

// anyArea returns an area of a frame of a size.
func anyArea(d *rand.Rand, wide, high int) api.SnArea {
	part := func(most int) api.Span {
		lo := d.IntN(most)
		return span(lo, from(d, lo, most-1))
	}
	return api.SnArea{X: part(wide), Y: part(high)}
}

// expectMove checks what Move returns.
func expectMove(t *testing.T, f api.SnFrame, x, y int, fill byte, want api.SnFrame, e api.Errno) {
	t.Helper()
	if g, f := Move(f, x, y, fill); !alikeFrames(g, want) || f != e {
		t.Errorf("Move by %d, %d = %v, %d; want %v, %d", x, y, g, f, want, e)
	}
}

// The examples of the chapter, and that of DOC.md about this layer.
func TestExamples(t *testing.T) {
	a, b := example(), moved()
	expectMove(t, a, 1, -1, 3, b, api.OK)
	expectSteady(t, a, b, area(1, 3, 1, 2), 2, api.SnShift{X: 1, Y: -1}, api.OK)
	expectSteady(t, a, b, area(1, 3, 1, 2), 0, api.SnShift{Sum: 401}, api.OK)
	expectLight(t, shots(1000, 100), span(100000, 100999), -1)
	expectLight(t, shots(1000, 100, 500, 50), span(100000, 100999), -1)
	expectLight(t, shots(1000, 255, 100, 40), span(400000, 409999), -1)
	expectLight(t, shots(1000, 100, 500, 51), api.Span{}, 1)
	flickers := frames(frame(2, 100, 200), frame(2, 80, 160), frame(2, 100, 190))
	expectFlicker(t, flickers, area(0, 1, 0, 0), []api.Span{span(1000, 1000), span(797, 804), {}}, 2)
	expectEven(t, frame(1, 80), 800, frame(1, 100))
	expectEven(t, frame(1, 250), 500, frame(1, 255))
	expectEven(t, frame(1, 255), 2000, frame(1, 255))
	mask := frame(6,
		255, 255, 255, 255, 255, 255,
		255, 0, 0, 0, 255, 255,
		255, 0, 0, 0, 255, 255,
		0, 0, 0, 0, 0, 0)
	expectDust(t, a, 1, 0, mask)
	expectSpots(t, mask, spot(0, 5, 0, 2, 12))
	if sum, none := Sum([]byte("123456789")), Sum(nil); sum != 10673 || none != 65535 {
		t.Errorf("Sum = %d; of nothing %d", sum, none)
	}
	expectFile(t, frames(a), 83, 78, 6, 4, 1, 134, 0, 6, 0, 9, 9, 5, 0, 0, 6, 0, 9, 200, 5, 0, 0, 134, 7)
}

// ofFrame calls all functions with a frame, and returns their errors.
func ofFrame(f api.SnFrame) [7]api.Errno {
	_, move := Move(f, 0, 0, 0)
	_, steady := Steady(f, f, area(0, 0, 0, 0), 0)
	_, _, flicker := Flicker(frames(f), area(0, 0, 0, 0))
	_, even := Even(f, 1)
	_, dust := Dust(f, 0, 0)
	_, spots := Spots(f)
	_, write := Write(frames(f))
	return [7]api.Errno{move, steady, flicker, even, dust, spots, write}
}

// P7.1: the sides of a frame, and how many pixels it has; all other functions return this error.
func TestCheck(t *testing.T) {
	for i, c := range []struct {
		wide, high, pixels int
		e                  api.Errno
	}{
		{6, 4, 24, api.OK}, {1, 1, 1, api.OK}, {48, 48, 2304, api.OK}, {48, 1, 48, api.OK}, {1, 48, 48, api.OK},
		{0, 0, 0, api.ErrRange}, {0, 1, 0, api.ErrRange}, {1, 0, 0, api.ErrRange}, {49, 1, 49, api.ErrRange}, {1, 49, 49, api.ErrRange}, {-2, -2, 4, api.ErrRange}, {-1, 5, 5, api.ErrRange}, {5, -1, 5, api.ErrRange}, {49, 48, 0, api.ErrRange}, {48, 0, 7, api.ErrRange},
		{6, 4, 23, api.ErrArg}, {6, 4, 25, api.ErrArg}, {1, 1, 0, api.ErrArg}, {48, 48, 0, api.ErrArg}, {48, 48, 2305, api.ErrArg},
	} {
		f := api.SnFrame{Wide: c.wide, High: c.high, Pixels: make([]byte, c.pixels)}
		if e := Check(f); e != c.e {
			t.Errorf("%d: Check = %d; want %d", i, e, c.e)
		}
		if e := ofFrame(f); e != [7]api.Errno{c.e, c.e, c.e, c.e, c.e, c.e, c.e} {
			t.Errorf("%d: %v; want %d", i, e, c.e)
		}
	}
}

// P7.1: the error of a list of frames, in Flicker and Write.
func TestCheckLists(t *testing.T) {
	a, small, bad, short := example(), frame(1, 5), api.SnFrame{Wide: 49, High: 1}, api.SnFrame{Wide: 6, High: 4}
	for i, c := range []struct {
		l []api.SnFrame
		e api.Errno
	}{
		{frames(a), api.OK}, {slices.Repeat(frames(a), 24), api.OK},
		{nil, api.ErrLong}, {frames(), api.ErrLong}, {slices.Repeat(frames(a), 25), api.ErrLong}, {slices.Repeat(frames(bad), 25), api.ErrLong}, {append(slices.Repeat(frames(a), 24), small), api.ErrLong},
		{frames(bad), api.ErrRange}, {frames(short), api.ErrArg}, {frames(a, a, bad), api.ErrRange}, {frames(a, a, short), api.ErrArg},
		// Another size, which the same number of pixels can have.
		{frames(a, small), api.ErrArg}, {frames(a, a, frame(4, a.Pixels...)), api.ErrArg}, {frames(frame(2, 1, 2), frame(2, 1, 2, 3, 4)), api.ErrArg}, {frames(frame(2, 1, 2, 3, 4), frame(1, 1, 2)), api.ErrArg},
		// The first one with an error decides, and of one its own error comes first.
		{frames(a, small, bad), api.ErrArg}, {frames(a, bad, small), api.ErrRange}, {frames(bad, short), api.ErrRange}, {frames(short, bad), api.ErrArg},
	} {
		exposures, wrong, flicker := Flicker(c.l, area(0, 0, 0, 0))
		b, write := Write(c.l)
		if flicker != c.e || write != c.e {
			t.Errorf("%d: Flicker: %d; Write: %d; want %d", i, flicker, write, c.e)
		}
		if c.e != api.OK && (exposures != nil || wrong != nil || b != nil) {
			t.Errorf("%d: Flicker = %v, %v; Write = %v", i, exposures, wrong, b)
		}
	}
}

// P7.1: any frames are the same if their sides and all their pixels are.
func TestSame(t *testing.T) {
	other := example()
	other.Pixels[23]++
	for i, c := range []struct {
		a, b api.SnFrame
		same bool
	}{
		{example(), example(), true}, {example(), moved(), false}, {example(), other, false}, {frame(2, 1, 2, 3, 4), frame(4, 1, 2, 3, 4), false},
		{frame(2, 1, 2, 3, 4), api.SnFrame{Wide: 2, High: 1, Pixels: []byte{1, 2, 3, 4}}, false}, {frame(2, 1, 2, 3, 4), api.SnFrame{Wide: 1, High: 2, Pixels: []byte{1, 2, 3, 4}}, false},
		{frame(2, 1, 2), api.SnFrame{Wide: 2, High: 1, Pixels: []byte{1}}, false}, {frame(2, 1, 2), api.SnFrame{Wide: 2, High: 1, Pixels: []byte{1, 2, 3}}, false},
		{api.SnFrame{}, api.SnFrame{Pixels: []byte{}}, true}, {api.SnFrame{}, api.SnFrame{Wide: 1}, false}, {api.SnFrame{Wide: -5, High: 99}, api.SnFrame{Wide: -5, High: 99}, true}, {api.SnFrame{Wide: -5, High: 99}, api.SnFrame{Wide: -5, High: 98}, false},
	} {
		if Same(c.a, c.b) != c.same || Same(c.b, c.a) != c.same {
			t.Errorf("%d: Same of %v and %v = %t", i, c.a, c.b, !c.same)
		}
	}
}

// P7.2: Move, pixel by pixel, and by as much as there is.
func TestMove(t *testing.T) {
	f := frame(3, 1, 2, 3, 4, 5, 6)
	for _, c := range []struct {
		x, y int
		want api.SnFrame
	}{
		{0, 0, f}, {1, 0, frame(3, 9, 1, 2, 9, 4, 5)}, {-1, 0, frame(3, 2, 3, 9, 5, 6, 9)}, {0, 1, frame(3, 9, 9, 9, 1, 2, 3)}, {0, -1, frame(3, 4, 5, 6, 9, 9, 9)}, {2, 1, frame(3, 9, 9, 9, 9, 9, 1)}, {-2, -1, frame(3, 6, 9, 9, 9, 9, 9)}, {1, -1, frame(3, 9, 4, 5, 9, 9, 9)},
		{3, 0, plain(3, 2, 9)}, {0, 2, plain(3, 2, 9)}, {12, 12, plain(3, 2, 9)}, {-12, -12, plain(3, 2, 9)}, {12, -12, plain(3, 2, 9)},
	} {
		expectMove(t, f, c.x, c.y, 9, c.want, api.OK)
	}
	for _, far := range []int{13, -13, 1 << 40, -1 << 40} {
		expectMove(t, f, far, 0, 9, api.SnFrame{}, api.ErrRange)
		expectMove(t, f, 0, far, 9, api.SnFrame{}, api.ErrRange)
		expectMove(t, api.SnFrame{Wide: 1, High: 1}, far, far, 9, api.SnFrame{}, api.ErrArg)
	}
	wide := frame(48, make([]byte, 48*48)...)
	wide.Pixels[0] = 200
	want := frame(48, make([]byte, 48*48)...)
	want.Pixels[12*48+12] = 200
	expectMove(t, wide, 12, 12, 0, want, api.OK)
}
