package scan

import (
	"slices"
	"testing"

	"telecine/api"
)

// spot returns the spot with this area and so many pixels.
func spot(left, right, top, low, pixels int) api.SnSpot {
	return api.SnSpot{Area: area(left, right, top, low), Pixels: pixels}
}

// expectDust checks what Dust returns without an error.
func expectDust(t *testing.T, f api.SnFrame, below, grow int, want api.SnFrame) {
	t.Helper()
	if g, e := Dust(f, below, grow); !alikeFrames(g, want) || e != api.OK {
		t.Errorf("Dust of %v below %d, grow %d = %v, %d; want %v", f, below, grow, g, e, want)
	}
}

// expectSpots checks what Spots returns without an error.
func expectSpots(t *testing.T, mask api.SnFrame, want ...api.SnSpot) {
	t.Helper()
	if l, e := Spots(mask); !slices.Equal(l, want) || e != api.OK {
		t.Errorf("Spots of %v = %v, %d; want %v", mask, l, e, want)
	}
}

// drawn returns a mask of rows of the same width: a point is 0, a hash is 255, and a plus any other level.
func drawn(rows ...string) api.SnFrame {
	f := api.SnFrame{Wide: len(rows[0]), High: len(rows)}
	for i, row := range rows {
		for _, r := range row {
			f.Pixels = append(f.Pixels, map[rune]byte{'.': 0, '#': 255, '+': byte(1 + i)}[r])
		}
	}
	return f
}

// P7.5: Dust, by limits and by pixels to grow.
func TestDust(t *testing.T) {
	f := frame(4, 9, 1, 9, 9, 9, 9, 9, 9, 9, 9, 9, 2)
	expectDust(t, f, 0, 12, drawn("....", "....", "...."))
	expectDust(t, f, 1, 12, drawn("....", "....", "...."))
	expectDust(t, f, 2, 0, drawn(".#..", "....", "...."))
	expectDust(t, f, 3, 0, drawn(".#..", "....", "...#"))
	expectDust(t, f, 9, 0, drawn(".#..", "....", "...#"))
	expectDust(t, f, 10, 0, drawn("####", "####", "####"))
	expectDust(t, f, 2, 1, drawn("###.", "###.", "...."))
	expectDust(t, f, 3, 1, drawn("###.", "####", "..##"))
	expectDust(t, f, 2, 2, drawn("####", "####", "####"))
	expectDust(t, frame(3, 0, 254, 255), 255, 0, drawn("##."))
	expectDust(t, frame(3, 0, 254, 255), 256, 0, drawn("###"))
	expectDust(t, frame(3, 0, 254, 255), 254, 0, drawn("#.."))
	// A pixel in the middle grows to each side alike, and outside of the frame there is no dust.
	dot := plain(5, 5, 200)
	dot.Pixels[12] = 0
	expectDust(t, dot, 200, 0, drawn(".....", ".....", "..#..", ".....", "....."))
	expectDust(t, dot, 200, 1, drawn(".....", ".###.", ".###.", ".###.", "....."))
	expectDust(t, dot, 200, 2, drawn("#####", "#####", "#####", "#####", "#####"))
	expectDust(t, plain(5, 5, 255), 255, 12, plain(5, 5, 0))
	line := plain(48, 1, 255)
	line.Pixels[30] = 0
	want := plain(48, 1, 0)
	for x := 18; x <= 42; x++ {
		want.Pixels[x] = 255
	}
	expectDust(t, line, 1, 12, want)
}

// P7.5: the errors of Dust, and which one comes first.
func TestDustErrors(t *testing.T) {
	for i, c := range []struct {
		f           api.SnFrame
		below, grow int
		e           api.Errno
	}{
		{example(), 0, 0, api.OK}, {example(), 256, 12, api.OK}, {example(), -1, 0, api.ErrRange}, {example(), 257, 0, api.ErrRange}, {example(), 0, -1, api.ErrRange}, {example(), 0, 13, api.ErrRange},
		{api.SnFrame{Wide: 1, High: 1}, -1, 13, api.ErrArg}, {api.SnFrame{Wide: 1}, 0, 0, api.ErrRange},
	} {
		f, e := Dust(c.f, c.below, c.grow)
		if e != c.e || e != api.OK && !alikeFrames(f, api.SnFrame{}) {
			t.Errorf("%d: Dust = %v, %d; want %d", i, f, e, c.e)
		}
	}
}

// P7.5: spots are linked by neighbours at sides and at corners, whatever their levels, and stand in the order of their first pixels.
func TestSpots(t *testing.T) {
	expectSpots(t, drawn("..."))
	expectSpots(t, drawn("."))
	expectSpots(t, drawn("+"), spot(0, 0, 0, 0, 1))
	expectSpots(t, example(), spot(0, 5, 1, 3, 12))
	expectSpots(t, drawn("+.+.#", "...#.", "#+..."), spot(0, 0, 0, 0, 1), spot(2, 4, 0, 1, 3), spot(0, 1, 2, 2, 2))
	// Neighbours in all eight directions, and pixels two away, which are none.
	expectSpots(t, drawn("#.#", ".#.", "#.#"), spot(0, 2, 0, 2, 5))
	expectSpots(t, drawn(".#.", "###", ".#."), spot(0, 2, 0, 2, 5))
	expectSpots(t, drawn("#.#", "...", "#.#"), spot(0, 0, 0, 0, 1), spot(2, 2, 0, 0, 1), spot(0, 0, 2, 2, 1), spot(2, 2, 2, 2, 1))
	// Two ends of a row are not neighbours, though their numbers are.
	expectSpots(t, drawn("..#", "#.."), spot(2, 2, 0, 0, 1), spot(0, 0, 1, 1, 1))
	expectSpots(t, drawn("...#", "#...", "...#"), spot(3, 3, 0, 0, 1), spot(0, 0, 1, 1, 1), spot(3, 3, 2, 2, 1))
	// The first pixel decides, also if the spot has others to the left, or above.
	expectSpots(t, drawn("...#", "#.#.", "#+.."), spot(0, 3, 0, 2, 5))
	expectSpots(t, drawn("..#.", "#..#", "#.#."), spot(2, 3, 0, 2, 3), spot(0, 0, 1, 2, 2))
	expectSpots(t, drawn(".#.#.", "#...#", "#.+.#"), spot(0, 1, 0, 2, 3), spot(3, 4, 0, 2, 3), spot(2, 2, 2, 2, 1))
	expectSpots(t, drawn("#####", "#...#", "#.+.#", "#...#", "#####"), spot(0, 4, 0, 4, 16), spot(2, 2, 2, 2, 1))
	expectSpots(t, drawn("#.#.#", "#.#.#", "###.#", "....#", "#####"), spot(0, 2, 0, 2, 7), spot(0, 4, 0, 4, 9))
}

// P7.5: spots as large as there can be, along one line that winds through the mask too, and as many.
func TestSpotsLarge(t *testing.T) {
	expectSpots(t, plain(48, 48, 1), spot(0, 47, 0, 47, 2304))
	winding, dots := plain(48, 48, 0), plain(48, 48, 0)
	var want []api.SnSpot
	pixels := 0
	for i := range winding.Pixels {
		x, y := i%48, i/48
		if y%2 == 0 || y%4 == 1 && x == 47 || y%4 == 3 && x == 0 {
			winding.Pixels[i] = 9
			pixels++
		}
		if x%2 == 0 && y%2 == 0 {
			dots.Pixels[i] = 9
			want = append(want, spot(x, x, y, y, 1))
		}
	}
	expectSpots(t, winding, spot(0, 47, 0, 47, pixels))
	expectSpots(t, dots, want...)
}
