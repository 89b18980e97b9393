package sound

import (
	"slices"
	"testing"

	"telecine/api"
)

// expectTrack checks what Track returns without an error.
func expectTrack(t *testing.T, f, mask api.SnFrame, kind int, want ...api.Span) {
	t.Helper()
	if l, e := Track(f, mask, kind); !slices.Equal(l, want) || e != api.OK {
		t.Errorf("Track of %v with %v, kind %d = %v, %d; want %v", f, mask, kind, l, e, want)
	}
}

// P9.1: the examples, and pixels, masks and sizes at both ends.
func TestTrack(t *testing.T) {
	f, mask := track()
	expectTrack(t, f, mask, api.SdArea, spans(1, 2, 2, 2, 0, 1)...)
	expectTrack(t, f, mask, api.SdDensity, spans(255, 510, 510, 510, 60, 315)...)
	expectTrack(t, f, plain(4, 3, 0), api.SdArea, spans(2, 2, 2, 2, 0, 0)...)
	expectTrack(t, f, plain(4, 3, 0), api.SdDensity, spans(455, 455, 510, 510, 100, 100)...)
	expectTrack(t, f, plain(4, 3, 1), api.SdArea, spans(0, 4, 0, 4, 0, 4)...)
	expectTrack(t, f, plain(4, 3, 255), api.SdDensity, spans(0, 1020, 0, 1020, 0, 1020)...)
	expectTrack(t, f, f, api.SdDensity, spans(0, 765, 0, 510, 0, 1020)...)
	expectTrack(t, frame(1, 127), frame(1, 0), api.SdArea, span(0, 0))
	expectTrack(t, frame(1, 128), frame(1, 0), api.SdArea, span(1, 1))
	expectTrack(t, frame(1, 128), frame(1, 128), api.SdArea, span(0, 1))
	expectTrack(t, frame(1, 127), frame(1, 0), api.SdDensity, span(127, 127))
	expectTrack(t, frame(1, 127), frame(1, 1), api.SdDensity, span(0, 255))
	// Higher than wide, and wider than high.
	expectTrack(t, frame(1, 1, 200, 3), frame(1, 0, 0, 9), api.SdDensity, spans(1, 1, 200, 200, 0, 255)...)
	expectTrack(t, frame(3, 1, 200, 3), frame(3, 0, 0, 9), api.SdDensity, span(201, 456))
	expectTrack(t, plain(48, 48, 255), plain(48, 48, 0), api.SdDensity, slices.Repeat(spans(12240, 12240), 48)...)
	expectTrack(t, plain(48, 48, 255), plain(48, 48, 1), api.SdArea, slices.Repeat(spans(0, 48), 48)...)
}

// P9.1: the errors of Track, and which one comes first.
func TestTrackErrors(t *testing.T) {
	f, mask := track()
	short, wide, none := sized(4, 3, 11), sized(49, 3, 147), api.SnFrame{}
	for i, c := range []struct {
		f, mask api.SnFrame
		kind    int
		e       api.Errno
	}{
		{f, mask, api.SdArea, api.OK}, {f, mask, 0, api.ErrArg}, {f, mask, 3, api.ErrArg}, {f, mask, -1, api.ErrArg}, {f, mask, 1 << 62, api.ErrArg},
		{f, sized(3, 4, 12), api.SdArea, api.ErrArg}, {f, sized(4, 4, 16), api.SdArea, api.ErrArg}, {f, sized(5, 3, 15), api.SdArea, api.ErrArg}, {f, sized(12, 1, 12), api.SdDensity, api.ErrArg},
		{none, mask, api.SdArea, api.ErrRange}, {wide, mask, api.SdArea, api.ErrRange}, {short, mask, api.SdArea, api.ErrArg}, {f, none, api.SdArea, api.ErrRange}, {f, wide, api.SdArea, api.ErrRange}, {f, short, api.SdArea, api.ErrArg},
		// The frame comes before its mask, and both before their sizes and the kind.
		{short, none, 0, api.ErrArg}, {none, short, 0, api.ErrRange}, {f, none, 0, api.ErrRange}, {f, short, 0, api.ErrArg}, {wide, f, 0, api.ErrRange},
	} {
		if l, e := Track(c.f, c.mask, c.kind); e != c.e || e != api.OK && l != nil {
			t.Errorf("%d: Track = %v, %d; want %d", i, l, e, c.e)
		}
	}
}

// P9.9: whatever the pixels under a mask are, the level of each row is in what Track returns; both its ends are levels.
func TestTrueLevels(t *testing.T) {
	d := dice(1)
	var open int
	for range 3000 {
		wide, high := from(d, 1, 12), from(d, 1, 12)
		f, mask := plain(wide, high, 0), plain(wide, high, 0)
		for i := range f.Pixels {
			f.Pixels[i] = byte(from(d, 0, 255))
			if d.IntN(6) == 0 {
				mask.Pixels[i] = byte(from(d, 0, 255))
			}
		}
		for _, kind := range []int{api.SdArea, api.SdDensity} {
			levels, e := Track(f, mask, kind)
			black, white := expose(f, mask, 0), expose(f, mask, 255)
			for range 3 {
				for i := range f.Pixels {
					if mask.Pixels[i] != 0 {
						f.Pixels[i] = byte(from(d, 0, 255))
					}
				}
				for y, s := range levels {
					n := slowLevel(f, kind, y)
					if e != api.OK || len(levels) != high || s != span(slowLevel(black, kind, y), slowLevel(white, kind, y)) || n < s.Lo || n > s.Hi {
						t.Fatalf("Track of %v with %v, kind %d = %v, %d; the row %d has %d", f, mask, kind, levels, e, y, n)
					}
					open += s.Hi - s.Lo
				}
			}
		}
	}
	if open < 10000 {
		t.Errorf("open: %d", open)
	}
}

// expose returns a frame whose pixels under a mask all have a level.
func expose(f, mask api.SnFrame, level byte) api.SnFrame {
	f.Pixels = slices.Clone(f.Pixels)
	for i, m := range mask.Pixels {
		if m != 0 {
			f.Pixels[i] = level
		}
	}
	return f
}

// slowLevel returns the level of a row of a track that is all sure.
func slowLevel(f api.SnFrame, kind, y int) (level int) {
	for i, p := range f.Pixels {
		switch {
		case i/f.Wide != y:
		case kind == api.SdDensity:
			level += int(p)
		case p > 127:
			level++
		}
	}
	return level
}
