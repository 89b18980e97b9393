package scan

import (
	"bytes"
	"math/rand/v2"
	"slices"
	"testing"

	"telecine/api"
)

// anyFrames returns a list of frames of the same size without an error.
func anyFrames(d *rand.Rand, most int) (l []api.SnFrame) {
	wide, high := anySize(d, from(d, 1, most))
	count, levels := 1, from(d, 1, 255)
	for count < api.MaxSnFrames && d.IntN(3) > 0 {
		count++
	}
	for range count {
		l = append(l, anyFrame(d, wide, high, levels))
	}
	return l
}

// anyLight returns a light; lesser ones come as often as greater ones.
func anyLight(d *rand.Rand) int {
	if d.IntN(8) == 0 {
		return d.IntN(2) * api.MaxSnLight
	}
	return d.IntN(1 + api.MaxSnLight>>d.IntN(16))
}

// anyExposure returns an exposure; lesser ones come as often as greater ones.
func anyExposure(d *rand.Rand) int { return 1 + d.IntN(api.MaxSnTimes>>d.IntN(14)) }

// takenAt returns a frame with the levels of some lights at an exposure.
func takenAt(wide int, lights []int, exposure int) api.SnFrame {
	var pixels []byte
	for _, n := range lights {
		pixels = append(pixels, byte(levelOf(n, exposure)))
	}
	return frame(wide, pixels...)
}

// P7.8: moving, and then back, gives the same pixels wherever they stayed; moving twice to the same side is moving by the sum.
func TestMoved(t *testing.T) {
	d := dice(8)
	var stayed int
	for range 1500 {
		wide, high := anySize(d, 48)
		f := anyFrame(d, wide, high, 255)
		x, y := from(d, -12, 12), from(d, -12, 12)
		g, e := Move(f, x, y, 1)
		back, b := Move(g, -x, -y, 2)
		if e != api.OK || b != api.OK {
			t.Fatalf("Move by %d, %d: %d, and back %d", x, y, e, b)
		}
		for i, p := range f.Pixels {
			if in := within(i%wide+x, 0, wide-1) && within(i/wide+y, 0, high-1); in && back.Pixels[i] != p || !in && back.Pixels[i] != 2 {
				t.Fatalf("Move by %d, %d, and back, of %v = %v", x, y, f, back)
			} else if in {
				stayed++
			}
		}
		// The same signs, and together at most as far as the reach.
		part := func(n int) int { return n * d.IntN(5) / 4 }
		a, c := part(x), part(y)
		once, _ := Move(f, a, c, 7)
		twice, e := Move(once, x-a, y-c, 7)
		expectMove(t, f, x, y, 7, twice, e)
		if t.Failed() {
			t.FailNow()
		}
	}
	if stayed < 1000 {
		t.Errorf("stayed: %d", stayed)
	}
}

// P7.9: no shift differs by less than the best one, and a window that was moved within the frame is found, and moved back.
func TestSteady(t *testing.T) {
	d := dice(9)
	var found, other int
	for range 1500 {
		wide, high := anySize(d, 48)
		first := anyFrame(d, wide, high, from(d, 1, 9))
		reach := from(d, 0, 12)
		x, y := from(d, -reach, reach), from(d, -reach, reach)
		f, _ := Move(first, x, y, byte(d.Uint32()))
		window := anyArea(d, wide, high)
		s, e := Steady(first, f, window, reach)
		if e != api.OK || !within(s.X, -reach, reach) || !within(s.Y, -reach, reach) {
			t.Fatalf("Steady in %v with %d = %v, %d", window, reach, s, e)
		}
		if sum, ok := slowDiffers(first, f, window, s.X, s.Y); !ok || sum != s.Sum {
			t.Fatalf("Steady in %v with %d = %v; it differs by %d, %t", window, reach, s, sum, ok)
		}
		if sum, ok := slowDiffers(first, f, window, from(d, -reach, reach), from(d, -reach, reach)); ok && sum < s.Sum {
			t.Fatalf("Steady in %v with %d = %v; another one differs by %d", window, reach, s, sum)
		}
		if _, in := slowDiffers(first, f, window, x, y); !in {
			continue
		}
		back, _ := Move(f, -s.X, -s.Y, 0)
		for b := window.Y.Lo; b <= window.Y.Hi; b++ {
			for a := window.X.Lo; a <= window.X.Hi; a++ {
				if s.Sum != 0 || pixelAt(back, a, b) != pixelAt(first, a, b) {
					t.Fatalf("Steady in %v with %d, of a frame that was moved by %d, %d, = %v", window, reach, x, y, s)
				}
			}
		}
		found++
		if s.X != x || s.Y != y {
			other++
		}
	}
	if found < 300 || other < 50 {
		t.Errorf("found, other: %d, %d", found, other)
	}
}

// P7.10: any light at any exposures is in the span, and further shots make it no wider.
func TestLightIsThere(t *testing.T) {
	d := dice(10)
	var narrow int
	for range 20000 {
		light := anyLight(d)
		var l []api.SnShot
		last := span(0, api.MaxSnLight)
		for range api.MaxSnShots {
			exposure := anyExposure(d)
			l = append(l, api.SnShot{Exposure: exposure, Level: levelOf(light, exposure)})
			s, wrong, e := Light(l)
			if !within(light, s.Lo, s.Hi) || s.Lo < last.Lo || s.Hi > last.Hi || wrong != -1 || e != api.OK {
				t.Fatalf("Light of %v, by the light %d, = %v, %d, %d; before it was %v", l, light, s, wrong, e, last)
			}
			last = s
		}
		if last.Hi-last.Lo < 1000 {
			narrow++
		}
	}
	if narrow < 1000 {
		t.Errorf("narrow: %d", narrow)
	}
}

// P7.11: with any lights in a patch, and any exposures, no frame contradicts the first one, and each exposure is there.
func TestFlickerIsThere(t *testing.T) {
	d := dice(11)
	var narrow int
	for range 3000 {
		wide, high := anySize(d, 12)
		patch := anyArea(d, wide, high)
		lights := make([]int, wide*high)
		for i := range lights {
			lights[i] = anyLight(d)
		}
		exposures := []int{1000}
		l := frames(takenAt(wide, lights, 1000))
		for range d.IntN(24) {
			x := anyExposure(d)
			exposures, l = append(exposures, x), append(l, takenAt(wide, lights, x))
			// Outside of the patch the light can be another one.
			for i := range l[len(l)-1].Pixels {
				if !within(i%wide, patch.X.Lo, patch.X.Hi) || !within(i/wide, patch.Y.Lo, patch.Y.Hi) {
					l[len(l)-1].Pixels[i] = byte(d.Uint32())
				}
			}
		}
		spans, wrong, e := Flicker(l, patch)
		if len(spans) != len(l) || wrong != nil || e != api.OK || spans[0] != span(1000, 1000) {
			t.Fatalf("Flicker of %d frames in %v = %v, %v, %d", len(l), patch, spans, wrong, e)
		}
		for i, s := range spans {
			if !within(exposures[i], s.Lo, s.Hi) || s.Lo < 1 || s.Hi > api.MaxSnTimes {
				t.Fatalf("Flicker: the frame %d has %v; it was taken with %d", i, s, exposures[i])
			}
			if i > 0 && s.Hi-s.Lo < 1+exposures[i]/10 {
				narrow++
			}
		}
	}
	if narrow < 1000 {
		t.Errorf("narrow: %d", narrow)
	}
}

// P7.12: what is made even differs from the light by no more than it says.
func TestEvenIsNear(t *testing.T) {
	d := dice(12)
	var below int
	for range 3000 {
		wide, high := anySize(d, 12)
		lights := make([]int, wide*high)
		for i := range lights {
			lights[i] = anyLight(d)
		}
		exposure := anyExposure(d)
		taken := takenAt(wide, lights, exposure)
		even, e := Even(taken, exposure)
		for i, n := range lights {
			whole := min(n/1000, 255)
			off := int(even.Pixels[i]) - whole
			if taken.Pixels[i] < 255 && !within(off, -1-500/exposure, 1+500/exposure) || taken.Pixels[i] == 255 && even.Pixels[i] != 255 || e != api.OK {
				t.Fatalf("Even: the light %d, taken with %d as %d, becomes %d, %d", n, exposure, taken.Pixels[i], even.Pixels[i], e)
			}
			if taken.Pixels[i] < 255 && whole > 0 && whole < 255 {
				below++
			}
		}
	}
	if below < 10000 {
		t.Errorf("below: %d", below)
	}
}

// P7.13: a mask with a greater limit, or more pixels to grow, has all pixels of the mask.
func TestMoreDust(t *testing.T) {
	d := dice(13)
	var more int
	for range 1000 {
		wide, high := anySize(d, 30)
		f := anyFrame(d, wide, high, from(d, 1, 255))
		below, grow := from(d, 0, 256), from(d, 0, 12)
		mask, _ := Dust(f, below, grow)
		for _, other := range [][2]int{{from(d, below, 256), grow}, {below, from(d, grow, 12)}} {
			greater, e := Dust(f, other[0], other[1])
			for i, p := range mask.Pixels {
				if p != 0 && greater.Pixels[i] != 255 || e != api.OK {
					t.Fatalf("Dust of %v below %d, grow %d has a pixel that below %d, grow %d has not: %d", f, below, grow, other[0], other[1], e)
				}
			}
			if !alikeFrames(greater, mask) {
				more++
			}
		}
	}
	if more < 200 {
		t.Errorf("more: %d", more)
	}
}

// P7.13: each pixel that is not 0 is in one spot, in its area, no spots are neighbours, and an area is no greater than its spot.
func TestAllSpots(t *testing.T) {
	d := dice(14)
	var several int
	for range 1500 {
		wide, high := anySize(d, from(d, 1, 48))
		f := anyFrame(d, wide, high, from(d, 1, 255))
		mask, _ := Dust(f, from(d, 0, 100), d.IntN(2))
		spots, e := Spots(mask)
		if e != api.OK {
			t.Fatalf("Spots of %v: %d", mask, e)
		}
		own := slowBelong(mask)
		left := make([]int, len(spots))
		for i, s := range spots {
			left[i] = s.Pixels
		}
		var firsts []int
		for i, n := range own {
			if n < 0 {
				continue
			}
			if n == i {
				firsts = append(firsts, i)
			}
			at := slices.Index(firsts, n)
			if at < 0 || at >= len(spots) || !within(i%wide, spots[at].Area.X.Lo, spots[at].Area.X.Hi) || !within(i/wide, spots[at].Area.Y.Lo, spots[at].Area.Y.Hi) {
				t.Fatalf("Spots of %v = %v: the pixel %d is in none", mask, spots, i)
			}
			left[at]--
		}
		if len(firsts) != len(spots) || slices.ContainsFunc(left, func(n int) bool { return n != 0 }) {
			t.Fatalf("Spots of %v = %v: not as many pixels as there are", mask, spots)
		}
		if len(spots) > 1 {
			several++
		}
	}
	if several < 300 {
		t.Errorf("several: %d", several)
	}
}

// P7.14: what is written is read back, and what is read is written in the same way.
func TestFilesAreReadBack(t *testing.T) {
	d := dice(15)
	for range 1500 {
		l := anyFrames(d, 48)
		b, e := Write(l)
		back, f := Read(b)
		again, g := Write(back)
		if e != api.OK || f != api.OK || g != api.OK || !slices.EqualFunc(l, back, Same) || !bytes.Equal(b, again) {
			t.Fatalf("Write of %v = %v, %d; Read = %v, %d; Write = %v, %d", l, b, e, back, f, again, g)
		}
	}
}

// P7.14: what is read of bytes that were changed, with their right check, is written in the same way.
func TestChangedFiles(t *testing.T) {
	d := dice(16)
	var right, wrong int
	for range 30000 {
		l := anyFrames(d, 6)
		b, _ := Write(l)
		body := b[2 : len(b)-2]
		for range from(d, 1, 2) {
			at := d.IntN(len(body))
			switch d.IntN(3) {
			case 0:
				body[at] = byte(d.IntN(8) + d.IntN(2)*127)
			case 1:
				body = slices.Insert(body, at, byte(d.IntN(8)+d.IntN(2)*127))
			default:
				body = slices.Delete(slices.Clone(body), at, at+1)
			}
			if len(body) == 0 {
				break
			}
		}
		b = signed(append([]byte("SN"), body...)...)
		back, e := Read(b)
		switch e {
		case api.OK:
			if again, e := Write(back); !bytes.Equal(b, again) || e != api.OK {
				t.Fatalf("Read of %v = %v, and Write of it %v, %d", b, back, again, e)
			}
			right++
		case api.ErrForm:
			wrong++
		default:
			t.Fatalf("Read of %v = %v, %d", b, back, e)
		}
	}
	if right < 1000 || wrong < 1000 {
		t.Errorf("right, wrong: %d, %d", right, wrong)
	}
}

// P7.14: if one byte is another one, whichever, Read returns an error.
func TestOneOtherByte(t *testing.T) {
	d := dice(17)
	refused := func(b []byte, at int, other byte) {
		want := api.SnErrSum
		if at < 2 {
			want = api.ErrForm
		}
		own := b[at]
		b[at] = other
		if l, e := Read(b); l != nil || e != want {
			t.Fatalf("Read of %v, with another byte %d, = %v, %d", b, at, l, e)
		}
		b[at] = own
	}
	b, _ := Write(frames(example()))
	for at := range b {
		for n := range 255 {
			refused(b, at, b[at]+byte(n)+1)
		}
	}
	for range 300 {
		b, _ := Write(anyFrames(d, 48))
		for range 20 {
			at := d.IntN(len(b))
			refused(b, at, b[at]+byte(from(d, 1, 255)))
		}
	}
}
