package scan

import (
	"cmp"
	"slices"
	"sort"
	"testing"

	"telecine/api"
)

// pixelAt returns a pixel that a frame has.
func pixelAt(f api.SnFrame, x, y int) int { return int(f.Pixels[y*f.Wide+x]) }

// slowMove puts each pixel where it belongs into a frame that is filled.
func slowMove(f api.SnFrame, x, y int, fill byte) api.SnFrame {
	out := plain(f.Wide, f.High, fill)
	for b := range f.High {
		for a := range f.Wide {
			if within(a+x, 0, f.Wide-1) && within(b+y, 0, f.High-1) {
				out.Pixels[(b+y)*f.Wide+a+x] = f.Pixels[b*f.Wide+a]
			}
		}
	}
	return out
}

// slowDiffers returns the sum of a shift; it is not ok if the window does not stay within the frame.
func slowDiffers(first, f api.SnFrame, w api.SnArea, x, y int) (sum int, ok bool) {
	if w.X.Lo+x < 0 || w.X.Hi+x >= f.Wide || w.Y.Lo+y < 0 || w.Y.Hi+y >= f.High {
		return 0, false
	}
	for b := w.Y.Lo; b <= w.Y.Hi; b++ {
		for a := w.X.Lo; a <= w.X.Hi; a++ {
			here, there := pixelAt(first, a, b), pixelAt(f, a+x, b+y)
			sum += max(here, there) - min(here, there)
		}
	}
	return sum, true
}

// slowSteady sorts all shifts.
func slowSteady(first, f api.SnFrame, w api.SnArea, reach int) api.SnShift {
	var all []api.SnShift
	for x := -reach; x <= reach; x++ {
		for y := -reach; y <= reach; y++ {
			if sum, ok := slowDiffers(first, f, w, x, y); ok {
				all = append(all, api.SnShift{X: x, Y: y, Sum: sum})
			}
		}
	}
	far := func(s api.SnShift) int { return max(s.X, -s.X) + max(s.Y, -s.Y) }
	slices.SortStableFunc(all, func(s, t api.SnShift) int { return cmp.Compare(s.X, t.X) })
	slices.SortStableFunc(all, func(s, t api.SnShift) int { return cmp.Compare(s.Y, t.Y) })
	slices.SortStableFunc(all, func(s, t api.SnShift) int { return cmp.Compare(far(s), far(t)) })
	slices.SortStableFunc(all, func(s, t api.SnShift) int { return cmp.Compare(s.Sum, t.Sum) })
	return all[0]
}

// levelOf returns the level of a light at an exposure.
func levelOf(light, exposure int) int { return min(light*exposure/1000000, 255) }

// slowLights returns the lights that shots allow, by looking at the levels of lights alone; they are a span, since more light never has a lesser level.
func slowLights(l []api.SnShot) api.Span {
	s := span(0, 10000000)
	for _, x := range l {
		least := sort.Search(10000001, func(light int) bool { return levelOf(light, x.Exposure) >= x.Level })
		above := sort.Search(10000001, func(light int) bool { return levelOf(light, x.Exposure) > x.Level })
		s = span(max(s.Lo, least), min(s.Hi, above-1))
	}
	return s
}

// slowLight looks at ever more shots, until they allow nothing.
func slowLight(l []api.SnShot) (api.Span, int) {
	for i := range l {
		if s := slowLights(l[:i+1]); s.Lo > s.Hi {
			return api.Span{}, i
		}
	}
	return slowLights(l), -1
}

// slowAllowed looks at all exposures for those that a pixel allows.
func slowAllowed(before, level int) (s api.Span, ok bool) {
	light := slowLights(shots(1000, before))
	least, most := 0, 0
	for x := 1; x <= 100000; x++ {
		if least == 0 && levelOf(light.Hi, x) >= level {
			least = x
		}
		if levelOf(light.Lo, x) <= level {
			most = x
		}
	}
	return span(least, most), least > 0
}

// slowFlicker looks at the pixels of a patch one after the other.
func slowFlicker(l []api.SnFrame, p api.SnArea) (all []api.Span, wrong []int) {
	for i, f := range l {
		s, possible := span(1, 100000), true
		for y := p.Y.Lo; y <= p.Y.Hi; y++ {
			for x := p.X.Lo; x <= p.X.Hi; x++ {
				allowed, ok := slowAllowed(pixelAt(l[0], x, y), pixelAt(f, x, y))
				possible = possible && ok
				s = span(max(s.Lo, allowed.Lo), min(s.Hi, allowed.Hi))
			}
		}
		switch {
		case i == 0:
			s = span(1000, 1000)
		case !possible || s.Lo > s.Hi:
			s = api.Span{}
			wrong = append(wrong, i)
		}
		all = append(all, s)
	}
	return all, wrong
}

// slowEven counts up to the level that is made of another one.
func slowEven(f api.SnFrame, exposure int) api.SnFrame {
	out := plain(f.Wide, f.High, 255)
	for i, p := range f.Pixels {
		if p == 255 {
			continue
		}
		level := 0
		for level < 255 && (level+1)*exposure <= 500*(2*int(p)+1) {
			level++
		}
		out.Pixels[i] = byte(level)
	}
	return out
}

// slowDust lets each pixel of dust grow.
func slowDust(f api.SnFrame, below, grow int) api.SnFrame {
	out := plain(f.Wide, f.High, 0)
	for y := range f.High {
		for x := range f.Wide {
			if pixelAt(f, x, y) >= below {
				continue
			}
			for b := max(0, y-grow); b <= min(f.High-1, y+grow); b++ {
				for a := max(0, x-grow); a <= min(f.Wide-1, x+grow); a++ {
					out.Pixels[b*f.Wide+a] = 255
				}
			}
		}
	}
	return out
}

// neighbours reports whether two pixels, by their numbers, are neighbours.
func neighbours(i, j, wide int) bool {
	return within(i%wide-j%wide, -1, 1) && within(i/wide-j/wide, -1, 1)
}

// slowBelong gives each pixel that is not 0 the least number of those with which it belongs together, by passing lesser ones on until there are none; others have -1.
func slowBelong(f api.SnFrame) []int {
	own := make([]int, len(f.Pixels))
	for i, p := range f.Pixels {
		own[i] = i
		if p == 0 {
			own[i] = -1
		}
	}
	for again := true; again; {
		again = false
		for i := range own {
			for _, away := range []int{-f.Wide - 1, -f.Wide, -f.Wide + 1, -1, 1, f.Wide - 1, f.Wide, f.Wide + 1} {
				j := i + away
				if own[i] >= 0 && within(j, 0, len(own)-1) && own[j] >= 0 && neighbours(i, j, f.Wide) && own[j] < own[i] {
					own[i], again = own[j], true
				}
			}
		}
	}
	return own
}

// slowSpots collects the pixels of each number.
func slowSpots(f api.SnFrame) (spots []api.SnSpot) {
	own := slowBelong(f)
	for first := range own {
		var xs, ys []int
		for i, n := range own {
			if n == first {
				xs, ys = append(xs, i%f.Wide), append(ys, i/f.Wide)
			}
		}
		if len(xs) > 0 {
			spots = append(spots, spot(slices.Min(xs), slices.Max(xs), slices.Min(ys), slices.Max(ys), len(xs)))
		}
	}
	return spots
}

// slowSum takes the bits of bytes one after the other, the highest first, as the rest of a division of polynomials.
func slowSum(b []byte) int {
	sum := 0xffff
	for i := range 8 * len(b) {
		bit := int(b[i/8]) >> (7 - i%8) & 1
		out := sum >> 15
		sum = sum << 1 & 0xffff
		if bit != out {
			sum ^= 0x1021
		}
	}
	return sum
}

// slowRow writes a row from the place x on.
func slowRow(row []byte, x int) []byte {
	begins := func(x int) bool { return x+2 < len(row) && row[x] == row[x+1] && row[x] == row[x+2] }
	if x == len(row) {
		return nil
	}
	end := x + 1
	if begins(x) {
		for end < len(row) && row[end] == row[x] {
			end++
		}
		return append([]byte{byte(128 + end - x), row[x]}, slowRow(row, end)...)
	}
	for end < len(row) && !begins(end) {
		end++
	}
	return slices.Concat([]byte{byte(end - x)}, row[x:end], slowRow(row, end))
}

// slowFile writes frames.
func slowFile(l []api.SnFrame) []byte {
	b := []byte{'S', 'N', byte(l[0].Wide), byte(l[0].High), byte(len(l))}
	for _, f := range l {
		for y := range f.High {
			b = append(b, slowRow(f.Pixels[y*f.Wide:(y+1)*f.Wide], 0)...)
		}
	}
	return signed(b...)
}

// P7.2: Move and Steady are as defined, on frames of all sizes.
func TestMovesAreAsDefined(t *testing.T) {
	d := dice(2)
	var far, zero int
	for range 1500 {
		wide, high := anySize(d, from(d, 1, 20))
		f := anyFrame(d, wide, high, from(d, 1, 5))
		g, x, y := anyFrame(d, wide, high, from(d, 1, 5)), from(d, -12, 12), from(d, -12, 12)
		if fill := byte(d.IntN(256)); d.IntN(2) == 0 {
			g, _ = Move(f, x, y, fill)
			expectMove(t, f, x, y, fill, slowMove(f, x, y, fill), api.OK)
		}
		window, reach := anyArea(d, wide, high), from(d, 0, 12)
		want := slowSteady(f, g, window, reach)
		expectSteady(t, f, g, window, reach, want, api.OK)
		if want.X != 0 || want.Y != 0 {
			far++
		}
		if want.Sum == 0 {
			zero++
		}
		if t.Failed() {
			t.FailNow()
		}
	}
	if far < 300 || zero < 150 {
		t.Errorf("far, with the sum 0: %d, %d", far, zero)
	}
}

// P7.3: Light is as defined, for shots that agree, nearly agree, or do not.
func TestLightIsAsDefined(t *testing.T) {
	d := dice(3)
	var right, wrong int
	for range 20000 {
		light := d.IntN(1 + 10000000>>d.IntN(14))
		var l []api.SnShot
		for range d.IntN(17) {
			exposure := 1 + d.IntN(100000>>d.IntN(12))
			level := levelOf(light, exposure)
			if d.IntN(20) == 0 {
				level = min(255, max(0, level+from(d, -1, 1)))
			}
			l = append(l, api.SnShot{Exposure: exposure, Level: level})
		}
		s, at := slowLight(l)
		expectLight(t, l, s, at)
		if at < 0 {
			right++
		} else {
			wrong++
		}
		if t.Failed() {
			t.FailNow()
		}
	}
	if right < 5000 || wrong < 1000 {
		t.Errorf("right, wrong: %d, %d", right, wrong)
	}
}

// P7.3: the lights of a shot are those, of all that there are, that have its level.
func TestLightsAreAll(t *testing.T) {
	for _, x := range shots(1000, 100, 3, 29, 26, 255, 700, 0, 100000, 255, 99999, 254) {
		var all []int
		for light := range api.MaxSnLight + 1 {
			if levelOf(light, x.Exposure) == x.Level {
				all = append(all, light)
			}
		}
		want := span(all[0], all[len(all)-1])
		if want.Hi-want.Lo+1 != len(all) {
			t.Errorf("the lights of %v are no span", x)
		}
		expectLight(t, []api.SnShot{x}, want, -1)
	}
}

// P7.4: Flicker is as defined, for levels that agree, nearly agree, or do not.
func TestFlickerIsAsDefined(t *testing.T) {
	d := dice(4)
	var right, wrong int
	for range 1000 {
		wide, high := anySize(d, 3)
		l := frames(anyFrame(d, wide, high, 255))
		for range d.IntN(3) {
			f := plain(wide, high, 0)
			exposure := 1 + d.IntN(1<<from(d, 6, 12))
			for i, p := range l[0].Pixels {
				f.Pixels[i] = byte(levelOf(int(p)*1000+500, exposure))
				if d.IntN(8) == 0 {
					f.Pixels[i] += byte(from(d, -3, 3))
				}
			}
			l = append(l, f)
		}
		patch := anyArea(d, wide, high)
		exposures, struck := slowFlicker(l, patch)
		expectFlicker(t, l, patch, exposures, struck...)
		right += len(l) - 1 - len(struck)
		wrong += len(struck)
		if t.Failed() {
			t.FailNow()
		}
	}
	if right < 500 || wrong < 40 {
		t.Errorf("right, wrong: %d, %d", right, wrong)
	}
}

// P7.4: Even is as defined, for all levels.
func TestEvenIsAsDefined(t *testing.T) {
	d := dice(5)
	f := plain(16, 16, 0)
	for i := range f.Pixels {
		f.Pixels[i] = byte(i)
	}
	for range 2000 {
		exposure := 1 + d.IntN(1<<from(d, 0, 16))
		expectEven(t, f, exposure, slowEven(f, exposure))
		if t.Failed() {
			t.FailNow()
		}
	}
}

// P7.5: Dust and Spots are as defined, on frames of all sizes.
func TestDustIsAsDefined(t *testing.T) {
	d := dice(6)
	var spots int
	for range 800 {
		wide, high := anySize(d, from(d, 1, 30))
		f := anyFrame(d, wide, high, from(d, 1, 12))
		below, grow := from(d, 0, 256), max(0, from(d, -4, 12))
		mask := slowDust(f, below, grow)
		expectDust(t, f, below, grow, mask)
		expectSpots(t, mask, slowSpots(mask)...)
		expectSpots(t, f, slowSpots(f)...)
		sparse := slowDust(f, 30, 0)
		all := slowSpots(sparse)
		expectSpots(t, sparse, all...)
		spots += len(all)
		if t.Failed() {
			t.FailNow()
		}
	}
	if spots < 1000 {
		t.Errorf("spots: %d", spots)
	}
}

// P7.6: Sum and Write are as defined.
func TestFilesAreAsDefined(t *testing.T) {
	d := dice(7)
	for range 2000 {
		b := make([]byte, d.IntN(50))
		for i := range b {
			b[i] = byte(d.Uint32())
		}
		if Sum(b) != slowSum(b) {
			t.Fatalf("Sum of %v = %d; want %d", b, Sum(b), slowSum(b))
		}
		l := anyFrames(d, 48)
		got, e := Write(l)
		if !slices.Equal(got, slowFile(l)) || e != api.OK {
			t.Fatalf("Write of %v = %v, %d; want %v", l, got, e, slowFile(l))
		}
	}
}

// P7.7: of all at most four bytes of an alphabet behind the beginning, with their checks, just those are files that Write returns for a frame of this size.
func TestReadOfAllBytes(t *testing.T) {
	alphabet := []byte{0, 1, 2, 3, 4, 5, 127, 128, 129, 130, 131, 132, 133}
	for _, size := range [][2]byte{{1, 1}, {2, 1}, {3, 1}, {4, 1}, {1, 2}} {
		wide := int(size[0])
		var found int
		var read func(b []byte, more int)
		read = func(b []byte, more int) {
			l, e := Read(signed(b...))
			if e == api.OK && (len(l) != 1 || !slices.Equal(slowFile(l), signed(b...))) || e != api.OK && (e != api.ErrForm || l != nil) {
				t.Fatalf("Read of %v = %v, %d", b, l, e)
			}
			if e == api.OK {
				found++
			}
			for _, x := range alphabet {
				if more > 0 {
					read(append(slices.Clip(b), x), more-1)
				}
			}
		}
		read([]byte{83, 78, size[0], size[1], 1}, 4)
		// Each row that is written with at most as many bytes is there.
		want := 0
		var row func(pixels []byte)
		row = func(pixels []byte) {
			if len(pixels) == wide*int(size[1]) {
				if len(slowFile(frames(frame(wide, pixels...)))) <= 11 {
					want++
				}
				return
			}
			for _, x := range alphabet {
				row(append(slices.Clip(pixels), x))
			}
		}
		row(nil)
		if found != want || want == 0 {
			t.Errorf("of %v %d are files; want %d", size, found, want)
		}
	}
}
