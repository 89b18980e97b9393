package film

import (
	"math/big"
	"testing"

	"telecine/api"
)

// length returns a length.
func length(frames, micro, wrong int) api.FmLength {
	return api.FmLength{Frames: frames, Micro: micro, Error: wrong}
}

// P1.6: the parts that all lengths allow, and the first length that allows none of those left.
func TestShrink(t *testing.T) {
	for i, c := range []struct {
		gauge   int
		lengths []api.FmLength
		parts   api.Span
		wrong   int
	}{
		{35, nana().Lengths, api.Span{Lo: 47, Hi: 52}, -1},
		{35, append(nana().Lengths, length(100, 1895000, 0)), api.Span{}, 2},
		{35, nil, api.Span{Lo: 0, Hi: 500}, -1},
		{35, []api.FmLength{length(1, 1, 400000000)}, api.Span{Lo: 0, Hi: 500}, -1},
		{35, []api.FmLength{length(1, 19000, 0)}, api.Span{Lo: 0, Hi: 0}, -1},
		{35, []api.FmLength{length(1, 19001, 0)}, api.Span{}, 0},
		{35, []api.FmLength{length(1, 19001, 1)}, api.Span{Lo: 0, Hi: 0}, -1},
		{35, []api.FmLength{length(1, 18050, 0)}, api.Span{Lo: 500, Hi: 500}, -1},
		{35, []api.FmLength{length(1, 18049, 0)}, api.Span{}, 0},
		{35, []api.FmLength{length(1, 18049, 1)}, api.Span{Lo: 500, Hi: 500}, -1},
		// A part of one frame is 1.9 micrometres: not each length is that of a whole number of parts.
		{35, []api.FmLength{length(1, 18999, 0)}, api.Span{}, 0},
		{35, []api.FmLength{length(1, 18999, 1)}, api.Span{Lo: 0, Hi: 1}, -1},
		{35, []api.FmLength{length(10, 189981, 0)}, api.Span{Lo: 1, Hi: 1}, -1},
		{16, []api.FmLength{length(100, 754380, 0)}, api.Span{Lo: 100, Hi: 100}, -1},
		{16, []api.FmLength{length(100, 754380, 76)}, api.Span{Lo: 100, Hi: 100}, -1},
		{16, []api.FmLength{length(100, 754380, 77)}, api.Span{Lo: 99, Hi: 101}, -1},
		{8, []api.FmLength{length(100, 377190, 0)}, api.Span{Lo: 100, Hi: 100}, -1},
		// Each of two lengths allows parts, but none that the other one allows, in either order.
		{35, []api.FmLength{length(10, 189981, 0), length(10, 189962, 0), length(1, 1, 0)}, api.Span{}, 1},
		{35, []api.FmLength{length(10, 189962, 0), length(10, 189981, 0)}, api.Span{}, 1},
	} {
		r := nana()
		r.Gauge, r.Lengths = c.gauge, c.lengths
		if parts, wrong, e := Shrink(r); parts != c.parts || wrong != c.wrong || e != api.OK {
			t.Errorf("%d: Shrink = %v, %d, %d", i, parts, wrong, e)
		}
	}
}

// allows reports, with fractions, whether a length allows some parts.
func allows(gauge int, l api.FmLength, parts int) bool {
	micro := map[int]int64{api.Fm35: 19000, api.Fm16: 7620, api.Fm8: 3810}[gauge]
	told := big.NewRat(int64(l.Frames)*micro*int64(10000-parts), 10000)
	off := told.Sub(told, big.NewRat(int64(l.Micro), 1))
	return off.Abs(off).Cmp(big.NewRat(int64(l.Error), 1)) <= 0
}

// slowShrink returns what Shrink has to return, by trying all parts.
func slowShrink(r api.FmReel) (parts api.Span, wrong int) {
	var left []int
	for p := range api.MaxFmShrink + 1 {
		left = append(left, p)
	}
	for i, l := range r.Lengths {
		var next []int
		for _, p := range left {
			if allows(r.Gauge, l, p) {
				next = append(next, p)
			}
		}
		if len(next) == 0 {
			return api.Span{}, i
		}
		left = next
	}
	return api.Span{Lo: left[0], Hi: left[len(left)-1]}, -1
}

// shrunkReel returns a reel that has shrunk by some parts, with lengths that are wrong by at most what they say.
func shrunkReel(seed uint64) (r api.FmReel, parts int) {
	d := dice(seed)
	r = anyReel(d)
	s, _ := stockOf(r.Gauge)
	r.Frames, r.Marks, r.Lengths = from(d, 1, 20000), nil, nil
	parts = from(d, 0, api.MaxFmShrink)
	for range from(d, 1, api.MaxFmLengths) {
		frames := from(d, 1, r.Frames)
		// The length is rounded down, which makes it wrong by less than 1, unless Error allows nothing.
		micro, wrong := frames*s.micro*(10000-parts)/10000, 0
		if frames*s.micro*(10000-parts)%10000 != 0 || d.IntN(2) == 0 {
			wrong = 1 + d.IntN(1+micro/1000)
			micro = min(max(micro+d.IntN(wrong), 1), api.MaxFmMicro)
		}
		r.Lengths = append(r.Lengths, length(frames, micro, wrong))
	}
	return r, parts
}

// P1.6, P1.10 and P1.11: the true parts are among those that Shrink returns, which are all that fractions allow, and which become fewer with each length.
func TestShrinkIsTrue(t *testing.T) {
	for seed := range uint64(300) {
		r, parts := shrunkReel(seed)
		all := r.Lengths
		before := api.Span{Lo: 0, Hi: api.MaxFmShrink}
		for n := range len(all) + 1 {
			r.Lengths = all[:n]
			got, wrong, e := Shrink(r)
			if e != api.OK || wrong != -1 || parts < got.Lo || parts > got.Hi {
				t.Fatalf("%d: %d parts: Shrink of %+v = %v, %d, %d", seed, parts, r, got, wrong, e)
			}
			if got.Lo < before.Lo || got.Hi > before.Hi {
				t.Fatalf("%d: %v became %v", seed, before, got)
			}
			if want, _ := slowShrink(r); got != want {
				t.Fatalf("%d: Shrink of %+v = %v, want %v", seed, r, got, want)
			}
			before = got
		}
	}
}

// P1.6: lengths that contradict each other, against what fractions allow.
func TestShrinkOfManyReels(t *testing.T) {
	d := dice(6)
	for range 1000 {
		r := nana()
		r.Gauge, r.Lengths = []int{35, 16, 8}[d.IntN(3)], nil
		s, _ := stockOf(r.Gauge)
		for range 3 {
			frames := from(d, 1, 100)
			r.Lengths = append(r.Lengths, length(frames, frames*s.micro*from(d, 9490, 10010)/10000, d.IntN(frames*s.micro/100)))
		}
		want, at := slowShrink(r)
		if got, wrong, e := Shrink(r); got != want || wrong != at || e != api.OK {
			t.Fatalf("Shrink of %+v = %v, %d, %d; want %v, %d", r, got, wrong, e, want, at)
		}
	}
}
