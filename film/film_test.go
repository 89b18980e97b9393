package film

import (
	"math/rand/v2"
	"reflect"
	"slices"
	"strings"
	"testing"

	"telecine/api"
)

// nana is the reel R of the chapter's examples.
func nana() api.FmReel {
	return api.FmReel{
		Name: "nana-2", Gauge: api.Fm35, Base: api.FmNitrate, Frames: 1000, Years: api.Span{Lo: 1925, Hi: 1940}, Keep: 3,
		Marks:   []api.FmMark{{Frame: 10, Roll: 4, Number: 100}, {Frame: 42, Roll: 4, Number: 102}, {Frame: 130, Roll: 4, Number: 108}, {Frame: 200, Roll: 7, Number: 30}, {Frame: 215, Roll: 7, Number: 31}},
		Symbols: []api.FmSymbol{{Roll: 4, Code: 12}, {Roll: 7, Code: 10}},
		Lengths: []api.FmLength{{Frames: 100, Micro: 1891000, Error: 1000}, {Frames: 200, Micro: 3780000, Error: 2500}},
	}
}

// full is a reel with as much of everything, and numbers as long, as the limits allow.
func full() api.FmReel {
	r := api.FmReel{Name: strings.Repeat("z", api.MaxName), Gauge: api.Fm16, Base: api.FmPolyester, Frames: api.MaxFrames, Years: api.Span{Lo: api.MinFmYear, Hi: api.MaxFmYear}, Keep: api.MaxFmKeep}
	for i := range api.MaxFmMarks {
		r.Marks = append(r.Marks, api.FmMark{Frame: api.MaxFrames - api.MaxFmMarks + i, Roll: api.MaxFmRoll, Number: api.MaxFmNumber})
	}
	for range api.MaxFmSymbols {
		r.Symbols = append(r.Symbols, api.FmSymbol{Roll: api.MaxFmRoll, Code: api.FmCycle - 1})
	}
	for range api.MaxFmLengths {
		r.Lengths = append(r.Lengths, api.FmLength{Frames: api.MaxFrames, Micro: api.MaxFmMicro, Error: api.MaxFmMicro})
	}
	return r
}

// copied returns a reel that shares no memory with r.
func copied(r api.FmReel) api.FmReel {
	r.Marks, r.Symbols, r.Lengths = slices.Clone(r.Marks), slices.Clone(r.Symbols), slices.Clone(r.Lengths)
	return r
}

// sameReel reports whether two reels are the same, with a nil list the same as an empty one.
func sameReel(a, b api.FmReel) bool {
	if !slices.Equal(a.Marks, b.Marks) || !slices.Equal(a.Symbols, b.Symbols) || !slices.Equal(a.Lengths, b.Lengths) {
		return false
	}
	a.Marks, a.Symbols, a.Lengths = nil, nil, nil
	b.Marks, b.Symbols, b.Lengths = nil, nil, nil
	return reflect.DeepEqual(a, b)
}

// dice is a source of numbers that are the same in each run.
func dice(seed uint64) *rand.Rand { return rand.New(rand.NewPCG(seed, 1895)) }

// from returns a number from lo to hi.
func from(d *rand.Rand, lo, hi int) int { return lo + d.IntN(hi-lo+1) }

// anyReel returns some reel without an error.
func anyReel(d *rand.Rand) api.FmReel {
	names := []string{"a", "nana-2", "a-2", "q-0-1", strings.Repeat("y", api.MaxName)}
	lo := from(d, api.MinFmYear, api.MaxFmYear)
	r := api.FmReel{
		Name: names[d.IntN(len(names))], Gauge: []int{api.Fm35, api.Fm16, api.Fm8}[d.IntN(3)], Base: from(d, api.FmNitrate, api.FmPolyester),
		Frames: from(d, 1, api.MaxFrames), Years: api.Span{Lo: lo, Hi: min(lo+d.IntN(40), api.MaxFmYear)}, Keep: from(d, 0, api.MaxFmKeep),
	}
	for frame := d.IntN(50); frame < r.Frames && len(r.Marks) < 6; frame += from(d, 1, 100) {
		r.Marks = append(r.Marks, api.FmMark{Frame: frame, Roll: d.IntN(3), Number: d.IntN(12)})
	}
	for range d.IntN(4) {
		r.Symbols = append(r.Symbols, api.FmSymbol{Roll: d.IntN(3), Code: d.IntN(api.FmCycle)})
	}
	for range d.IntN(4) {
		r.Lengths = append(r.Lengths, api.FmLength{Frames: from(d, 1, r.Frames), Micro: from(d, 1, api.MaxFmMicro), Error: d.IntN(api.MaxFmMicro)})
	}
	return r
}

// P1.1: names.
func TestName(t *testing.T) {
	for _, s := range []string{"a", "z", "a-2", "a2", "a0-9z", "a-b-c", "z-9", "abcdefghijklmnopqrstuvwx", "a-b-c-d-e-f-g-h-i-j-k-lm"} {
		if !Name(s) {
			t.Errorf("%q is a name", s)
		}
	}
	for _, s := range []string{"", "-", "2a", "2", "-a", "a-", "a--2", "A", "aB", "a_b", "a b", " a", "a ", "a\n", "a.b", "é", "aé", "a\x00", "a`", "a{", "a/", "a:", "`", "{", "\xff", "abcdefghijklmnopqrstuvwxy", "a-b-c-d-e-f-g-h-i-j-k-l-m", strings.Repeat("a", 1<<16)} {
		if Name(s) {
			t.Errorf("%q is no name", s)
		}
	}
}

// checked is a change of the example's reel, and what Check returns then.
type checked struct {
	change   func(r *api.FmReel)
	part, at int
	e        api.Errno
}

// expect runs Check on the example's reel with each change.
func expect(t *testing.T, list []checked) {
	t.Helper()
	for i, c := range list {
		r := nana()
		c.change(&r)
		if part, at, e := Check(r); part != c.part || at != c.at || e != c.e {
			t.Errorf("%d: Check = %d, %d, %d; want %d, %d, %d", i, part, at, e, c.part, c.at, c.e)
		}
	}
}

// P1.1: the reel as a whole, at its limits and beyond, and the order of its errors.
func TestCheckWhole(t *testing.T) {
	expect(t, []checked{
		{func(r *api.FmReel) {}, 0, 0, api.OK},
		{func(r *api.FmReel) { *r = full() }, 0, 0, api.OK},
		{func(r *api.FmReel) { *r = api.FmReel{} }, 1, 0, api.ErrForm},
		{func(r *api.FmReel) { r.Name = "nana--2" }, 1, 0, api.ErrForm},
		{func(r *api.FmReel) { r.Gauge = 0 }, 1, 0, api.ErrArg},
		{func(r *api.FmReel) { r.Gauge = 17 }, 1, 0, api.ErrArg},
		{func(r *api.FmReel) { r.Gauge = api.Fm8 }, 0, 0, api.OK},
		{func(r *api.FmReel) { r.Base = 0 }, 1, 0, api.ErrArg},
		{func(r *api.FmReel) { r.Base = 4 }, 1, 0, api.ErrArg},
		{func(r *api.FmReel) { r.Base = api.FmPolyester }, 0, 0, api.OK},
		{func(r *api.FmReel) { r.Frames = 0 }, 1, 0, api.ErrRange},
		{func(r *api.FmReel) { r.Frames = api.MaxFrames }, 0, 0, api.OK},
		{func(r *api.FmReel) { r.Frames = api.MaxFrames + 1 }, 1, 0, api.ErrRange},
		{func(r *api.FmReel) { r.Keep = -1 }, 1, 0, api.ErrRange},
		{func(r *api.FmReel) { r.Keep = 0 }, 0, 0, api.OK},
		{func(r *api.FmReel) { r.Keep = 50 }, 0, 0, api.OK},
		{func(r *api.FmReel) { r.Keep = 51 }, 1, 0, api.ErrRange},
		{func(r *api.FmReel) { r.Years.Lo = 1890 }, 0, 0, api.OK},
		{func(r *api.FmReel) { r.Years.Lo = 1889 }, 1, 0, api.ErrRange},
		{func(r *api.FmReel) { r.Years.Lo = 2101 }, 1, 0, api.ErrRange},
		{func(r *api.FmReel) { r.Years.Hi = 2100 }, 0, 0, api.OK},
		{func(r *api.FmReel) { r.Years.Hi = 2101 }, 1, 0, api.ErrRange},
		{func(r *api.FmReel) { r.Years.Hi = 1889 }, 1, 0, api.ErrRange},
		{func(r *api.FmReel) { r.Years.Hi = 1925 }, 0, 0, api.OK},
		{func(r *api.FmReel) { r.Years.Hi = 1924 }, 1, 0, api.ErrArg},
		{func(r *api.FmReel) { r.Name, r.Base = "", 9 }, 1, 0, api.ErrForm},
		{func(r *api.FmReel) { r.Name, r.Frames = "", 0 }, 1, 0, api.ErrForm},
		{func(r *api.FmReel) { r.Base, r.Frames = 9, 0 }, 1, 0, api.ErrArg},
		{func(r *api.FmReel) { r.Years.Hi, r.Keep = 1924, 51 }, 1, 0, api.ErrRange},
		{func(r *api.FmReel) { r.Name, r.Marks = "", make([]api.FmMark, 61) }, 1, 0, api.ErrForm},
		{func(r *api.FmReel) { r.Years.Hi, r.Marks = 1924, make([]api.FmMark, 61) }, 1, 0, api.ErrArg},
	})
}

// P1.1: marks, and that all of them come before the symbols.
func TestCheckMarks(t *testing.T) {
	expect(t, []checked{
		{func(r *api.FmReel) { r.Marks = nil }, 0, 0, api.OK},
		{func(r *api.FmReel) { r.Marks = []api.FmMark{} }, 0, 0, api.OK},
		{func(r *api.FmReel) { r.Marks = full().Marks; r.Frames = api.MaxFrames }, 0, 0, api.OK},
		{func(r *api.FmReel) { r.Marks = append(full().Marks, full().Marks[0]); r.Frames = api.MaxFrames }, 2, 0, api.ErrLong},
		{func(r *api.FmReel) { r.Marks[0] = api.FmMark{} }, 0, 0, api.OK},
		{func(r *api.FmReel) { r.Marks[0].Frame = -1 }, 2, 0, api.ErrRange},
		{func(r *api.FmReel) { r.Marks[4].Frame = 999 }, 0, 0, api.OK},
		{func(r *api.FmReel) { r.Marks[4].Frame = 1000 }, 2, 4, api.ErrRange},
		{func(r *api.FmReel) { r.Marks[2].Roll = -1 }, 2, 2, api.ErrRange},
		{func(r *api.FmReel) { r.Marks[2].Roll = 99 }, 0, 0, api.OK},
		{func(r *api.FmReel) { r.Marks[2].Roll = 100 }, 2, 2, api.ErrRange},
		{func(r *api.FmReel) { r.Marks[2].Number = -1 }, 2, 2, api.ErrRange},
		{func(r *api.FmReel) { r.Marks[2].Number = 9999 }, 0, 0, api.OK},
		{func(r *api.FmReel) { r.Marks[2].Number = 10000 }, 2, 2, api.ErrRange},
		{func(r *api.FmReel) { r.Marks[3].Frame = 130 }, 2, 3, api.ErrArg},
		{func(r *api.FmReel) { r.Marks[3].Frame = 129 }, 2, 3, api.ErrArg},
		{func(r *api.FmReel) { r.Marks[3].Frame = 131 }, 0, 0, api.OK},
		{func(r *api.FmReel) { r.Marks[3].Frame, r.Marks[3].Roll = 129, 100 }, 2, 3, api.ErrRange},
		{func(r *api.FmReel) { r.Marks[1].Frame, r.Marks[2].Roll = 10, 100 }, 2, 1, api.ErrArg},
		{func(r *api.FmReel) { r.Marks[4].Roll, r.Symbols = 100, make([]api.FmSymbol, 21) }, 2, 4, api.ErrRange},
		{func(r *api.FmReel) { r.Marks[4].Roll, r.Symbols[0].Code = 100, 20 }, 2, 4, api.ErrRange},
	})
}

// P1.1: symbols and lengths, in this order.
func TestCheckSymbolsAndLengths(t *testing.T) {
	expect(t, []checked{
		{func(r *api.FmReel) { r.Symbols, r.Lengths = nil, nil }, 0, 0, api.OK},
		{func(r *api.FmReel) { r.Symbols = make([]api.FmSymbol, 20) }, 0, 0, api.OK},
		{func(r *api.FmReel) { r.Symbols = make([]api.FmSymbol, 21) }, 3, 0, api.ErrLong},
		{func(r *api.FmReel) { r.Symbols[1].Roll = -1 }, 3, 1, api.ErrRange},
		{func(r *api.FmReel) { r.Symbols[1].Roll = 99 }, 0, 0, api.OK},
		{func(r *api.FmReel) { r.Symbols[1].Roll = 100 }, 3, 1, api.ErrRange},
		{func(r *api.FmReel) { r.Symbols[1].Code = -1 }, 3, 1, api.ErrRange},
		{func(r *api.FmReel) { r.Symbols[1].Code = 19 }, 0, 0, api.OK},
		{func(r *api.FmReel) { r.Symbols[0].Code, r.Symbols[1].Code = 20, 20 }, 3, 0, api.ErrRange},
		{func(r *api.FmReel) { r.Symbols[1].Code, r.Lengths = 20, make([]api.FmLength, 21) }, 3, 1, api.ErrRange},
		{func(r *api.FmReel) { r.Lengths = full().Lengths; r.Frames = api.MaxFrames }, 0, 0, api.OK},
		{func(r *api.FmReel) { r.Lengths = append(full().Lengths, api.FmLength{}) }, 4, 0, api.ErrLong},
		{func(r *api.FmReel) { r.Lengths[1].Frames = 0 }, 4, 1, api.ErrRange},
		{func(r *api.FmReel) { r.Lengths[1].Frames = 1000 }, 0, 0, api.OK},
		{func(r *api.FmReel) { r.Lengths[1].Frames = 1001 }, 4, 1, api.ErrRange},
		{func(r *api.FmReel) { r.Lengths[1].Micro = 0 }, 4, 1, api.ErrRange},
		{func(r *api.FmReel) { r.Lengths[1].Micro = 1 }, 0, 0, api.OK},
		{func(r *api.FmReel) { r.Lengths[1].Micro = 400000001 }, 4, 1, api.ErrRange},
		{func(r *api.FmReel) { r.Lengths[0].Error = -1 }, 4, 0, api.ErrRange},
		{func(r *api.FmReel) { r.Lengths[0].Error = 0 }, 0, 0, api.OK},
		{func(r *api.FmReel) { r.Lengths[0].Error = 400000001 }, 4, 0, api.ErrRange},
	})
}

// P1.2: feet and frames, and the order of their errors.
func TestFeetAndFrames(t *testing.T) {
	for i, c := range []struct {
		gauge, frames, feet, rest int
		e                         api.Errno
	}{
		{35, 1000, 62, 8, api.OK}, {35, 15, 0, 15, api.OK}, {35, 16, 1, 0, api.OK}, {35, 200000, 12500, 0, api.OK}, {16, 39, 0, 39, api.OK}, {16, 40, 1, 0, api.OK}, {8, 79, 0, 79, api.OK}, {8, 81, 1, 1, api.OK}, {8, 0, 0, 0, api.OK},
		{35, -1, 0, 0, api.ErrRange}, {35, 200001, 0, 0, api.ErrRange}, {17, 200001, 0, 0, api.ErrArg}, {0, 5, 0, 0, api.ErrArg}, {-35, 5, 0, 0, api.ErrArg},
	} {
		if feet, rest, e := Feet(c.gauge, c.frames); feet != c.feet || rest != c.rest || e != c.e {
			t.Errorf("%d: Feet = %d, %d, %d", i, feet, rest, e)
		}
	}
	for i, c := range []struct {
		gauge, feet, rest, frames int
		e                         api.Errno
	}{
		{16, 25, 39, 1039, api.OK}, {35, 0, 0, 0, api.OK}, {35, 12500, 0, 200000, api.OK}, {8, 2499, 79, 199999, api.OK},
		{35, 12500, 1, 0, api.ErrRange}, {35, 12501, 0, 0, api.ErrRange}, {16, 5000, 1, 0, api.ErrRange}, {35, 1, 16, 0, api.ErrRange}, {16, 1, 40, 0, api.ErrRange}, {8, 1, 80, 0, api.ErrRange}, {35, 1, -1, 0, api.ErrRange}, {35, -1, 15, 0, api.ErrRange}, {9, -1, 99, 0, api.ErrArg},
		{35, 1 << 60, 0, 0, api.ErrRange}, {35, 1<<63 - 1, 0, 0, api.ErrRange}, {35, -1 << 63, 0, 0, api.ErrRange}, {8, 1, 1<<63 - 1, 0, api.ErrRange},
	} {
		if n, e := Frames(c.gauge, c.feet, c.rest); n != c.frames || e != c.e {
			t.Errorf("%d: Frames = %d, %d", i, n, e)
		}
	}
}

// P1.12: all frames there are, of all gauges, as feet and back; and all feet there are, as frames and back.
func TestFeetAreFrames(t *testing.T) {
	for gauge, foot := range map[int]int{api.Fm35: 16, api.Fm16: 40, api.Fm8: 80} {
		for n := range api.MaxFrames + 1 {
			feet, rest, e := Feet(gauge, n)
			back, f := Frames(gauge, feet, rest)
			if e != api.OK || f != api.OK || back != n || feet != n/foot {
				t.Fatalf("gauge %d: %d frames are %d and %d (%d), and back %d (%d)", gauge, n, feet, rest, e, back, f)
			}
		}
		for feet := range api.MaxFrames/foot + 1 {
			for rest := range foot {
				n, e := Frames(gauge, feet, rest)
				if above := feet*foot+rest > api.MaxFrames; above != (e == api.ErrRange) {
					t.Fatalf("gauge %d: Frames of %d, %d: %d", gauge, feet, rest, e)
				}
				if a, b, _ := Feet(gauge, n); e == api.OK && (a != feet || b != rest) {
					t.Fatalf("gauge %d: %d and %d come back as %d and %d", gauge, feet, rest, a, b)
				}
			}
		}
	}
}
