package scan

import (
	"bytes"
	"math"
	"reflect"
	"slices"
	"testing"

	"telecine/api"
)

// corners are ints at the ends of what an int can be, of the ranges, and around 0.
func corners() []int {
	return []int{math.MinInt, math.MinInt + 1, math.MinInt32, -256, -13, -12, -2, -1, 0, 1, 2, 3, 5, 6, 12, 13, 47, 48, 49, 254, 255, 256, 257, 1000, 100000, 100001, 1 << 24, math.MaxInt32, 1 << 32, 1 << 62, math.MaxInt - 1, math.MaxInt}
}

// P7.15 and DOC's P1: frames with any sides are accepted, also where their product is beyond what an int can be.
func TestAnyFrame(t *testing.T) {
	for _, wide := range corners() {
		for _, high := range corners() {
			for _, pixels := range []int{0, 1, 24, 48, 2304, 100000} {
				f := api.SnFrame{Wide: wide, High: high, Pixels: make([]byte, pixels)}
				want := api.OK
				if !within(wide, 1, 48) || !within(high, 1, 48) {
					want = api.ErrRange
				} else if wide*high != pixels {
					want = api.ErrArg
				}
				if e := Check(f); e != want {
					t.Errorf("Check of %d by %d with %d pixels = %d; want %d", wide, high, pixels, e, want)
				}
				if e := ofFrame(f); e != [7]api.Errno{want, want, want, want, want, want, want} {
					t.Errorf("of %d by %d with %d pixels: %v; want %d", wide, high, pixels, e, want)
				}
				if !Same(f, f) || Same(f, example()) {
					t.Errorf("Same of %d by %d with %d pixels", wide, high, pixels)
				}
			}
		}
	}
}

// P7.15: any numbers besides frames are accepted.
func TestAnyNumbers(t *testing.T) {
	a, b := example(), moved()
	expect := func(what string, e api.Errno, ok bool, other api.Errno, numbers ...int) {
		t.Helper()
		if ok != (e == api.OK) || !ok && e != other {
			t.Errorf("%s with %v: %d", what, numbers, e)
		}
	}
	for _, m := range corners() {
		for _, n := range corners() {
			_, e := Move(a, m, n, 0)
			expect("Move", e, within(m, -12, 12) && within(n, -12, 12), api.ErrRange, m, n)
			_, e = Dust(a, m, n)
			expect("Dust", e, within(m, 0, 256) && within(n, 0, 12), api.ErrRange, m, n)
			_, _, e = Light(shots(5, 5, m, n))
			expect("Light", e, within(m, 1, 100000) && within(n, 0, 255), api.ErrRange, m, n)
			for _, c := range []struct {
				window api.SnArea
				ok     bool
			}{
				{area(m, n, 0, 3), 0 <= m && m <= n && n <= 5}, {area(0, 5, m, n), 0 <= m && m <= n && n <= 3},
			} {
				_, _, e = Flicker(frames(a, b), c.window)
				expect("Flicker", e, c.ok, api.ErrArg, m, n)
				_, e = Steady(a, b, c.window, 12)
				expect("Steady", e, c.ok, api.ErrArg, m, n)
			}
		}
		_, e := Even(a, m)
		expect("Even", e, within(m, 1, 100000), api.ErrRange, m)
		_, e = Steady(a, b, area(1, 3, 1, 2), m)
		expect("Steady", e, within(m, 0, 12), api.ErrRange, m)
	}
}

// P7.15: longer lists than there can be are accepted.
func TestAnyLengths(t *testing.T) {
	if light, wrong, e := Light(make([]api.SnShot, 100000)); light != (api.Span{}) || wrong != 0 || e != api.ErrLong {
		t.Errorf("Light = %v, %d, %d", light, wrong, e)
	}
	l := slices.Repeat(frames(example()), 100000)
	if exposures, wrong, e := Flicker(l, area(0, 0, 0, 0)); exposures != nil || wrong != nil || e != api.ErrLong {
		t.Errorf("Flicker = %v, %v, %d", exposures, wrong, e)
	}
	if b, e := Write(l); b != nil || e != api.ErrLong {
		t.Errorf("Write = %v, %d", b, e)
	}
	b := bytes.Repeat([]byte("SN"), 1000000)
	if l, e := Read(b); l != nil || e != api.ErrLong || Sum(b) != slowSum(b) {
		t.Errorf("Read = %v, %d; Sum = %d", l, e, Sum(b))
	}
}

// P7.15: any bytes are accepted by Read, also behind a right beginning and with a right check.
func TestAnyBytes(t *testing.T) {
	d := dice(18)
	for range 100000 {
		b := make([]byte, d.IntN(40))
		for i := range b {
			b[i] = byte(d.Uint32() >> d.IntN(8))
		}
		b = signed(append([]byte{83, 78, byte(from(d, 0, 9)), byte(from(d, 0, 3)), byte(from(d, 0, 2))}, b...)...)
		if l, e := Read(b); e == api.OK && !slices.Equal(slowFile(l), b) || e != api.OK && (l != nil || e != api.ErrForm) {
			t.Fatalf("Read of %v = %v, %d", b, l, e)
		}
	}
}

// every calls all functions with frames of a list, and an area of them.
func every(l []api.SnFrame, s []api.SnShot, a api.SnArea, n int) {
	f, g := l[0], l[len(l)-1]
	Check(f)
	Same(f, g)
	Move(f, n, -n, 9)
	Steady(f, g, a, n)
	Light(s)
	Flicker(l, a)
	Even(g, 1+n*100)
	Dust(f, 20*n, n)
	Spots(g)
	Write(l)
}

// P7.15: no argument is modified, also not behind the ends of its lists.
func TestArgumentsStay(t *testing.T) {
	d := dice(19)
	for range 500 {
		wide, high := anySize(d, 12)
		var whole []api.SnFrame
		for range from(d, 2, 6) {
			whole = append(whole, anyFrame(d, wide, high, 20))
		}
		s := shots(1000, d.IntN(256), 500, d.IntN(256), 1, 1)
		b, _ := Write(whole)
		before, shotsBefore, bytesBefore := copied(whole), slices.Clone(s), slices.Clone(b)
		l := slices.Clone(whole)
		for i := range l[1:] {
			// A frame with an error, whose pixels go on behind its end.
			l[i+1].Pixels = l[i+1].Pixels[:len(l[i+1].Pixels)-d.IntN(2)]
		}
		every(l[:len(l)-1], s[:2], anyArea(d, wide, high), d.IntN(13))
		every(whole[:len(whole)-1], s[:2], anyArea(d, wide, high), d.IntN(13))
		Read(b)
		Read(b[:len(b)-1])
		Sum(b[:len(b)/2])
		if !reflect.DeepEqual(whole, before) || !slices.Equal(s, shotsBefore) || !slices.Equal(b, bytesBefore) {
			t.Fatalf("%v became %v; %v became %v; %v became %v", before, whole, shotsBefore, s, bytesBefore, b)
		}
	}
}

// P7.15: results are new memory: what is done to them changes neither an argument, nor another part of the result, nor a later result.
func TestResultsAreNewMemory(t *testing.T) {
	l := frames(example(), moved(), frame(6, make([]byte, 24)...))
	before := copied(l)
	spoil := func(f api.SnFrame) {
		all := f.Pixels[:cap(f.Pixels)]
		for i := range all {
			all[i] ^= 85
		}
	}
	for range 2 {
		still, _ := Move(l[0], 0, 0, 0)
		even, _ := Even(l[0], 1000)
		dust, _ := Dust(l[0], 1, 0)
		exposures, wrong, _ := Flicker(l, area(0, 5, 0, 3))
		spots, _ := Spots(l[0])
		b, _ := Write(l)
		file := slices.Clone(b)
		back, _ := Read(file)
		for i, f := range back {
			if !Same(f, l[i]) {
				t.Errorf("%d: Read = %v; want %v", i, f, l[i])
			}
			spoil(f)
		}
		if !Same(still, l[0]) || !Same(even, l[0]) || dust.Pixels[0] != 255 || !slices.Equal(exposures, []api.Span{span(1000, 1000), {}, span(1, 4)}) || !slices.Equal(wrong, []int{1}) || !slices.Equal(spots, []api.SnSpot{spot(0, 5, 1, 3, 12)}) || !slices.Equal(b, slowFile(l)) || !slices.Equal(file, b) {
			t.Errorf("Move = %v; Even = %v; Dust = %v; Flicker = %v, %v; Spots = %v; Write = %v; Read of %v", still, even, dust, exposures, wrong, spots, b, file)
		}
		spoil(still)
		spoil(even)
		spoil(dust)
		clear(exposures[:cap(exposures)])
		clear(wrong[:cap(wrong)])
		clear(spots[:cap(spots)])
		clear(b[:cap(b)])
	}
	if !reflect.DeepEqual(l, before) {
		t.Errorf("the arguments became %v", l)
	}
}

// P7.15: a nil list and an empty one are the same.
func TestNilAndEmpty(t *testing.T) {
	expectLight(t, []api.SnShot{}, span(0, 10000000), -1)
	empty := api.SnFrame{Wide: 1, High: 1, Pixels: []byte{}}
	if Check(empty) != api.ErrArg || !Same(empty, api.SnFrame{Wide: 1, High: 1}) || Sum([]byte{}) != Sum(nil) {
		t.Errorf("Check: %d; Sum: %d", Check(empty), Sum([]byte{}))
	}
	if l, e := Read([]byte{}); l != nil || e != api.ErrForm {
		t.Errorf("Read = %v, %d", l, e)
	}
}
