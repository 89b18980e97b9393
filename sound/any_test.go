package sound

import (
	"math"
	"reflect"
	"slices"
	"testing"

	"telecine/api"
)

// corners are ints at the ends of what an int can be, of the ranges, and around 0.
func corners() []int {
	return []int{math.MinInt, math.MinInt + 1, math.MinInt32, -1000000001, -1000000000, -100000001, -4000001, -2000001, -1000001, -101, -2, -1, 0, 1, 2, 3, 9, 10, 11, 48, 49, 50, 51, 99, 100, 101, 500, 501, 3999, 4000, 4001, 19999, 20000, 20001, 1000001, 2000001, 4000000, 4000001, 100000000, 100000001, 1000000000, 1000000001, math.MaxInt32, 1 << 32, 1 << 62, math.MaxInt - 1, math.MaxInt}
}

// P9.17 and DOC's P1: frames with any sides are accepted, also where their product is beyond what an int can be.
func TestAnyFrame(t *testing.T) {
	for _, wide := range corners() {
		for _, high := range corners() {
			for _, pixels := range []int{0, 1, 6, 48, 2304} {
				f, other := sized(wide, high, pixels), frame(3, 1, 2, 3, 4, 5, 6)
				want := api.ErrArg
				if !within(wide, 1, 48) || !within(high, 1, 48) {
					want = api.ErrRange
				}
				right := want == api.ErrArg && wide*high == pixels
				for kind := range 4 {
					l, e := Track(f, f, kind)
					if ok := right && within(kind, 1, 2); ok && (e != api.OK || len(l) != high) || !ok && (e != want || l != nil) {
						t.Errorf("Track of %d by %d with %d pixels, kind %d = %v, %d", wide, high, pixels, kind, l, e)
					}
					one, e := Track(f, other, kind)
					two, g := Track(other, f, kind)
					if wide == 3 && high == 2 && pixels == 6 {
						continue // the other one has this size too
					}
					if e != want || g != want || one != nil || two != nil {
						t.Errorf("Track of %d by %d with %d pixels, kind %d, and another one: %d, %d", wide, high, pixels, kind, e, g)
					}
				}
			}
		}
	}
}

// P9.17: any numbers of tasks are accepted.
func TestAnyTask(t *testing.T) {
	for _, m := range corners() {
		for _, n := range corners() {
			for i, c := range []struct {
				change func(x *api.SdTask)
				ok     bool
			}{
				{func(x *api.SdTask) { x.Rate = span(m, n) }, 1 <= m && m <= n && n <= 4000},
				{func(x *api.SdTask) { x.Frames, x.Rate.Lo = m, n }, within(m, 91, 20000) && within(n, 1, 1010)},
				{func(x *api.SdTask) { x.Marks[1].Frame, x.Marks[1].Sample = m, n }, within(m, 0, 99) && within(n, 0, 100000000)},
				{func(x *api.SdTask) { x.Marks[1].Frame, x.Marks[1].Error = m, n }, within(m, 0, 99) && within(n, 0, 100000000)},
				{func(x *api.SdTask) { x.Speeds = []int{m, n} }, 1 <= m && m < n && n <= 4000000},
			} {
				x := example()
				c.change(&x)
				_, _, e := Check(x)
				_, f := Struck(x)
				_, g := Where(x, 0)
				if (e == api.OK) != c.ok || f != e || g != e {
					t.Errorf("%d: Check with %d, %d: %d; Struck: %d; Where: %d", i, m, n, e, f, g)
				}
				if m > 1000 || n > 1000 {
					continue // so many frames take their time
				}
				if _, _, f := Off(x, 1, 1); f != e {
					t.Errorf("%d: Off with %d, %d: %d; want %d", i, m, n, f, e)
				}
				if _, _, f := Fit(x); f != e {
					t.Errorf("%d: Fit with %d, %d: %d; want %d", i, m, n, f, e)
				}
			}
			_, _, e := Off(example(), m, n)
			if ok := within(m, 1, 4000000) && within(n, -1000000000, 1000000000); ok != (e == api.OK) || !ok && e != api.ErrRange {
				t.Errorf("Off with %d from %d: %d", m, n, e)
			}
		}
	}
}

// P9.17: any numbers besides tasks are accepted.
func TestAnyNumbers(t *testing.T) {
	l := []int{1, 2, 90, 4, 5}
	expect := func(what string, e api.Errno, ok bool, numbers ...int) {
		t.Helper()
		if ok != (e == api.OK) || !ok && e != api.ErrRange {
			t.Errorf("%s with %v: %d", what, numbers, e)
		}
	}
	for _, m := range corners() {
		for _, n := range corners() {
			_, e := Slip(20000, m, nil, n)
			expect("Slip", e, within(m, 0, 100) && within(n, 0, 19999-m), m, n)
			_, e = Slip(m, 0, nil, n)
			expect("Slip", e, within(m, 1, 200000) && within(n, 0, m-1), m, n)
			_, e = Slip(100, 0, cuts(m, n), 0)
			ok := 1 <= m && m <= n && n < 100
			if e != api.OK && e != api.ErrRange && e != api.ErrArg && e != api.ErrNone || ok != (e == api.OK) {
				t.Errorf("Slip with the cut %d to %d: %d", m, n, e)
			}
			_, e = Hum([]int{m, 0}, n)
			expect("Hum", e, within(m, -1000000, 1000000) && within(n, 1, 2), m, n)
			_, e = Clean([]int{m}, []int{n})
			expect("Clean", e, within(m, -4000000, 4000000) && within(n, -2000000, 2000000), m, n)
			_, e = Dirty([]int{m}, []int{n})
			expect("Dirty", e, within(m, -4000000, 4000000) && within(n, -2000000, 2000000), m, n)
			_, _, e = Bloop(make([]int, 102), []int{m}, n)
			expect("Bloop", e, within(m, 0, 101) && within(n, 0, 50), m, n)
			_, e = Unbloop(l, nil, []int{m}, n)
			if ok := within(m, 0, 4) && within(n, 0, 50); ok && e != api.ErrArg || !ok && e != api.ErrRange {
				t.Errorf("Unbloop at %d with %d: %d", m, n, e)
			}
			_, e = Pull(l, m, n, 4000)
			expect("Pull", e, within(m, 0, 4000000) && within(n, 0, 4000000), m, n)
			_, e = Pull([]int{m, 1}, 0, 1000, n)
			expect("Pull", e, within(m, -1000000, 1000000) && within(n, 0, 4000), m, n)
		}
	}
}

// P9.17: longer lists than there can be are accepted.
func TestAnyLengths(t *testing.T) {
	long := make([]int, 1000000)
	x := example()
	x.Speeds = long
	expectError(t, x, api.ErrLong)
	x = with(example(), make([]api.SdMark, 1000000))
	expectError(t, x, api.ErrLong)
	expectSlip(t, 1000000, 0, make([]api.BnCut, 1000000), 0, 0, api.ErrRange)
	expectSlip(t, 1000, 0, make([]api.BnCut, 1000000), 0, 0, api.ErrLong)
	expectClean(t, long, long, nil, nil, api.ErrLong)
	expectClean(t, nil, long, nil, nil, api.ErrLong)
	expectPull(t, long, 0, 0, 0, nil, api.ErrLong)
	expectUnbloop(t, []int{1}, long, []int{0}, 0, nil, api.ErrArg)
	expectUnbloop(t, []int{1}, long, long, 0, nil, api.ErrLong)
	if hum, e := Hum(long, 1); hum != nil || e != api.ErrLong {
		t.Errorf("Hum: %d numbers, %d", len(hum), e)
	}
	for _, e := range []api.Errno{bloopError(long, nil), bloopError([]int{1}, long)} {
		if e != api.ErrLong {
			t.Errorf("Bloop: %d", e)
		}
	}
}

// bloopError returns the error of Bloop.
func bloopError(l, splices []int) api.Errno {
	_, _, e := Bloop(l, splices, 0)
	return e
}

// P9.17: as much as the limits allow.
func TestFull(t *testing.T) {
	x := full()
	expectStruck(t, x)
	fit, l, e := Fit(x)
	if off, _, f := Off(x, fit.Speed, fit.Begin); off != fit.Off || len(l) != api.MaxSdSpeeds || e != api.OK || f != api.OK {
		t.Errorf("Fit = %v, %v, %d; Off = %d, %d", fit, l, e, off, f)
	}
}

// everything is what is passed to the functions.
type everything struct {
	f, mask              api.SnFrame
	task                 api.SdTask
	cuts                 []api.BnCut
	l, hum, splices, old []int
}

// copied returns the same, without shared memory.
func (x everything) copied() everything {
	x.f.Pixels, x.mask.Pixels = slices.Clone(x.f.Pixels), slices.Clone(x.mask.Pixels)
	x.task.Marks, x.task.Speeds = slices.Clone(x.task.Marks), slices.Clone(x.task.Speeds)
	x.cuts = slices.Clone(x.cuts)
	x.l, x.hum, x.splices, x.old = slices.Clone(x.l), slices.Clone(x.hum), slices.Clone(x.splices), slices.Clone(x.old)
	return x
}

// half returns the same, with about half of each list, which goes on behind its end.
func (x everything) half() everything {
	x.f.High, x.mask.High = x.f.High/2, x.mask.High/2
	x.f.Pixels, x.mask.Pixels = x.f.Pixels[:x.f.Wide*x.f.High], x.mask.Pixels[:x.mask.Wide*x.mask.High]
	x.task.Marks, x.task.Speeds = x.task.Marks[:1+len(x.task.Marks)/2], x.task.Speeds[:1+len(x.task.Speeds)/2]
	x.cuts = x.cuts[:len(x.cuts)/2]
	x.l, x.hum, x.splices, x.old = x.l[:1+len(x.l)/2], x.hum[:1+len(x.hum)/2], x.splices[:len(x.splices)/2], x.old[:len(x.old)/2]
	return x
}

// call calls all functions.
func (x everything) call() {
	Track(x.f, x.mask, api.SdArea)
	Track(x.f, x.mask, api.SdDensity)
	Check(x.task)
	Struck(x.task)
	Where(x.task, 0)
	Off(x.task, 1000000, 5)
	Fit(x.task)
	Slip(60, 20, x.cuts, 5)
	Hum(x.l, len(x.hum))
	Clean(x.l, x.hum)
	Dirty(x.l, x.hum)
	for reach := range 3 {
		_, kept, _ := Bloop(x.l, x.splices, reach)
		Unbloop(x.l, kept, x.splices, reach)
		Unbloop(x.l, x.old, x.splices, reach)
	}
	Pull(x.l, 5, 700, 50)
}

// P9.17: no argument is modified, also not behind the ends of its lists.
func TestArgumentsStay(t *testing.T) {
	d := dice(19)
	for range 300 {
		x := everything{f: plain(4, 8, 200), mask: plain(4, 8, 1), splices: []int{0, d.IntN(9), 3, 1}}
		x.task, _ = anyTask(d, 50)
		x.task.Marks, x.task.Speeds = append(falseMarks(d, x.task.Marks), x.task.Marks[0]), append(x.task.Speeds, 4000000)
		x.cuts, _ = anyCuts(d, 60)
		x.l, x.hum, x.old = anySamples(d, 40, 1000), anySamples(d, 30, 50), anySamples(d, 8, 50)
		before := x.copied()
		x.call()
		x.half().call()
		if !reflect.DeepEqual(x, before) {
			t.Fatalf("%v became %v", before, x)
		}
	}
}

// spoil changes all memory of a list, also behind its end.
func spoil[T any](l []T) { clear(l[:cap(l)]) }

// P9.17: results are new memory: what is done to them changes neither an argument, nor another part of the result, nor a later result.
func TestResultsAreNewMemory(t *testing.T) {
	f, mask := track()
	x := everything{f: f, mask: mask, task: example(), l: []int{3, 5, 3, 5, 4, 6}, hum: []int{0}, splices: []int{2}, old: []int{9}}
	before := x.copied()
	expect := func(what string, got, want []int) {
		t.Helper()
		if !slices.Equal(got, want) {
			t.Errorf("%s = %v; want %v", what, got, want)
		}
		spoil(got)
	}
	for range 2 {
		levels, _ := Track(x.f, x.mask, api.SdArea)
		struck, _ := Struck(x.task)
		fit, proved, _ := Fit(x.task)
		if !slices.Equal(levels, spans(1, 2, 2, 2, 0, 1)) || !slices.Equal(struck, strikes(2, 0)) || fit.Off != 320 || !slices.Equal(proved, proofs(1000000, 37, 37, 320, 1005000, 0, 38, 330)) {
			t.Errorf("Track = %v; Struck = %v; Fit = %v, %v", levels, struck, fit, proved)
		}
		spoil(levels)
		spoil(struck)
		spoil(proved)
		hum, _ := Hum(x.l, 2)
		expect("Hum", hum, []int{-1, 1})
		clean, _ := Clean(x.l, x.hum)
		expect("Clean", clean, x.l)
		dirty, _ := Dirty(x.l, x.hum)
		expect("Dirty", dirty, x.l)
		after, kept, _ := Bloop(x.l, x.splices, 0)
		expect("Bloop", after, []int{3, 5, 5, 5, 4, 6})
		expect("Bloop, kept", kept, []int{3})
		still, _, _ := Bloop(x.l, nil, 0)
		expect("Bloop", still, x.l)
		back, _ := Unbloop(x.l, x.old, x.splices, 0)
		expect("Unbloop", back, []int{3, 5, 9, 5, 4, 6})
		back, _ = Unbloop(x.l, nil, nil, 0)
		expect("Unbloop", back, x.l)
		pulled, _ := Pull(x.l, 0, 1000, 6)
		expect("Pull", pulled, x.l)
	}
	if !reflect.DeepEqual(x, before) {
		t.Errorf("the arguments became %v", x)
	}
}

// P9.17: a nil list and an empty one are the same.
func TestNilAndEmpty(t *testing.T) {
	empty := []int{}
	expectStruck(t, with(example(), []api.SdMark{}))
	if _, _, e := Off(with(example(), []api.SdMark{}), 1, 1); e != api.ErrDown {
		t.Errorf("Off: %d", e)
	}
	x := example()
	x.Speeds = empty
	expectError(t, x, api.ErrLong)
	expectSlip(t, 1, 0, []api.BnCut{}, 0, 0, api.OK)
	expectClean(t, empty, []int{1}, nil, nil, api.OK)
	expectClean(t, []int{1}, empty, nil, nil, api.ErrDown)
	expectBloop(t, empty, empty, 0, nil, nil, api.OK)
	expectUnbloop(t, []int{1}, empty, empty, 0, []int{1}, api.OK)
	expectPull(t, empty, 0, 0, 0, nil, api.ErrDown)
	if hum, e := Hum(empty, 1); hum != nil || e != api.ErrDown {
		t.Errorf("Hum = %v, %d", hum, e)
	}
}
