package sound

import (
	"slices"
	"testing"

	"telecine/api"
)

// expectHum checks what Hum returns without an error.
func expectHum(t *testing.T, l []int, period int, want ...int) {
	t.Helper()
	if hum, e := Hum(l, period); !slices.Equal(hum, want) || e != api.OK {
		t.Errorf("Hum of %v with %d = %v, %d; want %v", l, period, hum, e, want)
	}
}

// expectClean checks what Clean and Dirty return, both with the same error.
func expectClean(t *testing.T, l, hum, clean, dirty []int, want api.Errno) {
	t.Helper()
	if m, e := Clean(l, hum); !slices.Equal(m, clean) || e != want {
		t.Errorf("Clean of %v with %v = %v, %d; want %v, %d", l, hum, m, e, clean, want)
	}
	if m, e := Dirty(l, hum); !slices.Equal(m, dirty) || e != want {
		t.Errorf("Dirty of %v with %v = %v, %d; want %v, %d", l, hum, m, e, dirty, want)
	}
}

// P9.6: the examples, periods at both ends, and means below 0, which are rounded down too.
func TestHum(t *testing.T) {
	expectHum(t, []int{3, 5, 3, 5, 4, 6}, 2, -1, 1)
	expectHum(t, []int{3, 5, 3, 5, 4, 6}, 1, 0)
	expectHum(t, []int{3, 5, 3, 5, 4, 6}, 6, -1, 1, -1, 1, 0, 2)
	expectHum(t, []int{3, 5, 3, 5, 4, 6}, 4, -1, 1, -1, 1)
	expectHum(t, []int{3, 5, 3, 5, 4, 6}, 5, 0, 1, -1, 1, 0)
	expectHum(t, []int{5}, 1, 0)
	expectHum(t, []int{-1, 0}, 1, 0)
	expectHum(t, []int{-1, 0}, 2, 0, 1)
	expectHum(t, []int{-1, -2, 10}, 3, -3, -4, 8)
	expectHum(t, []int{-3, 0, -4, 0}, 2, -2, 2)
	expectHum(t, []int{1000000, -1000000}, 2, 1000000, -1000000)
	expectHum(t, append(slices.Repeat([]int{-1000000}, 3999), 1000000), 500, slices.Concat(slices.Repeat([]int{-500}, 499), []int{249500})...)
	expectHum(t, slices.Repeat([]int{-7}, 500), 500, make([]int, 500)...)
}

// P9.6: the errors of Hum, and which one comes first.
func TestHumErrors(t *testing.T) {
	for i, c := range []struct {
		l      []int
		period int
		e      api.Errno
	}{
		{make([]int, 4001), 0, api.ErrLong}, {slices.Repeat([]int{1000001}, 4001), 0, api.ErrLong}, {make([]int, 4000), 500, api.OK}, {make([]int, 4000), 501, api.ErrRange},
		{[]int{1000001}, 1, api.ErrRange}, {[]int{-1000001}, 1, api.ErrRange}, {[]int{0, 1 << 62}, 0, api.ErrRange}, {[]int{0, -1 << 63}, 0, api.ErrRange}, {[]int{1000000, -1000000}, 1, api.OK},
		{nil, 1, api.ErrDown}, {nil, 0, api.ErrDown}, {nil, 501, api.ErrDown}, {[]int{5}, 0, api.ErrRange}, {[]int{5}, -1, api.ErrRange}, {[]int{5}, 2, api.ErrRange}, {[]int{5, 5}, 3, api.ErrRange}, {[]int{5}, 1 << 62, api.ErrRange}, {[]int{5}, -1 << 63, api.ErrRange},
	} {
		if hum, e := Hum(c.l, c.period); e != c.e || e != api.OK && hum != nil {
			t.Errorf("%d: Hum = %v, %d; want %d", i, hum, e, c.e)
		}
	}
}

// P9.6: the examples; hums that are longer than the samples; samples and hums as great as they can be.
func TestClean(t *testing.T) {
	expectClean(t, []int{3, 5, 3, 5, 4, 6}, []int{-1, 1}, []int{4, 4, 4, 4, 5, 5}, []int{2, 6, 2, 6, 3, 7}, api.OK)
	expectClean(t, []int{1, 2, 3, 4, 5}, []int{10, 20, 30}, []int{-9, -18, -27, -6, -15}, []int{11, 22, 33, 14, 25}, api.OK)
	expectClean(t, nil, []int{1}, nil, nil, api.OK)
	expectClean(t, []int{1}, []int{1, 2, 3}, []int{0}, []int{2}, api.OK)
	expectClean(t, []int{4000000, -4000000}, []int{2000000}, []int{2000000, -6000000}, []int{6000000, -2000000}, api.OK)
	expectClean(t, []int{4000000, -4000000}, []int{-2000000}, []int{6000000, -2000000}, []int{2000000, -6000000}, api.OK)
	expectClean(t, make([]int, 4000), make([]int, 500), make([]int, 4000), make([]int, 4000), api.OK)
}

// P9.6: the errors of Clean and Dirty, and which one comes first.
func TestCleanErrors(t *testing.T) {
	long, great := make([]int, 4001), []int{0, 4000001}
	for _, c := range []struct {
		l, hum []int
		e      api.Errno
	}{
		{long, nil, api.ErrLong}, {slices.Repeat(great, 2001), nil, api.ErrLong}, {great, nil, api.ErrRange}, {[]int{-4000001}, nil, api.ErrRange}, {[]int{1 << 62}, []int{1}, api.ErrRange}, {[]int{-1 << 63}, []int{1}, api.ErrRange}, {great, make([]int, 501), api.ErrRange},
		{[]int{1}, nil, api.ErrDown}, {nil, nil, api.ErrDown}, {[]int{1}, make([]int, 501), api.ErrLong}, {nil, slices.Repeat(great, 251), api.ErrLong}, {[]int{1}, []int{2000001}, api.ErrRange}, {[]int{1}, []int{0, -2000001}, api.ErrRange}, {nil, []int{1 << 62}, api.ErrRange}, {nil, []int{-1 << 63}, api.ErrRange},
	} {
		expectClean(t, c.l, c.hum, nil, nil, c.e)
	}
}

// P9.6, P9.15: Hum against a slow version of the definition; without the hum each index has the mean of all samples.
func TestHumIsTheDefinition(t *testing.T) {
	d := dice(8)
	for i := range 2000 {
		l := anySamples(d, from(d, 1, 60), []int{3, 100, 1000000}[i%3])
		period := from(d, 1, min(len(l), 500))
		hum := slowHum(l, period)
		expectHum(t, l, period, hum...)
		clean, e := Clean(l, hum)
		for index := range period {
			if n := meanOf(clean, index, period); n != meanOf(l, 0, 1) || e != api.OK {
				t.Fatalf("Clean of %v with %v = %v, %d: the mean of %d is %d; want %d", l, hum, clean, e, index, n, meanOf(l, 0, 1))
			}
		}
		if t.Failed() {
			t.FailNow()
		}
	}
}

// P9.14: Dirty of what Clean returns, and Clean of what Dirty returns, are the samples, wherever these can be passed on.
func TestHumUndone(t *testing.T) {
	d := dice(9)
	for range 2000 {
		l := anySamples(d, d.IntN(60), 4000000)
		hum := anySamples(d, from(d, 1, 30), 2000000)
		if d.IntN(2) == 0 {
			l = anySamples(d, d.IntN(60), 2000000)
		}
		clean, e := Clean(l, hum)
		dirty, f := Dirty(l, hum)
		if e != api.OK || f != api.OK {
			t.Fatalf("Clean: %d; Dirty: %d", e, f)
		}
		expectBack(t, l, clean, hum, Dirty)
		expectBack(t, l, dirty, hum, Clean)
		if t.Failed() {
			t.FailNow()
		}
	}
}

// expectBack checks that a function gives back samples from what they became; it takes none that are too far from 0.
func expectBack(t *testing.T, l, became, hum []int, back func(l, hum []int) ([]int, api.Errno)) {
	t.Helper()
	m, e := back(became, hum)
	if slices.ContainsFunc(became, func(n int) bool { return apart(n, 0) > 4000000 }) {
		if m != nil || e != api.ErrRange {
			t.Errorf("back of %v with %v = %v, %d", became, hum, m, e)
		}
	} else if !slices.Equal(m, l) || e != api.OK {
		t.Errorf("back of %v with %v = %v, %d; want %v", became, hum, m, e, l)
	}
}
