package sound

import (
	"slices"
	"testing"

	"telecine/api"
)

// expectBloop checks what Bloop returns, and without an error what Unbloop makes of that.
func expectBloop(t *testing.T, l, splices []int, reach int, after, kept []int, want api.Errno) {
	t.Helper()
	m, k, e := Bloop(l, splices, reach)
	if !slices.Equal(m, after) || !slices.Equal(k, kept) || e != want {
		t.Errorf("Bloop of %v at %v with %d = %v, %v, %d; want %v, %v, %d", l, splices, reach, m, k, e, after, kept, want)
	}
	if want == api.OK {
		expectUnbloop(t, m, k, splices, reach, l, api.OK)
	}
}

// expectUnbloop checks what Unbloop returns.
func expectUnbloop(t *testing.T, l, kept, splices []int, reach int, before []int, want api.Errno) {
	t.Helper()
	if m, e := Unbloop(l, kept, splices, reach); !slices.Equal(m, before) || e != want {
		t.Errorf("Unbloop of %v with %v at %v with %d = %v, %d; want %v, %d", l, kept, splices, reach, m, e, before, want)
	}
}

// P9.7: the examples, and pops inside, at the first, and at the last sample.
func TestBloop(t *testing.T) {
	l := []int{1, 2, 90, 4, 5}
	expectBloop(t, l, []int{2}, 0, []int{1, 2, 3, 4, 5}, []int{90}, api.OK)
	expectBloop(t, l, []int{2}, 1, []int{1, 2, 3, 4, 5}, []int{2, 90, 4}, api.OK)
	expectBloop(t, l, []int{2}, 2, nil, nil, api.ErrDown)
	expectBloop(t, l, []int{0}, 0, []int{2, 2, 90, 4, 5}, []int{1}, api.OK)
	expectBloop(t, l, []int{0}, 1, []int{90, 90, 90, 4, 5}, []int{1, 2}, api.OK)
	expectBloop(t, l, []int{1}, 1, []int{4, 4, 4, 4, 5}, []int{1, 2, 90}, api.OK)
	expectBloop(t, l, []int{0}, 3, []int{5, 5, 5, 5, 5}, []int{1, 2, 90, 4}, api.OK)
	expectBloop(t, l, []int{0}, 4, nil, nil, api.ErrDown)
	expectBloop(t, l, []int{4}, 0, []int{1, 2, 90, 4, 4}, []int{5}, api.OK)
	expectBloop(t, l, []int{4}, 1, []int{1, 2, 90, 90, 90}, []int{4, 5}, api.OK)
	expectBloop(t, l, []int{3}, 2, []int{1, 1, 1, 1, 1}, []int{2, 90, 4, 5}, api.OK)
	expectBloop(t, l, []int{4}, 3, []int{1, 1, 1, 1, 1}, []int{2, 90, 4, 5}, api.OK)
	expectBloop(t, l, []int{4}, 4, nil, nil, api.ErrDown)
	expectBloop(t, l, []int{2}, 50, nil, nil, api.ErrDown)
	expectBloop(t, l, nil, 50, l, nil, api.OK)
	expectBloop(t, nil, nil, 50, nil, nil, api.OK)
	expectBloop(t, []int{7}, nil, 0, []int{7}, nil, api.OK)
	expectBloop(t, []int{7}, []int{0}, 0, nil, nil, api.ErrDown)
	// Each new sample is rounded down, also below 0.
	expectBloop(t, []int{5, 0, 0, 0, -6}, []int{2}, 1, []int{5, 2, -1, -4, -6}, []int{0, 0, 0}, api.OK)
	expectBloop(t, []int{-6, 0, 0, 0, 5}, []int{2}, 1, []int{-6, -4, -1, 2, 5}, []int{0, 0, 0}, api.OK)
	expectBloop(t, []int{-1, 0, -2}, []int{1}, 0, []int{-1, -2, -2}, []int{0}, api.OK)
	expectBloop(t, []int{1000000, 5, -1000000}, []int{1}, 0, []int{1000000, 0, -1000000}, []int{5}, api.OK)
}

// P9.7: one splice behind the other, by the samples as they are then; a pop that cannot be bridged leaves all as it is.
func TestBloopSeveral(t *testing.T) {
	l := []int{0, 7, 8, 9, 9}
	expectBloop(t, l, []int{2, 1}, 0, []int{0, 4, 8, 9, 9}, []int{8, 7}, api.OK)
	expectBloop(t, l, []int{1, 2}, 0, []int{0, 4, 6, 9, 9}, []int{7, 8}, api.OK)
	expectBloop(t, l, []int{1, 1}, 0, []int{0, 4, 8, 9, 9}, []int{7, 4}, api.OK)
	expectBloop(t, l, []int{1, 3}, 1, []int{9, 9, 9, 9, 9}, []int{0, 7, 8, 9, 9, 9}, api.OK)
	expectBloop(t, l, []int{4, 0}, 1, []int{8, 8, 8, 8, 8}, []int{9, 9, 0, 7}, api.OK)
	expectBloop(t, l, []int{4, 2}, 2, nil, nil, api.ErrDown)
	expectBloop(t, l, []int{2, 4}, 2, nil, nil, api.ErrDown)
	expectBloop(t, make([]int, 101), []int{49, 51}, 50, make([]int, 101), make([]int, 200), api.OK)
	expectBloop(t, make([]int, 101), []int{50}, 50, nil, nil, api.ErrDown)
	expectBloop(t, make([]int, 102), []int{50}, 50, make([]int, 102), make([]int, 101), api.OK)
}

// P9.7: the errors of both functions, and which one comes first.
func TestPopErrors(t *testing.T) {
	l := []int{1, 2, 90, 4, 5}
	for i, c := range []struct {
		l, splices []int
		reach      int
		e          api.Errno
	}{
		{make([]int, 4001), []int{-1}, -1, api.ErrLong}, {slices.Repeat([]int{1000001}, 4001), nil, 0, api.ErrLong}, {[]int{1000001}, make([]int, 61), -1, api.ErrRange}, {[]int{-1000001}, make([]int, 61), 0, api.ErrRange}, {[]int{-1 << 63}, nil, 0, api.ErrRange},
		{l, nil, -1, api.ErrRange}, {l, nil, 51, api.ErrRange}, {l, nil, 1 << 62, api.ErrRange}, {l, make([]int, 61), 51, api.ErrRange}, {l, make([]int, 61), -1, api.ErrRange}, {l, make([]int, 61), 50, api.ErrLong}, {l, slices.Repeat([]int{-1}, 61), 50, api.ErrLong},
		{l, []int{5}, 0, api.ErrRange}, {l, []int{-1}, 0, api.ErrRange}, {l, []int{0, 1 << 62}, 1, api.ErrRange}, {l, []int{-1 << 63}, 50, api.ErrRange}, {nil, []int{0}, 0, api.ErrRange}, {[]int{1}, []int{0, 1}, 0, api.ErrRange}, {[]int{1}, []int{-1, 0}, 0, api.ErrRange},
	} {
		if after, kept, e := Bloop(c.l, c.splices, c.reach); after != nil || kept != nil || e != c.e {
			t.Errorf("%d: Bloop = %v, %v, %d; want %d", i, after, kept, e, c.e)
		}
		for _, kept := range [][]int{nil, {1}, make([]int, 5)} {
			expectUnbloop(t, c.l, kept, c.splices, c.reach, nil, c.e)
		}
	}
	expectBloop(t, make([]int, 4000), make([]int, 60), 50, make([]int, 4000), make([]int, 60*51), api.OK)
}

// P9.7: what Unbloop does with any kept samples.
func TestUnbloop(t *testing.T) {
	l := []int{1, 2, 3}
	expectUnbloop(t, l, []int{9}, []int{1}, 0, []int{1, 9, 3}, api.OK)
	expectUnbloop(t, l, []int{7, 8, 9}, []int{1}, 9, []int{7, 8, 9}, api.OK)
	expectUnbloop(t, l, []int{7, 8}, []int{1, 1}, 0, []int{1, 7, 3}, api.OK)
	expectUnbloop(t, l, []int{7, 8}, []int{2, 0}, 0, []int{8, 2, 7}, api.OK)
	expectUnbloop(t, l, []int{7, 8, 9, 10, 11}, []int{2, 1}, 1, []int{9, 7, 8}, api.OK)
	expectUnbloop(t, l, []int{1 << 62}, []int{0}, 0, []int{1 << 62, 2, 3}, api.OK)
	expectUnbloop(t, l, nil, nil, 3, l, api.OK)
	expectUnbloop(t, l, nil, []int{1}, 0, nil, api.ErrArg)
	expectUnbloop(t, l, []int{7}, nil, 0, nil, api.ErrArg)
	expectUnbloop(t, l, []int{7}, []int{1}, 1, nil, api.ErrArg)
	expectUnbloop(t, l, []int{7, 8}, []int{1}, 0, nil, api.ErrArg)
	expectUnbloop(t, l, []int{7, 8}, []int{1}, 1, nil, api.ErrArg)
	expectUnbloop(t, l, []int{7, 8, 9, 10}, []int{1}, 1, nil, api.ErrArg)
	expectUnbloop(t, l, []int{7, 8, 9}, []int{0}, 1, nil, api.ErrArg)
}

// P9.7, P9.14: Bloop against a slow version of the definition, and Unbloop of what it returns.
func TestBloopIsTheDefinition(t *testing.T) {
	d := dice(10)
	var down int
	for i := range 5000 {
		l := anySamples(d, from(d, 1, 40), []int{3, 100, 1000000}[i%3])
		splices := make([]int, d.IntN(8))
		for i := range splices {
			splices[i] = d.IntN(len(l))
		}
		reach := d.IntN(1 + d.IntN(20))
		after, kept, ok := slowBloop(l, splices, reach)
		want := api.OK
		if !ok {
			want = api.ErrDown
			down++
		}
		expectBloop(t, l, splices, reach, after, kept, want)
		if t.Failed() {
			t.FailNow()
		}
	}
	if !within(down, 500, 3000) {
		t.Errorf("down: %d", down)
	}
}
