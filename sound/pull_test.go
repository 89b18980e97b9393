package sound

import (
	"slices"
	"testing"

	"telecine/api"
)

// expectPull checks what Pull returns.
func expectPull(t *testing.T, l []int, begin, step, many int, want []int, e api.Errno) {
	t.Helper()
	if m, f := Pull(l, begin, step, many); !slices.Equal(m, want) || f != e {
		t.Errorf("Pull of %v from %d, step %d, %d = %v, %d; want %v, %d", l, begin, step, many, m, f, want, e)
	}
}

// P9.8: the examples, and numbers at, between and behind the samples.
func TestPull(t *testing.T) {
	l := []int{0, 10, 20}
	expectPull(t, l, 500, 500, 5, []int{5, 10, 15, 20, 20}, api.OK)
	expectPull(t, l, 0, 1000, 3, l, api.OK)
	expectPull(t, l, 0, 1000, 5, []int{0, 10, 20, 20, 20}, api.OK)
	expectPull(t, l, 0, 2000, 3, []int{0, 20, 20}, api.OK)
	expectPull(t, l, 0, 0, 2, []int{0, 0}, api.OK)
	expectPull(t, l, 1999, 1, 3, []int{19, 20, 20}, api.OK)
	expectPull(t, l, 99, 1, 2, []int{0, 1}, api.OK)
	expectPull(t, l, 999, 1, 2, []int{9, 10}, api.OK)
	expectPull(t, l, 4000000, 4000000, 2, []int{20, 20}, api.OK)
	expectPull(t, l, 0, 5, 0, nil, api.OK)
	expectPull(t, []int{5, 8}, 333, 333, 3, []int{5, 6, 7}, api.OK)
	// Differences below 0 are rounded down too.
	expectPull(t, []int{0, -1}, 0, 1, 3, []int{0, -1, -1}, api.OK)
	expectPull(t, []int{0, -1}, 0, 500, 3, []int{0, -1, -1}, api.OK)
	expectPull(t, []int{8, 5}, 333, 333, 3, []int{7, 6, 5}, api.OK)
	expectPull(t, []int{1000000, -1000000}, 0, 250, 5, []int{1000000, 500000, 0, -500000, -1000000}, api.OK)
	expectPull(t, []int{7}, 0, 1, 2, []int{7, 7}, api.OK)
	expectPull(t, []int{7}, 4000000, 0, 1, []int{7}, api.OK)
	all := anySamples(dice(11), 4000, 1000000)
	expectPull(t, all, 0, 1000, 4000, all, api.OK)
	expectPull(t, all, 3999000, 4000000, 4000, slices.Repeat(all[3999:], 4000), api.OK)
}

// P9.8: the errors of Pull, and which one comes first.
func TestPullErrors(t *testing.T) {
	expectPull(t, make([]int, 4001), -1, -1, -1, nil, api.ErrLong)
	expectPull(t, slices.Repeat([]int{1000001}, 4001), 0, 0, 0, nil, api.ErrLong)
	expectPull(t, []int{1000001}, -1, 0, 0, nil, api.ErrRange)
	expectPull(t, []int{0, -1000001}, 0, 0, 0, nil, api.ErrRange)
	expectPull(t, nil, 0, 0, 0, nil, api.ErrDown)
	expectPull(t, nil, -1, -1, -1, nil, api.ErrDown)
	for _, n := range []int{-1 << 63, -1, 4000001, 1 << 62, 1<<63 - 1} {
		expectPull(t, []int{7}, n, 0, 1, nil, api.ErrRange)
		expectPull(t, []int{7}, 0, n, 1, nil, api.ErrRange)
		expectPull(t, []int{7}, 0, 0, n, nil, api.ErrRange)
		expectPull(t, []int{7}, n, n, n, nil, api.ErrRange)
	}
	expectPull(t, []int{7}, 0, 0, 4001, nil, api.ErrRange)
	expectPull(t, []int{7}, 4000000, 4000000, 4000, slices.Repeat([]int{7}, 4000), api.OK)
}

// P9.8, P9.16: Pull against a slow version of the definition; what is pulled lies from the least to the greatest sample, and is all of them with the step 1000 from 0 on.
func TestPullIsTheDefinition(t *testing.T) {
	d := dice(12)
	for i := range 2000 {
		l := anySamples(d, from(d, 1, 12), []int{1, 100, 1000000}[i%3])
		begin, step, many := d.IntN(2000), d.IntN(1+d.IntN(4000)), d.IntN(40)
		if d.IntN(20) == 0 {
			begin, step = d.IntN(4000001), d.IntN(4000001)
		}
		want := slowPull(l, begin, step, many)
		expectPull(t, l, begin, step, many, want, api.OK)
		for _, n := range want {
			if n < slices.Min(l) || n > slices.Max(l) {
				t.Errorf("Pull of %v from %d, step %d, %d: %d", l, begin, step, many, n)
			}
		}
		expectPull(t, l, 0, 1000, len(l), l, api.OK)
		if t.Failed() {
			t.FailNow()
		}
	}
}
