package restore

import (
	"slices"
	"testing"

	"telecine/api"
)

// nowhere is the place of a pixel that comes from nowhere.
var nowhere = api.ReAt{Frame: -1, Pixel: -1}

// expectTrace checks what Trace returns without an error.
func expectTrace(t *testing.T, l []api.SnFrame, steps []api.ReStep, frame, pixel int, at api.ReAt, by ...int) {
	t.Helper()
	if p, list, e := Trace(l, steps, frame, pixel); p != at || !slices.Equal(list, by) || e != api.OK {
		t.Errorf("Trace of the frame %d, pixel %d = %v, %v, %d; want %v, %v", frame, pixel, p, list, e, at, by)
	}
}

// P8.5: from where pixels come, and by which steps.
func TestTrace(t *testing.T) {
	l := example()
	right := step(api.ReShift, 0, 1, 1, 0, 7)
	brighter := step(api.ReLift, 0, 1, 5, 0, 0)
	at := func(frame, pixel int) api.ReAt { return api.ReAt{Frame: frame, Pixel: pixel} }
	for _, c := range []struct {
		steps        []api.ReStep
		frame, pixel int
		at           api.ReAt
		by           []int
	}{
		{nil, 1, 5, at(1, 5), nil}, {[]api.ReStep{right}, 1, 5, at(1, 4), []int{0}}, {[]api.ReStep{right}, 1, 3, nowhere, []int{0}},
		{[]api.ReStep{right, right}, 0, 2, at(0, 0), []int{0, 1}}, {[]api.ReStep{right, right}, 0, 1, nowhere, []int{0, 1}}, {[]api.ReStep{right, right}, 0, 0, nowhere, []int{1}}, {[]api.ReStep{right, right, brighter}, 0, 3, nowhere, []int{1, 2}},
		{[]api.ReStep{brighter, right}, 0, 0, nowhere, []int{1}}, {[]api.ReStep{brighter, right}, 0, 1, at(0, 0), []int{0, 1}}, {[]api.ReStep{right, brighter}, 1, 4, at(1, 3), []int{0, 1}},
		// A shift down and back; each of them has part.
		{[]api.ReStep{step(api.ReShift, 0, 0, 0, 1, 0), step(api.ReShift, 0, 0, 0, -1, 0)}, 0, 2, at(0, 2), []int{0, 1}}, {[]api.ReStep{step(api.ReShift, 0, 0, 0, 1, 0), step(api.ReShift, 0, 0, 0, -1, 0)}, 0, 5, nowhere, []int{1}},
		// Steps that do not reach a pixel, or that leave it as it is, have no part; a shift has, also if the level stays.
		{[]api.ReStep{lift()}, 0, 1, at(0, 1), nil}, {[]api.ReStep{lift()}, 0, 2, at(0, 2), []int{0}}, {[]api.ReStep{lift()}, 1, 2, at(1, 2), nil}, {[]api.ReStep{step(api.ReLift, 0, 1, 0, 0, 0)}, 0, 0, at(0, 0), nil}, {[]api.ReStep{step(api.ReShift, 0, 1, 0, 0, 7)}, 0, 0, at(0, 0), nil}, {[]api.ReStep{step(api.ReShift, 0, 0, 1, 0, 7)}, 1, 0, at(1, 0), nil}, {[]api.ReStep{step(api.ReShift, 0, 1, 1, 0, 7, box(1, 0, 1, 1))}, 0, 1, at(0, 1), nil}, {[]api.ReStep{step(api.ReShift, 0, 1, 1, 0, 7, box(1, 0, 1, 1))}, 0, 2, at(0, 1), []int{0}}, {[]api.ReStep{step(api.ReShift, 0, 1, 1, 0, 10)}, 0, 0, nowhere, []int{0}},
		{[]api.ReStep{step(api.ReLift, 0, 0, 250, 0, 0), brighter}, 0, 0, at(0, 0), []int{0}}, {[]api.ReStep{brighter, step(api.ReLift, 0, 0, -5, 0, 0)}, 0, 0, at(0, 0), []int{0, 1}},
		// The other kinds stay where they are: their levels come from beside, but not their places.
		{[]api.ReStep{step(api.ReScratch, 0, 1, 1, 1, 0)}, 0, 1, at(0, 1), nil}, {[]api.ReStep{step(api.ReScratch, 0, 1, 1, 1, 0)}, 1, 4, at(1, 4), []int{0}}, {[]api.ReStep{step(api.ReScratch, 0, 1, 0, 1, 0), right}, 0, 2, at(0, 1), []int{0, 1}}, {[]api.ReStep{toneStep(0, 1, inverse)}, 1, 4, at(1, 4), []int{0}}, {[]api.ReStep{toneStep(0, 1, func(level byte) byte { return level/50*50 + 10 })}, 0, 0, at(0, 0), nil}, {[]api.ReStep{step(api.ReGrain, 0, 0, 0, 2, 0)}, 0, 0, at(0, 0), nil}, {[]api.ReStep{step(api.ReGrain, 0, 0, 0, 2, 0)}, 0, 1, at(0, 1), []int{0}},
	} {
		expectTrace(t, l, c.steps, c.frame, c.pixel, c.at, c.by...)
	}
	dusty := frames(plain(2, 1, 100), frame(2, 120, 105), plain(2, 1, 100))
	expectTrace(t, dusty, []api.ReStep{step(api.ReDust, 0, 2, 10, 0, 0)}, 1, 0, at(1, 0), 0)
	expectTrace(t, dusty, []api.ReStep{step(api.ReDust, 0, 2, 10, 0, 0)}, 1, 1, at(1, 1))
	// All rows in a frame that is wider than high: no pixel comes over its side from the row above.
	expectTrace(t, l, []api.ReStep{step(api.ReShift, 0, 1, -1, 0, 7)}, 0, 2, nowhere, 0)
	expectTrace(t, l, []api.ReStep{step(api.ReShift, 0, 1, -2, -1, 7)}, 0, 0, at(0, 5), 0)
	expectTrace(t, l, []api.ReStep{step(api.ReShift, 0, 1, 2, 1, 7)}, 1, 5, at(1, 0), 0)
	expectTrace(t, l, []api.ReStep{step(api.ReShift, 0, 1, 0, 1, 7)}, 1, 2, nowhere, 0)
	expectTrace(t, l, []api.ReStep{step(api.ReShift, 0, 1, 0, -1, 7)}, 1, 3, nowhere, 0)
}

// P8.5: frames and pixels that are not there.
func TestTraceErrors(t *testing.T) {
	for _, c := range []struct{ frame, pixel int }{{-1, 0}, {2, 0}, {0, -1}, {0, 6}, {1, 6}, {2, 6}, {-1 << 63, 1<<63 - 1}, {0, 1 << 40}} {
		for _, steps := range [][]api.ReStep{nil, {lift()}} {
			if at, by, e := Trace(example(), steps, c.frame, c.pixel); at != (api.ReAt{}) || by != nil || e != api.ErrNone {
				t.Errorf("Trace of the frame %d, pixel %d = %v, %v, %d", c.frame, c.pixel, at, by, e)
			}
		}
		// The error of the steps comes first, and before it that of the film.
		if at, by, e := Trace(example(), []api.ReStep{lift(), {}}, c.frame, c.pixel); at != (api.ReAt{}) || by != nil || e != api.ErrArg {
			t.Errorf("Trace of the frame %d, pixel %d = %v, %v, %d", c.frame, c.pixel, at, by, e)
		}
		if at, by, e := Trace(nil, []api.ReStep{{}}, c.frame, c.pixel); at != (api.ReAt{}) || by != nil || e != api.ErrLong {
			t.Errorf("Trace of the frame %d, pixel %d = %v, %v, %d", c.frame, c.pixel, at, by, e)
		}
	}
}

// P8.5: Trace against a slow version of the definitions.
func TestTraceIsTheDefinition(t *testing.T) {
	d := dice(3)
	var lost, several int
	for range 800 {
		l := anyFilm(d, 6)
		steps := anyProgram(d, l, 20)
		all := slowOrigins(l, steps)
		for range 20 {
			p := api.ReAt{Frame: d.IntN(len(l)), Pixel: d.IntN(len(l[0].Pixels))}
			o := all[p]
			expectTrace(t, l, steps, p.Frame, p.Pixel, o.at, o.by...)
			if o.at == nowhere {
				lost++
			} else if o.at != p && len(o.by) > 1 {
				several++
			}
		}
		if t.Failed() {
			t.FailNow()
		}
	}
	if lost < 1000 || several < 500 {
		t.Errorf("lost, several: %d, %d", lost, several)
	}
}
