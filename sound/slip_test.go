package sound

import (
	"slices"
	"testing"

	"telecine/api"
	"telecine/bench"
)

// cuts returns cuts of pairs of their first and last frames.
func cuts(numbers ...int) (l []api.BnCut) {
	for c := range slices.Chunk(numbers, 2) {
		l = append(l, api.BnCut{From: c[0], Until: c[1]})
	}
	return l
}

// expectSlip checks what Slip returns.
func expectSlip(t *testing.T, frames, lead int, l []api.BnCut, frame, want int, e api.Errno) {
	t.Helper()
	if n, f := Slip(frames, lead, l, frame); n != want || f != e {
		t.Errorf("Slip of %d frames, lead %d, %v, of %d = %d, %d; want %d, %d", frames, lead, l, frame, n, f, want, e)
	}
}

// P9.5: the examples, and frames at the ends of cuts and of the print.
func TestSlip(t *testing.T) {
	one := cuts(30, 39)
	expectSlip(t, 100, 20, one, 5, 0, api.OK)
	expectSlip(t, 100, 20, one, 9, 0, api.OK)
	expectSlip(t, 100, 20, one, 10, 0, api.SdErrLost)
	expectSlip(t, 100, 20, one, 15, 0, api.SdErrLost)
	expectSlip(t, 100, 20, one, 19, 0, api.SdErrLost)
	expectSlip(t, 100, 20, one, 20, 10, api.OK)
	expectSlip(t, 100, 20, one, 25, 10, api.OK)
	expectSlip(t, 100, 20, one, 29, 10, api.OK)
	expectSlip(t, 100, 20, one, 30, 0, api.ErrNone)
	expectSlip(t, 100, 20, one, 35, 0, api.ErrNone)
	expectSlip(t, 100, 20, one, 39, 0, api.ErrNone)
	expectSlip(t, 100, 20, one, 40, 0, api.OK)
	expectSlip(t, 100, 20, one, 50, 0, api.OK)
	expectSlip(t, 100, 20, one, 79, 0, api.OK)
	expectSlip(t, 100, 20, one, 80, 0, api.ErrRange)
	expectSlip(t, 100, 20, one, 99, 0, api.ErrRange)
	// Several cuts, numbered as the frames are then.
	expectSlip(t, 100, 20, cuts(30, 34, 30, 34), 25, 10, api.OK)
	expectSlip(t, 100, 20, cuts(30, 34, 20, 24), 19, 10, api.OK)
	expectSlip(t, 100, 20, cuts(0, 9, 20, 24), 25, 5, api.OK)
	expectSlip(t, 100, 20, cuts(0, 9, 20, 24), 12, 0, api.SdErrLost)
	expectSlip(t, 100, 20, cuts(0, 9, 20, 24), 35, 0, api.OK)
	expectSlip(t, 100, 20, cuts(1, 19), 0, 19, api.OK)
	// The least and the greatest lead and print.
	expectSlip(t, 1, 0, nil, 0, 0, api.OK)
	expectSlip(t, 1, 1, nil, 0, 0, api.ErrRange)
	expectSlip(t, 200000, 100, nil, 199899, 0, api.OK)
	expectSlip(t, 200000, 100, nil, 199900, 0, api.ErrRange)
	expectSlip(t, 200000, 100, cuts(1, 99), 0, 99, api.OK)
	expectSlip(t, 200000, 0, cuts(1, 99), 0, 0, api.OK)
}

// P9.5: the errors of Slip, and which one comes first.
func TestSlipErrors(t *testing.T) {
	expectSlip(t, 100, -1, nil, 5, 0, api.ErrRange)
	expectSlip(t, 100, 101, nil, 5, 0, api.ErrRange)
	expectSlip(t, 1000, 101, nil, 5, 0, api.ErrRange)
	expectSlip(t, 1000, 100, nil, 5, 0, api.OK)
	expectSlip(t, 1000, 1<<62, nil, 5, 0, api.ErrRange)
	expectSlip(t, 100, 101, cuts(5, 4), 5, 0, api.ErrRange)
	expectSlip(t, 100, 101, cuts(5, 5), 5, 0, api.ErrRange)
	expectSlip(t, 100, 100, cuts(5, 4), 5, 0, api.ErrArg)
	expectSlip(t, 100, 20, make([]api.BnCut, 31), 5, 0, api.ErrLong)
	expectSlip(t, 0, 20, make([]api.BnCut, 31), 5, 0, api.ErrRange)
	expectSlip(t, 200001, 20, nil, 5, 0, api.ErrRange)
	expectSlip(t, 100, 20, nil, 100, 0, api.ErrRange)
	expectSlip(t, 100, 20, nil, -1, 0, api.ErrRange)
	expectSlip(t, 100, 20, nil, 1<<63-1, 0, api.ErrRange)
	// A frame that is cut out comes before a sound behind the print.
	expectSlip(t, 100, 20, cuts(90, 95), 92, 0, api.ErrNone)
	expectSlip(t, 100, 20, cuts(90, 95), 89, 0, api.ErrRange)
	expectSlip(t, 100, 20, cuts(90, 99), 79, 0, api.SdErrLost)
	expectSlip(t, 100, 20, cuts(0, 99), 79, 0, api.ErrNone)
}

// P9.5, P9.13: Slip against the frames that cuts leave; the sound comes too early by what is cut out between, and without cuts by nothing.
func TestSlipFrames(t *testing.T) {
	d := dice(6)
	slips := map[api.Errno]int{}
	for range 2000 {
		frames, lead := from(d, 1, 60), d.IntN(1+d.IntN(40))
		list, left := anyCuts(d, frames)
		for frame := range frames {
			want, e := slowSlip(frames, lead, left, frame)
			expectSlip(t, frames, lead, list, frame, want, e)
			if e != api.OK {
				slips[e]++
				continue
			}
			between := 0
			for f := frame + 1; f < frame+lead; f++ {
				if !slices.Contains(left, f) {
					between++
				}
			}
			if want != between {
				t.Errorf("Slip of %d frames, lead %d, %v, of %d: %d; cut out: %d", frames, lead, list, frame, want, between)
			}
			expectSlip(t, frames, lead, nil, frame, 0, api.OK)
			slips[api.OK] += want
		}
		if t.Failed() {
			t.FailNow()
		}
	}
	for _, e := range []api.Errno{api.OK, api.ErrNone, api.ErrRange, api.SdErrLost} {
		if slips[e] < 1000 {
			t.Errorf("slips: %v", slips)
		}
	}
}

// P9.5: the errors of cuts and frames are those of bench.
func TestSlipAfter(t *testing.T) {
	d := dice(7)
	results := map[api.Errno]int{}
	for range 20000 {
		frames, frame := from(d, -1, 12), from(d, -1, 12)
		var l []api.BnCut
		for range d.IntN(3) {
			l = append(l, api.BnCut{From: from(d, -1, 9), Until: from(d, 0, 9)})
		}
		_, want := bench.After(frames, l, frame)
		n, e := Slip(frames, 0, l, frame)
		if n != 0 || e != want {
			t.Fatalf("Slip of %d frames, %v, of %d = %d, %d; want %d", frames, l, frame, n, e, want)
		}
		if _, e := Slip(frames, 5, l, frame); want != api.OK && e != want {
			t.Fatalf("Slip of %d frames, %v, of %d: %d; want %d", frames, l, frame, e, want)
		}
		results[e]++
	}
	for _, e := range []api.Errno{api.OK, api.ErrNone, api.ErrRange, api.ErrArg} {
		if results[e] < 200 {
			t.Errorf("results: %v", results)
		}
	}
}
