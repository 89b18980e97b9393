package restore

import (
	"slices"
	"testing"

	"telecine/api"
)

// P8.3: shifts to all sides, also out of the frame, and with boxes that keep what they have but are shifted from.
func TestDoShift(t *testing.T) {
	l := frames(frame(3, 1, 2, 3, 4, 5, 6), plain(3, 2, 8), frame(3, 6, 5, 4, 3, 2, 1))
	for _, c := range []struct {
		a, b, fill int
		want       api.SnFrame
	}{
		{0, 0, 9, l[0]}, {1, 0, 9, frame(3, 9, 1, 2, 9, 4, 5)}, {-1, 0, 9, frame(3, 2, 3, 9, 5, 6, 9)}, {0, 1, 9, frame(3, 9, 9, 9, 1, 2, 3)}, {0, -1, 9, frame(3, 4, 5, 6, 9, 9, 9)}, {2, 1, 255, frame(3, 255, 255, 255, 255, 255, 1)}, {-2, -1, 0, frame(3, 6, 0, 0, 0, 0, 0)}, {1, -1, 9, frame(3, 9, 4, 5, 9, 9, 9)},
		{3, 0, 9, plain(3, 2, 9)}, {-3, 0, 9, plain(3, 2, 9)}, {0, 2, 9, plain(3, 2, 9)}, {0, -2, 9, plain(3, 2, 9)}, {47, 47, 9, plain(3, 2, 9)}, {-47, -47, 255, plain(3, 2, 255)},
	} {
		expectDo(t, l, step(api.ReShift, 0, 0, c.a, c.b, c.fill), c.want, l[1], l[2])
	}
	expectDo(t, l, step(api.ReShift, 1, 2, 1, 0, 9), l[0], frame(3, 9, 8, 8, 9, 8, 8), frame(3, 9, 6, 5, 9, 3, 2))
	expectDo(t, l, step(api.ReShift, 0, 0, 1, 0, 9, box(0, 0, 1, 0), box(1, 0, 1, 1)), frame(3, 1, 2, 2, 9, 5, 5), l[1], l[2])
	wide := plain(48, 48, 0)
	wide.Pixels[0] = 200
	want := plain(48, 48, 7)
	want.Pixels[2303] = 200
	expectDo(t, frames(wide), step(api.ReShift, 0, 0, 47, 47, 7), want)
	expectDo(t, frames(want), step(api.ReShift, 0, 0, -47, -47, 7), frame(48, append([]byte{200}, plain(48, 48, 7).Pixels[1:]...)...))
}

// P8.3: tones, lifts and grain, at the ends of the levels.
func TestDoLevels(t *testing.T) {
	l := frames(frame(2, 0, 1, 254, 255), frame(2, 100, 101, 0, 255))
	expectDo(t, l, toneStep(0, 1, inverse), frame(2, 255, 254, 1, 0), frame(2, 155, 154, 255, 0))
	expectDo(t, l, toneStep(1, 1, inverse, box(0, 0, 0, 1)), l[0], frame(2, 100, 154, 0, 0))
	expectDo(t, l, toneStep(0, 0, func(byte) byte { return 7 }), plain(2, 2, 7), l[1])
	expectDo(t, l, toneStep(0, 1, func(level byte) byte { return level }), l...)
	for _, c := range []struct {
		by   int
		want api.SnFrame
	}{
		{0, l[0]}, {1, frame(2, 1, 2, 255, 255)}, {2, frame(2, 2, 3, 255, 255)}, {255, plain(2, 2, 255)}, {254, frame(2, 254, 255, 255, 255)}, {-1, frame(2, 0, 0, 253, 254)}, {-254, frame(2, 0, 0, 0, 1)}, {-255, plain(2, 2, 0)},
	} {
		expectDo(t, l, step(api.ReLift, 0, 0, c.by, 0, 0), c.want, l[1])
	}
	expectDo(t, l, step(api.ReLift, 0, 1, 5, 0, 0, box(1, 1, 1, 1), box(0, 0, 0, 0)), frame(2, 0, 6, 255, 255), frame(2, 100, 106, 5, 255))
	expectDo(t, l, step(api.ReGrain, 0, 1, 1000, 0, 0), l...)
}

// P8.3: grain by its numbers, worked out by hand for some pixels: it differs from frame to frame, and stops at black and at white.
func TestDoGrain(t *testing.T) {
	// The first pixel has h 166299 + 2618225 in the frame 0 with A 0, which leaves 32642 modulo 65521.
	for _, c := range []struct{ b, want int }{{1, 100 + 32642%3 - 1}, {2, 100 + 32642%5 - 2}, {7, 100 + 32642%15 - 7}, {40, 100 + 32642%81 - 40}} {
		expectDo(t, frames(plain(1, 1, 100)), step(api.ReGrain, 0, 0, 0, c.b, 0), plain(1, 1, byte(c.want)))
	}
	// In the frame 11 with A 1000 the last pixel of 48 by 48 has 1001 times 14 times 2310 times 7919, and 2308 times 2308 times 104729.
	rest := (1001*14*2310*7919 + 2308*2308*104729) % 65521
	last := slices.Repeat(frames(plain(48, 48, 100)), 12)
	film, _, e := Do(last, step(api.ReGrain, 11, 11, 1000, 40, 0))
	if want := byte(100 + rest%81 - 40); e != api.OK || film[11].Pixels[2303] != want {
		t.Errorf("Do: %d, %d; want %d", film[11].Pixels[2303], e, want)
	}
	for _, level := range []byte{0, 1, 39, 40, 215, 216, 254, 255} {
		l := slices.Repeat(frames(plain(12, 9, level)), 3)
		s := step(api.ReGrain, 0, 2, 17, 40, 0)
		expectDo(t, l, s, slowDo(l, s)...)
	}
}

// P8.3: scratches of several columns, at the sides and between, row by row.
func TestDoScratch(t *testing.T) {
	l := frames(frame(5, 10, 1, 2, 3, 51, 255, 9, 8, 7, 0))
	for _, c := range []struct {
		a, b int
		want api.SnFrame
	}{
		{1, 3, frame(5, 10, 20, 30, 40, 51, 255, 191, 127, 63, 0)},
		{1, 1, frame(5, 10, 6, 2, 3, 51, 255, 131, 8, 7, 0)},
		{1, 2, frame(5, 10, 7, 5, 3, 51, 255, 172, 89, 7, 0)},
		{2, 3, frame(5, 10, 1, 17, 34, 51, 255, 9, 6, 3, 0)},
		{3, 3, frame(5, 10, 1, 2, 26, 51, 255, 9, 8, 4, 0)},
		{0, 0, frame(5, 1, 1, 2, 3, 51, 9, 9, 8, 7, 0)},
		{0, 3, frame(5, 51, 51, 51, 51, 51, 0, 0, 0, 0, 0)},
		{4, 4, frame(5, 10, 1, 2, 3, 3, 255, 9, 8, 7, 7)},
		{1, 4, frame(5, 10, 10, 10, 10, 10, 255, 255, 255, 255, 255)},
	} {
		expectDo(t, l, step(api.ReScratch, 0, 0, c.a, c.b, 0), c.want)
	}
	// What is kept stays, and what is beside the scratch counts also if it is kept.
	expectDo(t, l, step(api.ReScratch, 0, 0, 1, 3, 0, box(0, 0, 2, 0), box(3, 1, 4, 1)), frame(5, 10, 1, 2, 40, 51, 255, 191, 127, 7, 0))
	two := frames(l[0], frame(5, 0, 0, 0, 0, 4, 8, 0, 0, 0, 0), l[0])
	expectDo(t, two, step(api.ReScratch, 1, 1, 1, 3, 0), l[0], frame(5, 0, 1, 2, 3, 4, 8, 6, 4, 2, 0), l[0])
}

// P8.3: dust needs a frame before and one behind, that are alike, and differ from it.
func TestDoDust(t *testing.T) {
	before, behind := frame(4, 100, 100, 0, 255), frame(4, 104, 105, 1, 253)
	l := frames(before, frame(4, 120, 80, 200, 0), behind, plain(4, 1, 0))
	mended := func(levels ...byte) []api.SnFrame { return frames(before, frame(4, levels...), behind, l[3]) }
	for _, c := range []struct {
		a, b int
		want []api.SnFrame
	}{
		{16, 4, mended(102, 80, 0, 254)}, {17, 4, mended(120, 80, 0, 254)}, {16, 3, mended(120, 80, 0, 254)}, {16, 5, mended(102, 102, 0, 254)}, {20, 5, mended(120, 102, 0, 254)}, {21, 5, mended(120, 80, 0, 254)}, {199, 1, mended(120, 80, 0, 0)}, {200, 1, mended(120, 80, 200, 0)}, {253, 2, mended(120, 80, 200, 254)}, {254, 2, mended(120, 80, 200, 0)}, {255, 255, l}, {1, 0, l},
	} {
		expectDo(t, l, step(api.ReDust, 1, 1, c.a, c.b, 0), c.want...)
		// The last frame has none behind it, the first one none before it.
		expectDo(t, l, step(api.ReDust, 0, 1, c.a, c.b, 0), c.want...)
		expectDo(t, l, step(api.ReDust, 3, 3, c.a, c.b, 0), l...)
		expectDo(t, l, step(api.ReDust, 0, 0, c.a, c.b, 0), l...)
	}
	expectDo(t, l, step(api.ReDust, 1, 1, 1, 255, 0, box(1, 0, 2, 0)), mended(102, 80, 200, 254)...)
	// A frame beside the frames of the step counts; a single frame has none.
	expectDo(t, l[:2], step(api.ReDust, 0, 1, 1, 255, 0), l[:2]...)
	expectDo(t, l[:1], step(api.ReDust, 0, 0, 1, 255, 0), l[:1]...)
	// All at once: the second and the third of these frames both are looked at as they were.
	row := frames(plain(1, 1, 10), plain(1, 1, 90), plain(1, 1, 20), plain(1, 1, 80))
	expectDo(t, row, step(api.ReDust, 0, 3, 1, 255, 0), plain(1, 1, 10), plain(1, 1, 15), plain(1, 1, 85), plain(1, 1, 80))
	expectDo(t, frames(plain(1, 1, 10), plain(1, 1, 10), plain(1, 1, 10)), step(api.ReDust, 0, 2, 1, 255, 0), plain(1, 1, 10), plain(1, 1, 10), plain(1, 1, 10))
}

// P8.3: changes are those of all frames, by frames and then by numbers, and only of pixels that become others.
func TestDoChanges(t *testing.T) {
	_, l, e := Do(example(), step(api.ReShift, 0, 1, 1, 0, 7, box(1, 1, 1, 1)))
	if want := changes(0, 0, 10, 7, 0, 1, 20, 10, 0, 2, 30, 20, 0, 3, 40, 7, 0, 5, 60, 50, 1, 0, 10, 7, 1, 1, 20, 10, 1, 2, 30, 20, 1, 3, 40, 7, 1, 5, 60, 90); !slices.Equal(l, want) || e != api.OK {
		t.Errorf("Do: %v, %d; want %v", l, e, want)
	}
	_, l, e = Do(example(), step(api.ReScratch, 0, 1, 1, 1, 0))
	if want := changes(1, 4, 90, 50); !slices.Equal(l, want) || e != api.OK {
		t.Errorf("Do: %v, %d; want %v", l, e, want)
	}
}

// P8.3: the steps of a program are done one after the other, and each has its changes in the log, also if there are none.
func TestRun(t *testing.T) {
	steps := []api.ReStep{lift(), step(api.ReLift, 0, 1, 0, 0, 0), step(api.ReShift, 0, 1, 1, 0, 7), step(api.ReLift, 1, 1, 5, 0, 0, box(0, 0, 2, 0))}
	film, log, e := Run(example(), steps)
	want := frames(frame(3, 7, 10, 20, 7, 240, 250), frame(3, 7, 10, 20, 12, 45, 95))
	wantLog := logOf(lifted(), nil, changes(0, 0, 10, 7, 0, 1, 20, 10, 0, 2, 230, 20, 0, 3, 240, 7, 0, 4, 250, 240, 0, 5, 255, 250, 1, 0, 10, 7, 1, 1, 20, 10, 1, 2, 30, 20, 1, 3, 40, 7, 1, 4, 90, 40, 1, 5, 60, 90), changes(1, 3, 7, 12, 1, 4, 40, 45, 1, 5, 90, 95))
	if !alikeFilms(film, want) || !alikeLogs(log, wantLog) || e != api.OK {
		t.Errorf("Run = %v, %v, %d; want %v, %v", film, log, e, want, wantLog)
	}
	if film, log, e := Run(example(), nil); !alikeFilms(film, example()) || len(log) != 0 || e != api.OK {
		t.Errorf("Run = %v, %v, %d", film, log, e)
	}
	twenty := slices.Repeat([]api.ReStep{step(api.ReLift, 0, 1, 3, 0, 0)}, 20)
	film, log, e = Run(example(), twenty)
	if !alikeFilms(film, frames(frame(3, 70, 80, 90, 100, 110, 120), frame(3, 70, 80, 90, 100, 150, 120))) || len(log) != 20 || e != api.OK {
		t.Errorf("Run = %v, %d steps, %d", film, len(log), e)
	}
}

// P8.3: Do and Run against a slow version of the definitions.
func TestDoIsTheDefinition(t *testing.T) {
	d := dice(1)
	var made [7]int
	for i := range 4000 {
		l := anyFilm(d, 2+i%12)
		if i%50 == 0 {
			l = anyFilm(d, 48)
		}
		s := anyStep(d, l)
		want := slowDo(l, s)
		expectDo(t, l, s, want...)
		if t.Failed() {
			t.FailNow()
		}
		if !alikeFilms(l, want) {
			made[s.Kind]++
		}
	}
	if slices.Min(made[1:]) < 100 {
		t.Errorf("made: %v", made)
	}
}

// P8.3: programs against a slow version of the definitions.
func TestRunIsTheDefinition(t *testing.T) {
	d := dice(2)
	for range 500 {
		l := anyFilm(d, 8)
		steps := anyProgram(d, l, 20)
		film, log, e := Run(l, steps)
		behind := slowRun(l, steps)
		if !alikeFilms(film, behind[len(steps)]) || len(log) != len(steps) || e != api.OK {
			t.Fatalf("Run of %v with %+v = %v, %v, %d", l, steps, film, log, e)
		}
		for i, changes := range log {
			if !slices.Equal(changes, differences(behind[i], behind[i+1])) {
				t.Fatalf("Run of %v with %+v: the step %d has %v", l, steps, i, changes)
			}
		}
	}
}
