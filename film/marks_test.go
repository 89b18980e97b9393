package film

import (
	"math/rand/v2"
	"slices"
	"testing"

	"telecine/api"
)

// marks returns marks from their frames, rolls and numbers.
func marks(list ...[3]int) []api.FmMark {
	var l []api.FmMark
	for _, m := range list {
		l = append(l, api.FmMark{Frame: m[0], Roll: m[1], Number: m[2]})
	}
	return l
}

// P1.3: the gaps between two marks, and the marks that contradict the one before them.
func TestGaps(t *testing.T) {
	for i, c := range []struct {
		gauge int
		marks []api.FmMark
		gaps  []api.FmGap
		wrong []int
	}{
		{35, nana().Marks, []api.FmGap{{From: 42, Until: 130, Missing: 8}, {From: 200, Until: 215, Missing: 1}}, nil},
		{35, nil, nil, nil},
		{35, marks([3]int{5, 1, 9}), nil, nil},
		{35, marks([3]int{0, 1, 5}, [3]int{16, 1, 6}), nil, nil},
		{35, marks([3]int{0, 1, 5}, [3]int{17, 1, 6}), nil, []int{1}},
		{35, marks([3]int{0, 1, 5}, [3]int{1, 1, 5}), nil, []int{1}},
		{35, marks([3]int{0, 1, 9999}, [3]int{999, 1, 0}), nil, []int{1}},
		{35, marks([3]int{0, 1, 0}, [3]int{999, 1, 9999}), []api.FmGap{{From: 0, Until: 999, Missing: 158985}}, nil},
		{16, marks([3]int{0, 1, 5}, [3]int{39, 1, 6}, [3]int{80, 1, 7}), []api.FmGap{{From: 0, Until: 39, Missing: 1}}, []int{2}},
		{8, marks([3]int{0, 1, 5}, [3]int{79, 1, 6}, [3]int{160, 1, 7}), []api.FmGap{{From: 0, Until: 79, Missing: 1}}, []int{2}},
		// Marks of a roll do not belong together across one of another roll.
		{35, marks([3]int{0, 1, 5}, [3]int{3, 2, 5}, [3]int{6, 1, 9}), nil, nil},
		// A mark is held against the one before it, even if that one is wrong.
		{35, marks([3]int{0, 1, 5}, [3]int{20, 1, 6}, [3]int{35, 1, 7}, [3]int{60, 1, 8}), []api.FmGap{{From: 20, Until: 35, Missing: 1}}, []int{1, 3}},
	} {
		r := nana()
		r.Gauge, r.Marks = c.gauge, c.marks
		gaps, wrong, e := Gaps(r)
		if !slices.Equal(gaps, c.gaps) || !slices.Equal(wrong, c.wrong) || e != api.OK {
			t.Errorf("%d: Gaps = %v, %v, %d", i, gaps, wrong, e)
		}
	}
}

// P1.4: the place of a frame, before, at, between and behind marks.
func TestPlace(t *testing.T) {
	end := api.MaxFmNumber * 16
	two := marks([3]int{10, 1, 5}, [3]int{20, 2, 7}, [3]int{40, 2, 9})
	for i, c := range []struct {
		marks       []api.FmMark
		frame, roll int
		at          api.Span
		e           api.Errno
	}{
		{nana().Marks, 50, 4, api.Span{Lo: 1640, Hi: 1648}, api.OK},
		{nana().Marks, 42, 4, api.Span{Lo: 1632, Hi: 1632}, api.OK},
		{nana().Marks, 150, 4, api.Span{Lo: 1748, Hi: 159984}, api.OK},
		{nana().Marks, 5, 4, api.Span{Lo: 0, Hi: 1595}, api.OK},
		{nana().Marks, 999, 7, api.Span{Lo: 1280, Hi: 159984}, api.OK},
		{two, 0, 1, api.Span{Lo: 0, Hi: 70}, api.OK},
		{two, 9, 1, api.Span{Lo: 0, Hi: 79}, api.OK},
		{two, 10, 1, api.Span{Lo: 80, Hi: 80}, api.OK},
		{two, 11, 1, api.Span{Lo: 81, Hi: end}, api.OK},
		{two, 19, 1, api.Span{Lo: 89, Hi: end}, api.OK},
		{two, 20, 2, api.Span{Lo: 112, Hi: 112}, api.OK},
		{two, 21, 2, api.Span{Lo: 113, Hi: 125}, api.OK},
		{two, 41, 2, api.Span{Lo: 145, Hi: end}, api.OK},
		{marks([3]int{20, 3, 1}), 3, 0, api.Span{}, api.ErrDown},
		{marks([3]int{20, 3, 1}), 4, 3, api.Span{Lo: 0, Hi: 0}, api.OK},
		{marks([3]int{20, 3, 9999}), 20, 3, api.Span{Lo: end, Hi: end}, api.OK},
		{marks([3]int{20, 3, 9999}), 21, 0, api.Span{}, api.ErrDown},
		{marks([3]int{20, 3, 5}, [3]int{37, 3, 6}), 30, 0, api.Span{}, api.ErrDown},
		{marks([3]int{20, 3, 5}, [3]int{37, 3, 6}), 37, 3, api.Span{Lo: 96, Hi: 96}, api.OK},
		{two, -1, 0, api.Span{}, api.ErrRange},
		{two, 1000, 0, api.Span{}, api.ErrRange},
		{two, 1<<63 - 1, 0, api.Span{}, api.ErrRange},
		{two, -1 << 63, 0, api.Span{}, api.ErrRange},
		{nil, 1000, 0, api.Span{}, api.ErrRange},
		{nil, 999, 0, api.Span{}, api.ErrNone},
	} {
		r := nana()
		r.Marks = c.marks
		if roll, at, e := Place(r, c.frame); roll != c.roll || at != c.at || e != c.e {
			t.Errorf("%d: Place = %d, %v, %d", i, roll, at, e)
		}
	}
}

// P1.4: the frames of a foot are those of the gauge.
func TestPlaceByGauge(t *testing.T) {
	for gauge, want := range map[int]api.Span{api.Fm35: {Lo: 1640, Hi: 1648}, api.Fm16: {Lo: 4088, Hi: 4240}, api.Fm8: {Lo: 8168, Hi: 8560}} {
		r := nana()
		r.Gauge = gauge
		if roll, at, e := Place(r, 50); roll != 4 || at != want || e != api.OK {
			t.Errorf("gauge %d: Place = %d, %v, %d", gauge, roll, at, e)
		}
	}
}

// cutRoll returns a reel that is a part of a roll, from which frames were cut, with marks that say what stands at its edges; and for each frame which one of the roll it was.
func cutRoll(d *rand.Rand) (r api.FmReel, was []int) {
	r = anyReel(d)
	s, _ := stockOf(r.Gauge)
	n := from(d, 0, 300)
	for stays := true; len(was) < 1000; n++ {
		if d.IntN(30) == 0 {
			stays = !stays
		}
		if stays {
			was = append(was, n)
		}
	}
	r.Frames, r.Marks, r.Symbols, r.Lengths = len(was), nil, nil, nil
	for frame, n := range was {
		if n%s.foot == 0 && d.IntN(4) > 0 && len(r.Marks) < api.MaxFmMarks {
			r.Marks = append(r.Marks, api.FmMark{Frame: frame, Roll: 5, Number: n / s.foot})
		}
	}
	return r, was
}

// P1.8: of a part of a roll, from which frames were cut, Gaps and Place tell the truth.
func TestGapsAreTrue(t *testing.T) {
	d := dice(8)
	for range 200 {
		r, was := cutRoll(d)
		gaps, wrong, e := Gaps(r)
		if e != api.OK || len(wrong) > 0 {
			t.Fatalf("Gaps = %v, %v, %d", gaps, wrong, e)
		}
		var want []api.FmGap
		for i := 1; i < len(r.Marks); i++ {
			from, until := r.Marks[i-1].Frame, r.Marks[i].Frame
			if cut := was[until] - was[from] - (until - from); cut > 0 {
				want = append(want, api.FmGap{From: from, Until: until, Missing: cut})
			}
		}
		if !slices.Equal(gaps, want) {
			t.Fatalf("Gaps = %v, want %v", gaps, want)
		}
		if len(r.Marks) == 0 {
			continue
		}
		for frame, n := range was {
			roll, at, e := Place(r, frame)
			if e != api.OK || roll != 5 || n < at.Lo || n > at.Hi {
				t.Fatalf("the frame %d was %d; Place = %d, %v, %d", frame, n, roll, at, e)
			}
		}
	}
}
