package rescue

import (
	"math"
	"math/rand/v2"
	"slices"
	"strconv"
	"testing"

	"telecine/api"
	"telecine/decay"
)

// span returns all integers from lo to hi.
func span(lo, hi int) api.Span { return api.Span{Lo: lo, Hi: hi} }

// decaying is the reel T of the examples of chapter 2: it can be lost on the day 102.
func decaying() api.DcTask {
	day := api.DcDay{Temp: span(200, 250), Damp: span(400, 500)}
	return api.DcTask{
		Rule: api.DcRule{
			Heat: []api.DcPoint{{At: 100, Factor: 100}, {At: 300, Factor: 500}, {At: 400, Factor: 1000}},
			Wet:  []api.DcPoint{{At: 200, Factor: 200}, {At: 600, Factor: 1000}},
			Own:  50, Feed: 10000, Grades: [3]int{1000, 5000, 20000}, Lost: 1030,
		},
		First: 100, Days: []api.DcDay{day, day, day}, Start: span(900, 1000),
	}
}

// P4.7: the reel of the example, and changes of it.
func TestDue(t *testing.T) {
	plain := func(x *api.DcTask) {}
	tested := func(x *api.DcTask) { x.Tests = []api.DcTest{{Day: 101}} } // it can be lost on 103
	safe := func(x *api.DcTask) { x.Rule.Lost = 2000 }
	lost := func(x *api.DcTask) { x.Rule.Lost = 1000 } // it can be lost on 100
	begin := func(x *api.DcTask) { x.First, x.Rule.Lost = 0, 1000 }
	for i, c := range []struct {
		change       func(x *api.DcTask)
		last, margin int
		want         int
		e            api.Errno
	}{
		{plain, 103, 0, 101, api.OK},
		{plain, 102, 0, 101, api.OK},
		{plain, 101, 0, 101, api.OK},
		{plain, 100, 0, 100, api.OK},
		{plain, 103, 1, 100, api.OK},
		{plain, 103, 2, 0, api.ErrDown},
		{plain, 100, 2, 0, api.ErrDown},
		{plain, 103, math.MaxInt, 0, api.ErrDown},
		{tested, 103, 0, 102, api.OK},
		{tested, 103, 2, 100, api.OK},
		{tested, 103, 3, 0, api.ErrDown},
		{safe, 103, 0, 103, api.OK},
		{safe, 100, 3, 100, api.OK},
		{safe, 103, math.MaxInt, 103, api.OK},
		{lost, 103, 0, 0, api.ErrDown},
		{lost, 100, 0, 0, api.ErrDown},
		{begin, 3, 0, 0, api.ErrDown},
		{begin, 0, math.MaxInt, 0, api.ErrDown},
		{plain, 104, 0, 0, api.ErrRange},
		{plain, 99, 0, 0, api.ErrRange},
		{plain, math.MinInt, 0, 0, api.ErrRange},
		{plain, math.MaxInt, 0, 0, api.ErrRange},
		{plain, 103, -1, 0, api.ErrRange},
		{plain, 103, math.MinInt, 0, api.ErrRange},
		{lost, 103, -1, 0, api.ErrRange},
		{lost, 99, 0, 0, api.ErrRange},
		{func(x *api.DcTask) { x.Days = nil }, 100, 0, 100, api.OK},
		{func(x *api.DcTask) { x.Days = nil }, 101, 0, 0, api.ErrRange},
		{func(x *api.DcTask) { *x = api.DcTask{} }, 103, -1, 0, api.ErrLong},
		{func(x *api.DcTask) { x.Start = span(5, 4) }, 99, -1, 0, api.ErrArg},
		{func(x *api.DcTask) { x.Days[1].Temp.Hi = 601 }, 103, 0, 0, api.ErrRange},
	} {
		x := decaying()
		c.change(&x)
		if n, e := Due(x, c.last, c.margin); n != c.want || e != c.e {
			t.Errorf("%d: Due = %d, %d; want %d, %d", i, n, e, c.want, c.e)
		}
	}
}

// anyDecay returns some reel that decays, a course that it can really have, and tests of it, of which some are true of the course.
func anyDecay(d *rand.Rand) (x api.DcTask, course []int) {
	x = decaying()
	x.Rule.Own, x.Rule.Feed, x.Rule.Lost = d.IntN(300), d.IntN(100000), from(d, 900, 3000)
	x.First = d.IntN(1000)
	x.Start.Lo = d.IntN(1200)
	x.Start.Hi = from(d, x.Start.Lo, 1300)
	x.Days = nil
	for range d.IntN(20) {
		temp, damp := d.IntN(500), d.IntN(900)
		x.Days = append(x.Days, api.DcDay{Temp: span(temp, temp+d.IntN(100)), Damp: span(damp, damp+d.IntN(100))})
	}
	can := x.Start
	for m := range len(x.Days) + 1 {
		n := []int{can.Lo, from(d, can.Lo, can.Hi), can.Hi}[d.IntN(3)]
		course = append(course, n)
		if m < len(x.Days) {
			can, _ = decay.Grow(x.Rule, x.Days[m], span(n, n))
		}
	}
	for range d.IntN(4) {
		m := d.IntN(len(course))
		grade, _ := decay.Grade(x.Rule, course[m])
		if d.IntN(8) == 0 {
			grade = d.IntN(4)
		}
		x.Tests = append(x.Tests, api.DcTest{Day: x.First + m, Grade: grade, Error: d.IntN(4) / 3})
	}
	return x, course
}

// keeps reports whether a course keeps to all tests that are taken.
func keeps(x api.DcTask, course []int) bool {
	_, struck, _ := decay.Levels(x)
	for i, s := range x.Tests {
		grade, _ := decay.Grade(x.Rule, course[s.Day-x.First])
		taken := !slices.ContainsFunc(struck, func(y api.DcStrike) bool { return y.Test == i })
		if off := max(grade-s.Grade, s.Grade-grade); taken && off > s.Error {
			return false
		}
	}
	return true
}

// P4.14 and DOC's P2: a reel that is copied by the day of Due is not lost by then, whatever its course is; and that day is the last one with so much margin.
func TestInTime(t *testing.T) {
	d := dice(15)
	var limited, other int
	for range 20000 {
		x, course := anyDecay(d)
		if n, e := decay.Own(x, course); n != -1 || e != api.OK {
			t.Fatalf("%v is no course of %+v: %d, %d", course, x, n, e)
		}
		last, margin := x.First+d.IntN(len(course)), d.IntN(5)*d.IntN(2)
		levels, _, _ := decay.Levels(x)
		want := last
		if m := slices.IndexFunc(levels, func(n api.Span) bool { return n.Hi >= x.Rule.Lost }); m >= 0 {
			want = min(want, x.First+m-margin-1)
		}
		due, e := Due(x, last, margin)
		switch {
		case want < x.First && (due != 0 || e != api.ErrDown), want >= x.First && (due != want || e != api.OK):
			t.Fatalf("Due of %+v, %d, %d = %d, %d; want %d", x, last, margin, due, e, want)
		case e != api.OK || !keeps(x, course):
			other++
			continue
		case due < last:
			limited++
		}
		for m, n := range course[:due-x.First+1] {
			if n >= x.Rule.Lost {
				t.Fatalf("%+v is lost on %d by %v; Due of %d, %d = %d", x, x.First+m, course, last, margin, due)
			}
		}
	}
	if limited < 1000 || other > 15000 {
		t.Errorf("limited, other: %d, %d", limited, other)
	}
}

// P4.14 and DOC's P2: a reel that has a turn is copied before it is lost, if its Due is what Due returns.
func TestTurnsAreInTime(t *testing.T) {
	d := dice(16)
	turns := 0
	for range 3000 {
		w := api.RsTask{First: d.IntN(100), Days: from(d, 1, 8), Machines: []api.RsMachine{machine("lab")}}
		for range w.Days {
			w.Machines[0].Places = append(w.Machines[0].Places, d.IntN(3))
		}
		var courses [][]int
		var losts []int
		for i := range 4 {
			x, course := anyDecay(d)
			x.First, x.Tests = w.First, nil
			due, e := Due(x, w.First+min(w.Days-1, len(x.Days)), 0)
			if e != api.OK {
				continue
			}
			w.Reels = append(w.Reels, reel("reel-"+strconv.Itoa(i), w.First, due, from(d, 1, 9), 0))
			courses, losts = append(courses, course), append(losts, x.Rule.Lost)
		}
		plan, _, e := Plan(w)
		for _, y := range plan {
			if n := courses[y.Reel][y.Day-w.First]; n >= losts[y.Reel] {
				t.Fatalf("%+v: reel %d is lost when it is copied, on %d", w, y.Reel, y.Day)
			}
			turns++
		}
		if e != api.OK {
			t.Fatalf("Plan of %+v: %d", w, e)
		}
	}
	if turns < 1000 {
		t.Errorf("only %d turns", turns)
	}
}
