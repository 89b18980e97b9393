package decay

import (
	"testing"

	"telecine/api"
)

// points returns as many points of a curve as asked for, from an At on.
func points(count, at int) []api.DcPoint {
	var curve []api.DcPoint
	for i := range count {
		curve = append(curve, api.DcPoint{At: at + i, Factor: i})
	}
	return curve
}

// ruleChecked is a change of the example's rule, and what Check returns then.
type ruleChecked struct {
	change   func(r *api.DcRule)
	part, at int
	e        api.Errno
}

// expectRule runs Check, and all that return its error first, on the example's rule with each change.
func expectRule(t *testing.T, list []ruleChecked) {
	t.Helper()
	for i, c := range list {
		x := example()
		c.change(&x.Rule)
		if part, at, e := Check(x.Rule); part != c.part || at != c.at || e != c.e {
			t.Errorf("%d: Check = %d, %d, %d; want %d, %d, %d", i, part, at, e, c.part, c.at, c.e)
		}
		_, s := Strength(x.Rule, dayA())
		_, n := Grow(x.Rule, dayA(), span(0, 0))
		_, g := Grade(x.Rule, 0)
		if s != c.e || n != c.e || g != c.e {
			t.Errorf("%d: Strength, Grow and Grade = %d, %d, %d; want %d", i, s, n, g, c.e)
		}
		part := 0
		if c.e != api.OK {
			part = 1
		}
		if p, at, e := CheckTask(x); p != part || at != 0 || e != c.e {
			t.Errorf("%d: CheckTask = %d, %d, %d; want %d, 0, %d", i, p, at, e, part, c.e)
		}
	}
}

// P2.1: both curves, at their limits and beyond; the first point with an error decides.
func TestCheckCurves(t *testing.T) {
	expectRule(t, []ruleChecked{
		{func(r *api.DcRule) {}, 0, 0, api.OK},
		{func(r *api.DcRule) { *r = api.DcRule{} }, 1, 0, api.ErrLong},
		{func(r *api.DcRule) { r.Heat = nil }, 1, 0, api.ErrLong},
		{func(r *api.DcRule) { r.Heat = points(1, 0) }, 1, 0, api.ErrLong},
		{func(r *api.DcRule) { r.Heat = points(2, 0) }, 0, 0, api.OK},
		{func(r *api.DcRule) { r.Heat = points(8, -300) }, 0, 0, api.OK},
		{func(r *api.DcRule) { r.Heat = points(8, 593) }, 0, 0, api.OK},
		{func(r *api.DcRule) { r.Heat = points(8, 594) }, 1, 7, api.ErrRange},
		{func(r *api.DcRule) { r.Heat = points(8, -301) }, 1, 0, api.ErrRange},
		{func(r *api.DcRule) { r.Heat = points(9, 0) }, 1, 0, api.ErrLong},
		{func(r *api.DcRule) { r.Heat = points(9, 601) }, 1, 0, api.ErrLong},
		{func(r *api.DcRule) { r.Heat[0].Factor = -1 }, 1, 0, api.ErrRange},
		{func(r *api.DcRule) { r.Heat[0].Factor = 0 }, 0, 0, api.OK},
		{func(r *api.DcRule) { r.Heat[2].Factor = 1001 }, 1, 2, api.ErrRange},
		{func(r *api.DcRule) { r.Heat[1].At = 100 }, 1, 1, api.ErrArg},
		{func(r *api.DcRule) { r.Heat[1].At = 101 }, 0, 0, api.OK},
		{func(r *api.DcRule) { r.Heat[1].At = 99 }, 1, 1, api.ErrArg},
		{func(r *api.DcRule) { r.Heat[1].Factor = 99 }, 1, 1, api.ErrArg},
		{func(r *api.DcRule) { r.Heat[1].Factor = 100 }, 0, 0, api.OK},
		{func(r *api.DcRule) { r.Heat[1].At, r.Heat[1].Factor = 100, 1001 }, 1, 1, api.ErrRange},
		{func(r *api.DcRule) { r.Heat[1].At, r.Heat[2].Factor = 100, 1001 }, 1, 1, api.ErrArg},
		{func(r *api.DcRule) { r.Heat[2].Factor, r.Wet = 499, nil }, 1, 2, api.ErrArg},
		{func(r *api.DcRule) { r.Wet = nil }, 2, 0, api.ErrLong},
		{func(r *api.DcRule) { r.Wet = points(1, 0) }, 2, 0, api.ErrLong},
		{func(r *api.DcRule) { r.Wet = points(9, 0) }, 2, 0, api.ErrLong},
		{func(r *api.DcRule) { r.Wet = points(8, 0) }, 0, 0, api.OK},
		{func(r *api.DcRule) { r.Wet = points(8, 993) }, 0, 0, api.OK},
		{func(r *api.DcRule) { r.Wet = points(8, 994) }, 2, 7, api.ErrRange},
		{func(r *api.DcRule) { r.Wet = points(2, -1) }, 2, 0, api.ErrRange},
		{func(r *api.DcRule) { r.Wet[0].Factor = -1 }, 2, 0, api.ErrRange},
		{func(r *api.DcRule) { r.Wet[1].Factor = 1001 }, 2, 1, api.ErrRange},
		{func(r *api.DcRule) { r.Wet[1].At = 200 }, 2, 1, api.ErrArg},
		{func(r *api.DcRule) { r.Wet[1].Factor = 199 }, 2, 1, api.ErrArg},
		{func(r *api.DcRule) { r.Wet[1].Factor = 200 }, 0, 0, api.OK},
	})
}

// P2.1: what is behind the curves, at its limits and beyond, and the order of the parts.
func TestCheckNumbers(t *testing.T) {
	expectRule(t, []ruleChecked{
		{func(r *api.DcRule) { r.Own = -1 }, 3, 0, api.ErrRange},
		{func(r *api.DcRule) { r.Own = 0 }, 0, 0, api.OK},
		{func(r *api.DcRule) { r.Own = 100000 }, 0, 0, api.OK},
		{func(r *api.DcRule) { r.Own = 100001 }, 3, 0, api.ErrRange},
		{func(r *api.DcRule) { r.Feed = -1 }, 3, 0, api.ErrRange},
		{func(r *api.DcRule) { r.Feed = 0 }, 0, 0, api.OK},
		{func(r *api.DcRule) { r.Feed = 999999 }, 0, 0, api.OK},
		{func(r *api.DcRule) { r.Feed = 1000000 }, 3, 0, api.ErrRange},
		{func(r *api.DcRule) { r.Own, r.Wet[1].At = -1, 200 }, 2, 1, api.ErrArg},
		{func(r *api.DcRule) { r.Feed, r.Grades[0] = -1, 0 }, 3, 0, api.ErrRange},
		{func(r *api.DcRule) { r.Grades = [3]int{1, 2, 3} }, 0, 0, api.OK},
		{func(r *api.DcRule) { r.Grades = [3]int{999998, 999999, 1000000} }, 0, 0, api.OK},
		{func(r *api.DcRule) { r.Grades[0] = 0 }, 4, 0, api.ErrRange},
		{func(r *api.DcRule) { r.Grades[0] = 4999 }, 0, 0, api.OK},
		{func(r *api.DcRule) { r.Grades[0] = 5000 }, 4, 1, api.ErrArg},
		{func(r *api.DcRule) { r.Grades[0] = 1000001 }, 4, 0, api.ErrRange},
		{func(r *api.DcRule) { r.Grades[1] = 0 }, 4, 1, api.ErrRange},
		{func(r *api.DcRule) { r.Grades[1] = 999 }, 4, 1, api.ErrArg},
		{func(r *api.DcRule) { r.Grades[2] = 5000 }, 4, 2, api.ErrArg},
		{func(r *api.DcRule) { r.Grades[2] = 1000001 }, 4, 2, api.ErrRange},
		{func(r *api.DcRule) { r.Grades[1], r.Grades[2] = 1000, 1000001 }, 4, 1, api.ErrArg},
		{func(r *api.DcRule) { r.Grades[2], r.Lost = 5000, 0 }, 4, 2, api.ErrArg},
		{func(r *api.DcRule) { r.Lost = -1 }, 5, 0, api.ErrRange},
		{func(r *api.DcRule) { r.Lost = 0 }, 5, 0, api.ErrRange},
		{func(r *api.DcRule) { r.Lost = 1 }, 0, 0, api.OK},
		{func(r *api.DcRule) { r.Lost = 1000000 }, 0, 0, api.OK},
		{func(r *api.DcRule) { r.Lost = 1000001 }, 5, 0, api.ErrRange},
	})
}

// taskChecked is a change of the example's task, and what CheckTask returns then.
type taskChecked struct {
	change   func(x *api.DcTask)
	part, at int
	e        api.Errno
}

// expectTask runs CheckTask, and all that return its error first, on the example's task with each change.
func expectTask(t *testing.T, list []taskChecked) {
	t.Helper()
	for i, c := range list {
		x := example()
		c.change(&x)
		if part, at, e := CheckTask(x); part != c.part || at != c.at || e != c.e {
			t.Errorf("%d: CheckTask = %d, %d, %d; want %d, %d, %d", i, part, at, e, c.part, c.at, c.e)
		}
		if c.e == api.OK {
			continue
		}
		// A course, a day and a climate that are not as stated come later than the error of CheckTask.
		if n, e := Own(x, nil); n != 0 || e != c.e {
			t.Errorf("%d: Own = %d, %d", i, n, e)
		}
		if l, s, e := Levels(x); l != nil || s != nil || e != c.e {
			t.Errorf("%d: Levels = %v, %v, %d", i, l, s, e)
		}
		if s, e := Lost(x); s != (api.Span{}) || e != c.e {
			t.Errorf("%d: Lost = %v, %d", i, s, e)
		}
		if s, e := Moved(x, -1, api.DcDay{Temp: span(1, 0)}); s != (api.Span{}) || e != c.e {
			t.Errorf("%d: Moved = %v, %d", i, s, e)
		}
	}
}

// P2.2: the rule, how many there are of everything, and the days.
func TestCheckTaskDays(t *testing.T) {
	expectTask(t, []taskChecked{
		{func(x *api.DcTask) {}, 0, 0, api.OK},
		{func(x *api.DcTask) { *x = api.DcTask{} }, 1, 0, api.ErrLong},
		{func(x *api.DcTask) { x.Rule.Heat[1].At = 100 }, 1, 0, api.ErrArg},
		{func(x *api.DcTask) { x.Rule.Grades[2], x.Days = 5000, make([]api.DcDay, 401) }, 1, 0, api.ErrArg},
		{func(x *api.DcTask) { x.Days = nil }, 0, 0, api.OK},
		{func(x *api.DcTask) { x.Days = make([]api.DcDay, 400) }, 0, 0, api.OK},
		{func(x *api.DcTask) { x.Days = make([]api.DcDay, 401) }, 2, 0, api.ErrLong},
		{func(x *api.DcTask) { x.Days, x.First = make([]api.DcDay, 401), -1 }, 2, 0, api.ErrLong},
		{func(x *api.DcTask) { x.Tests = tests(20, 100) }, 0, 0, api.OK},
		{func(x *api.DcTask) { x.Tests = tests(21, 100) }, 2, 0, api.ErrLong},
		{func(x *api.DcTask) { x.Tests, x.First = tests(21, 100), -1 }, 2, 0, api.ErrLong},
		{func(x *api.DcTask) { x.First = -1 }, 2, 0, api.ErrRange},
		{func(x *api.DcTask) { x.First = 0 }, 0, 0, api.OK},
		{func(x *api.DcTask) { x.First = 79997 }, 0, 0, api.OK},
		{func(x *api.DcTask) { x.First = 79998 }, 2, 0, api.ErrRange},
		{func(x *api.DcTask) { x.First, x.Days = 80000, nil }, 0, 0, api.OK},
		{func(x *api.DcTask) { x.First, x.Days = 80001, nil }, 2, 0, api.ErrRange},
		{func(x *api.DcTask) { x.First = 1<<63 - 1 }, 2, 0, api.ErrRange},
		{func(x *api.DcTask) { x.First, x.Days[0].Temp.Lo = -1, 601 }, 2, 0, api.ErrRange},
		{func(x *api.DcTask) { x.Days[0] = climate(-300, 600, 0, 1000) }, 0, 0, api.OK},
		{func(x *api.DcTask) { x.Days[1].Temp.Lo = -301 }, 3, 1, api.ErrRange},
		{func(x *api.DcTask) { x.Days[1].Temp.Hi = 601 }, 3, 1, api.ErrRange},
		{func(x *api.DcTask) { x.Days[1].Temp = span(601, 600) }, 3, 1, api.ErrRange},
		{func(x *api.DcTask) { x.Days[1].Temp = span(-300, -301) }, 3, 1, api.ErrRange},
		{func(x *api.DcTask) { x.Days[1].Temp = span(200, 199) }, 3, 1, api.ErrArg},
		{func(x *api.DcTask) { x.Days[1].Temp = span(200, 200) }, 0, 0, api.OK},
		{func(x *api.DcTask) { x.Days[2].Damp.Lo = -1 }, 3, 2, api.ErrRange},
		{func(x *api.DcTask) { x.Days[2].Damp.Hi = 1001 }, 3, 2, api.ErrRange},
		{func(x *api.DcTask) { x.Days[2].Damp = span(1001, 1000) }, 3, 2, api.ErrRange},
		{func(x *api.DcTask) { x.Days[2].Damp = span(0, -1) }, 3, 2, api.ErrRange},
		{func(x *api.DcTask) { x.Days[2].Damp = span(400, 399) }, 3, 2, api.ErrArg},
		{func(x *api.DcTask) { x.Days[0] = climate(200, 199, 400, 1001) }, 3, 0, api.ErrRange},
		{func(x *api.DcTask) { x.Days[0], x.Days[1] = climate(200, 199, 400, 500), climate(601, 601, 0, 0) }, 3, 0, api.ErrArg},
		{func(x *api.DcTask) { x.Days[2], x.Start = climate(200, 199, 400, 500), span(-1, 0) }, 3, 2, api.ErrArg},
	})
}

// P2.2: the levels at first, and the tests.
func TestCheckTaskTests(t *testing.T) {
	expectTask(t, []taskChecked{
		{func(x *api.DcTask) { x.Start = span(0, 1000000) }, 0, 0, api.OK},
		{func(x *api.DcTask) { x.Start = span(1000, 1000) }, 0, 0, api.OK},
		{func(x *api.DcTask) { x.Start = span(-1, 5) }, 4, 0, api.ErrRange},
		{func(x *api.DcTask) { x.Start = span(5, 1000001) }, 4, 0, api.ErrRange},
		{func(x *api.DcTask) { x.Start = span(5, 4) }, 4, 0, api.ErrArg},
		{func(x *api.DcTask) { x.Start = span(5, -1) }, 4, 0, api.ErrRange},
		{func(x *api.DcTask) { x.Start = span(1000001, 5) }, 4, 0, api.ErrRange},
		{func(x *api.DcTask) { x.Start, x.Tests = span(5, 4), tests(1, 99) }, 4, 0, api.ErrArg},
		{func(x *api.DcTask) { x.Tests = []api.DcTest{} }, 0, 0, api.OK},
		{func(x *api.DcTask) { x.Tests = tests(3, 100) }, 0, 0, api.OK},
		{func(x *api.DcTask) { x.Tests = tests(3, 103) }, 0, 0, api.OK},
		{func(x *api.DcTask) { x.Tests = tests(3, 99) }, 5, 0, api.ErrRange},
		{func(x *api.DcTask) { x.Tests = tests(3, 100); x.Tests[2].Day = 104 }, 5, 2, api.ErrRange},
		{func(x *api.DcTask) { x.Tests, x.Days = tests(1, 100), nil }, 0, 0, api.OK},
		{func(x *api.DcTask) { x.Tests, x.Days = tests(1, 101), nil }, 5, 0, api.ErrRange},
		{func(x *api.DcTask) { x.Tests = []api.DcTest{{Day: 101, Grade: 3, Error: 3}} }, 0, 0, api.OK},
		{func(x *api.DcTask) { x.Tests = []api.DcTest{{Day: 101, Grade: 4}} }, 5, 0, api.ErrRange},
		{func(x *api.DcTask) { x.Tests = []api.DcTest{{Day: 101, Grade: -1}} }, 5, 0, api.ErrRange},
		{func(x *api.DcTask) { x.Tests = []api.DcTest{{Day: 101, Error: 4}} }, 5, 0, api.ErrRange},
		{func(x *api.DcTask) { x.Tests = []api.DcTest{{Day: 101, Error: -1}} }, 5, 0, api.ErrRange},
		{func(x *api.DcTask) { x.Tests = append(tests(1, 101), api.DcTest{Day: 101, Error: -1}, api.DcTest{}) }, 5, 1, api.ErrRange},
	})
}
