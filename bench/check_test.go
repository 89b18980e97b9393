package bench

import (
	"math"
	"slices"
	"testing"

	"telecine/api"
)

// checked is a change of the example's task, and what Check returns then.
type checked struct {
	change   func(x *api.BnTask)
	part, at int
	e        api.Errno
}

// every calls all functions that take a task but Check, with a number in each place that has one, and returns their errors.
func every(x api.BnTask, n int) [5]api.Errno {
	_, pieces := Pieces(x)
	_, torn := Torn(x)
	_, _, _, gaps := Gaps(x)
	_, place := Place(x, n)
	_, find := Find(x, n)
	return [5]api.Errno{pieces, torn, gaps, place, find}
}

// expect runs Check, and all that return its error first, on the example's task with each change.
func expect(t *testing.T, list []checked) {
	t.Helper()
	for i, c := range list {
		x := changed(c.change)
		if part, at, e := Check(x); part != c.part || at != c.at || e != c.e {
			t.Errorf("%d: Check = %d, %d, %d; want %d, %d, %d", i, part, at, e, c.part, c.at, c.e)
		}
		if c.e == api.OK {
			continue
		}
		for j, e := range every(x, -1) {
			if e != c.e {
				t.Errorf("%d: function %d: %d; want %d", i, j, e, c.e)
			}
		}
	}
}

// P5.2: the reel has the error of film.Check, whatever its part.
func TestCheckReel(t *testing.T) {
	expect(t, []checked{
		{func(x *api.BnTask) {}, 0, 0, api.OK},
		{func(x *api.BnTask) { *x = api.BnTask{} }, 1, 0, api.ErrForm},
		{func(x *api.BnTask) { x.Reel.Name = "Nana" }, 1, 0, api.ErrForm},
		{func(x *api.BnTask) { x.Reel.Gauge = 0 }, 1, 0, api.ErrArg},
		{func(x *api.BnTask) { x.Reel.Frames = 0 }, 1, 0, api.ErrRange},
		{func(x *api.BnTask) { x.Reel.Frames = 200001 }, 1, 0, api.ErrRange},
		{func(x *api.BnTask) { x.Reel.Marks = make([]api.FmMark, 61) }, 1, 0, api.ErrLong},
		{func(x *api.BnTask) { x.Reel.Marks[2].Frame = 200 }, 1, 0, api.ErrArg},
		{func(x *api.BnTask) { x.Reel.Marks[2].Number = 10000 }, 1, 0, api.ErrRange},
		{func(x *api.BnTask) { x.Reel.Symbols[1].Code = 20 }, 1, 0, api.ErrRange},
		{func(x *api.BnTask) { x.Reel.Lengths[1].Frames = 1001 }, 1, 0, api.ErrRange},
		{func(x *api.BnTask) { x.Reel.Lengths[1].Frames, x.Whole.Lo, x.Notes[0].By = 1001, 9999, "" }, 1, 0, api.ErrRange},
		// Numbers of marks that contradict each other are no error.
		{func(x *api.BnTask) { x.Reel.Marks[2].Number = 0 }, 0, 0, api.OK},
	})
}

// P5.2: the whole.
func TestCheckWhole(t *testing.T) {
	expect(t, []checked{
		{func(x *api.BnTask) { x.Whole = span(1, 1) }, 0, 0, api.OK},
		{func(x *api.BnTask) { x.Whole = span(1, 400000) }, 0, 0, api.OK},
		{func(x *api.BnTask) { x.Whole = span(400000, 400000) }, 0, 0, api.OK},
		{func(x *api.BnTask) { x.Whole = span(0, 0) }, 2, 0, api.ErrRange},
		{func(x *api.BnTask) { x.Whole = span(0, 5) }, 2, 0, api.ErrRange},
		{func(x *api.BnTask) { x.Whole = span(5, 0) }, 2, 0, api.ErrRange},
		{func(x *api.BnTask) { x.Whole = span(math.MinInt, 5) }, 2, 0, api.ErrRange},
		{func(x *api.BnTask) { x.Whole = span(5, 400001) }, 2, 0, api.ErrRange},
		{func(x *api.BnTask) { x.Whole = span(400001, 5) }, 2, 0, api.ErrRange},
		{func(x *api.BnTask) { x.Whole = span(6, 5) }, 2, 0, api.ErrArg},
		{func(x *api.BnTask) { x.Whole, x.Notes = span(6, 5), make([]api.BnNote, 61) }, 2, 0, api.ErrArg},
	})
}

// P5.2: how many notes there may be, the first one with an error, and its error; those that do not stand are checked, too.
func TestCheckNotes(t *testing.T) {
	expect(t, []checked{
		{func(x *api.BnTask) { x.Notes = nil }, 0, 0, api.OK},
		{func(x *api.BnTask) { x.Notes = slices.Repeat(x.Notes[:1], 60) }, 0, 0, api.OK},
		{func(x *api.BnTask) { x.Notes = slices.Repeat(x.Notes[:1], 61) }, 3, 0, api.ErrLong},
		{func(x *api.BnTask) { x.Notes = make([]api.BnNote, 61) }, 3, 0, api.ErrLong},
		{func(x *api.BnTask) { x.Notes[0].By = "" }, 3, 0, api.ErrForm},
		{func(x *api.BnTask) { x.Notes[4].Rev, x.Notes[5].By = 100, "" }, 3, 4, api.ErrRange},
		{func(x *api.BnTask) { x.Notes[3].Until, x.Notes[4].Rev = 1000, 100 }, 3, 3, api.ErrNone},
		{func(x *api.BnTask) { x.Notes[3].Until = 999 }, 0, 0, api.OK},
		{func(x *api.BnTask) { x.Notes[3].Until = 199999 }, 3, 3, api.ErrNone},
		{func(x *api.BnTask) { x.Notes[3].From, x.Notes[3].Until = 1001, 1000 }, 3, 3, api.ErrArg},
		{func(x *api.BnTask) { x.Notes[6].From, x.Notes[6].Until = 1000, 1000 }, 3, 6, api.ErrNone},
		{func(x *api.BnTask) { x.Notes[6].Until = 1000 }, 3, 6, api.ErrArg},
		{func(x *api.BnTask) {
			x.Reel.Frames, x.Notes = 200000, append(x.Notes, tear("cy", 1, 0, 199999), splice("cy", 2, 199999, 0, 0))
		}, 0, 0, api.OK},
		{func(x *api.BnTask) {
			x.Notes = append(x.Notes, tear("cy", 1, 3, 1000), revised(tear("cy", 1, 3, 4), 1))
		}, 3, 7, api.ErrNone},
		{func(x *api.BnTask) { x.Notes = append(x.Notes, tear("ada", 4, 3, 4)) }, 0, 0, api.OK},
	})
	for i, c := range noteErrors() {
		row := checked{func(x *api.BnTask) { x.Reel.Frames = 200000; x.Notes[2] = tear("ada", 2, 3, 4); c.change(&x.Notes[2]) }, 3, 2, c.e}
		if c.e == api.OK {
			row.part, row.at = 0, 0
		}
		expect(t, []checked{row})
		if t.Failed() {
			t.Fatalf("error %d", i)
		}
	}
}
