package decay

import (
	"slices"
	"testing"

	"telecine/api"
)

// P2.4: which morning of a list of levels is the first one that is not as stated for a course.
func TestOwn(t *testing.T) {
	strip := example(test(101, 3, 0), test(102, 0, 0))
	none := example()
	none.Days = nil
	top := example()
	top.Start = span(999900, 1000000)
	for i, c := range []struct {
		x      api.DcTask
		course []int
		want   int
		e      api.Errno
	}{
		{example(), []int{900, 910, 925, 944}, -1, api.OK},
		{example(), []int{900, 909, 925, 944}, 1, api.OK},
		{example(), []int{900, 910, 929, 949}, 3, api.OK},
		{example(), []int{900, 910, 929, 948}, -1, api.OK},
		{example(), []int{900, 919, 938, 958}, -1, api.OK},
		{example(), []int{900, 920, 939, 959}, 1, api.OK},
		{example(), []int{1000, 1010, 1020, 1030}, -1, api.OK},
		{example(), []int{1000, 1020, 1040, 1060}, -1, api.OK},
		{example(), []int{1000, 1020, 1041, 0}, 2, api.OK},
		{example(), []int{899, 910, 925, 944}, 0, api.OK},
		{example(), []int{1001, 1011, 1021, 1031}, 0, api.OK},
		{example(), []int{-1 << 63, 0, 0, 0}, 0, api.OK},
		{example(), []int{900, 1<<63 - 1, 0, 0}, 1, api.OK},
		{example(), []int{900, 910, 925, -1 << 63}, 3, api.OK},
		// A course need not keep to tests.
		{strip, []int{900, 910, 925, 944}, -1, api.OK},
		{none, []int{900}, -1, api.OK},
		{none, []int{1001}, 0, api.OK},
		{none, nil, 0, api.ErrArg},
		{none, []int{900, 910}, 0, api.ErrArg},
		{example(), nil, 0, api.ErrArg},
		{example(), []int{900, 910, 920}, 0, api.ErrArg},
		{example(), []int{900, 910, 920, 930, 940}, 0, api.ErrArg},
		{top, []int{1000000, 1000000, 1000000, 1000000}, -1, api.OK},
		{top, []int{999900, 1000000, 1000000, 1000000}, -1, api.OK},
		{top, []int{999900, 1000000, 999999, 1000000}, 2, api.OK},
		{top, []int{999900, 1000001, 1000000, 1000000}, 1, api.OK},
	} {
		if n, e := Own(c.x, c.course); n != c.want || e != c.e {
			t.Errorf("%d: Own = %d, %d", i, n, e)
		}
	}
}

// P2.5 and P2.6: what can be known, and when the reel can be lost, with tests that narrow it and tests that are struck.
func TestLevels(t *testing.T) {
	plain := []api.Span{span(900, 1000), span(910, 1020), span(920, 1040), span(930, 1060)}
	one := []api.Span{span(900, 989), span(910, 999), span(920, 1019), span(930, 1039)}
	two := []api.Span{span(940, 989), span(960, 999), span(980, 1019), span(1000, 1039)}
	for i, c := range []struct {
		tests  []api.DcTest
		want   []api.Span
		struck []api.DcStrike
		lost   api.Span
	}{
		{nil, plain, nil, span(102, -1)},
		{[]api.DcTest{test(101, 0, 0)}, one, nil, span(103, -1)},
		{[]api.DcTest{test(101, 1, 1)}, plain, nil, span(102, -1)},
		{[]api.DcTest{test(101, 3, 3)}, plain, nil, span(102, -1)},
		{[]api.DcTest{test(101, 2, 1)}, []api.Span{span(980, 1000), span(1000, 1020), span(1010, 1040), span(1020, 1060)}, nil, span(102, -1)},
		{[]api.DcTest{test(101, 0, 0), test(103, 1, 0)}, two, nil, span(103, -1)},
		// Tests are taken by their days, and each keeps its index.
		{[]api.DcTest{test(103, 1, 0), test(101, 0, 0)}, two, nil, span(103, -1)},
		{[]api.DcTest{test(101, 0, 0), test(102, 3, 1)}, one, []api.DcStrike{{Test: 1, By: 0}}, span(103, -1)},
		{[]api.DcTest{test(102, 3, 1), test(101, 0, 0)}, one, []api.DcStrike{{Test: 0, By: 1}}, span(103, -1)},
		// A test that no course keeps to is struck by Start, also if another one is taken before it.
		{[]api.DcTest{test(100, 2, 0), test(101, 0, 0)}, one, []api.DcStrike{{Test: 0, By: -1}}, span(103, -1)},
		{[]api.DcTest{test(100, 1, 1), test(101, 2, 0)}, plain, []api.DcStrike{{Test: 1, By: -1}}, span(102, -1)},
		// On the same day the first one is taken, if it can be, and the second one is struck by it.
		{[]api.DcTest{test(100, 1, 0), test(100, 0, 0)}, []api.Span{span(1000, 1000), span(1010, 1020), span(1020, 1040), span(1030, 1060)}, []api.DcStrike{{Test: 1, By: 0}}, span(102, 103)},
		{[]api.DcTest{test(100, 0, 0), test(100, 1, 0), test(101, 1, 0), test(102, 0, 0)}, []api.Span{span(980, 999), span(1000, 1019), span(1010, 1039), span(1020, 1059)}, []api.DcStrike{{Test: 1, By: 0}, {Test: 3, By: 2}}, span(102, -1)},
		// Struck by the last one that is enough: both 0 and 1 are.
		{[]api.DcTest{test(101, 0, 0), test(102, 0, 1), test(103, 3, 0)}, one, []api.DcStrike{{Test: 2, By: 1}}, span(103, -1)},
		// Here the last one is not enough, and neither is a struck one.
		{[]api.DcTest{test(101, 0, 0), test(102, 0, 3), test(103, 3, 0)}, one, []api.DcStrike{{Test: 2, By: 0}}, span(103, -1)},
		{[]api.DcTest{test(101, 0, 0), test(101, 3, 0), test(101, 1, 0)}, one, []api.DcStrike{{Test: 1, By: 0}, {Test: 2, By: 0}}, span(103, -1)},
	} {
		x := example(c.tests...)
		l, s, e := Levels(x)
		if !slices.Equal(l, c.want) || !slices.Equal(s, c.struck) || e != api.OK {
			t.Errorf("%d: Levels = %v, %v, %d", i, l, s, e)
		}
		if n, e := Lost(x); n != c.lost || e != api.OK {
			t.Errorf("%d: Lost = %v, %d", i, n, e)
		}
	}
}

// P2.5: a test is struck by one that is enough alone from any level on its morning, which Start, or other tests, would leave fewer of.
func TestStruckByAnyLevel(t *testing.T) {
	x := example(test(100, 0, 3), test(101, 1, 1), test(102, 2, 0))
	// Start leaves 920 to 1040 on 102, and strikes: from a level of grade 2, to which the test on 101 is true, grade 2 follows.
	if _, s, e := Levels(x); !slices.Equal(s, []api.DcStrike{{Test: 2, By: -1}}) || e != api.OK {
		t.Errorf("Levels = %v, %d", s, e)
	}
	// From no level of grade 1 on 101 grade 3 follows on 103.
	x = example(test(101, 1, 0), test(103, 3, 0))
	if _, s, e := Levels(x); !slices.Equal(s, []api.DcStrike{{Test: 1, By: 0}}) || e != api.OK {
		t.Errorf("Levels = %v, %d", s, e)
	}
	// From 4999 grade 2 follows on the next morning, but not from the levels that both Start and the test leave.
	x = example(test(101, 1, 0), test(102, 2, 0))
	if _, s, e := Levels(x); !slices.Equal(s, []api.DcStrike{{Test: 1, By: -1}}) || e != api.OK {
		t.Errorf("Levels = %v, %d", s, e)
	}
}

// P2.5: a strip that shows too little is struck, as levels never fall.
func TestStruckAsTooLow(t *testing.T) {
	x := example(test(103, 0, 0), test(102, 1, 0), test(101, 0, 1))
	x.Start = span(900, 5000)
	l, s, e := Levels(x)
	if want := []api.Span{span(960, 4965), span(980, 4982), span(1000, 4999), span(1010, 5031)}; !slices.Equal(l, want) || e != api.OK {
		t.Errorf("Levels = %v, %d", l, e)
	}
	if !slices.Equal(s, []api.DcStrike{{Test: 0, By: 1}}) {
		t.Errorf("struck: %v", s)
	}
}

// P2.5 and P2.6: without days there is one morning.
func TestOneMorning(t *testing.T) {
	x := example(test(100, 1, 0), test(100, 0, 0))
	x.Days, x.Rule.Lost = nil, 1000
	if l, s, e := Levels(x); !slices.Equal(l, []api.Span{span(1000, 1000)}) || !slices.Equal(s, []api.DcStrike{{Test: 1}}) || e != api.OK {
		t.Errorf("Levels = %v, %v, %d", l, s, e)
	}
	if n, e := Lost(x); n != span(100, 100) || e != api.OK {
		t.Errorf("Lost = %v, %d", n, e)
	}
	x.Tests = nil
	if n, e := Lost(x); n != span(100, -1) || e != api.OK {
		t.Errorf("Lost = %v, %d", n, e)
	}
	x.Rule.Lost = 1001
	if n, e := Lost(x); n != span(-1, -1) || e != api.OK {
		t.Errorf("Lost = %v, %d", n, e)
	}
	if n, e := Moved(x, 100, dayA()); n != (api.Span{}) || e != api.ErrRange {
		t.Errorf("Moved = %v, %d", n, e)
	}
}

// P2.6: the level Lost is lost, and one below it is not; days are those of the task.
func TestLost(t *testing.T) {
	for lost, want := range map[int]api.Span{
		1: span(100, 100), 900: span(100, 100), 901: span(100, 101), 910: span(100, 101), 911: span(100, 102), 930: span(100, 103), 931: span(100, -1),
		1000: span(100, -1), 1001: span(101, -1), 1020: span(101, -1), 1021: span(102, -1), 1060: span(103, -1), 1061: span(-1, -1), 1000000: span(-1, -1),
	} {
		x := example()
		x.Rule.Lost = lost
		if n, e := Lost(x); n != want || e != api.OK {
			t.Errorf("lost at %d: Lost = %v, %d", lost, n, e)
		}
	}
	x := example()
	x.First = 0
	x.Rule.Lost = 910
	if n, e := Lost(x); n != span(0, 1) || e != api.OK {
		t.Errorf("Lost = %v, %d", n, e)
	}
}

// P2.7: another climate from a day on, without the tests behind it.
func TestMoved(t *testing.T) {
	cold, hot := climate(0, 0, 0, 0), climate(400, 400, 600, 600)
	for i, c := range []struct {
		x    api.DcTask
		from int
		d    api.DcDay
		want api.Span
		e    api.Errno
	}{
		{example(), 101, cold, span(-1, -1), api.OK},
		{example(), 102, cold, span(102, -1), api.OK},
		{example(), 100, cold, span(-1, -1), api.OK},
		{example(), 100, hot, span(101, 103), api.OK},
		{example(), 101, hot, span(102, -1), api.OK},
		{example(), 102, hot, span(102, -1), api.OK},
		{example(), 100, dayA(), span(102, -1), api.OK},
		// A test on the morning of from stays; one behind it does not.
		{example(test(101, 0, 0)), 101, hot, span(102, -1), api.OK},
		{example(test(101, 0, 0)), 101, dayA(), span(103, -1), api.OK},
		{example(test(101, 0, 0)), 100, dayA(), span(102, -1), api.OK},
		{example(test(101, 0, 0), test(103, 1, 0)), 102, cold, span(-1, -1), api.OK},
		{example(test(103, 0, 0), test(101, 0, 0)), 102, dayA(), span(103, -1), api.OK},
		{example(), 99, cold, api.Span{}, api.ErrRange},
		{example(), 103, cold, api.Span{}, api.ErrRange},
		{example(), 0, cold, api.Span{}, api.ErrRange},
		{example(), 1<<63 - 1, cold, api.Span{}, api.ErrRange},
		{example(), -1 << 63, cold, api.Span{}, api.ErrRange},
		{example(), 103, climate(1, 0, 0, 0), api.Span{}, api.ErrRange},
		{example(), 102, climate(1, 0, 0, 0), api.Span{}, api.ErrArg},
		{example(), 102, climate(0, 0, 1, 0), api.Span{}, api.ErrArg},
		{example(), 102, climate(1, 0, 0, 1001), api.Span{}, api.ErrRange},
		// A test that is not valid is an error, also if it is behind from.
		{example(test(103, 4, 0)), 101, cold, api.Span{}, api.ErrRange},
		{example(test(104, 0, 0)), 102, climate(1, 0, 0, 0), api.Span{}, api.ErrRange},
	} {
		if n, e := Moved(c.x, c.from, c.d); n != c.want || e != c.e {
			t.Errorf("%d: Moved = %v, %d", i, n, e)
		}
	}
}

// P2.7: Moved returns what Lost returns for the task that it describes.
func TestMovedIsLost(t *testing.T) {
	d := dice(7)
	for range 2000 {
		x := anyTask(d)
		if len(x.Days) == 0 {
			continue
		}
		from, c := x.First+d.IntN(len(x.Days)), anyClimate(d)
		got, e := Moved(x, from, c)
		y := copied(x)
		y.Tests = nil
		for i := range y.Days {
			if y.First+i >= from {
				y.Days[i] = c
			}
		}
		for _, s := range x.Tests {
			if s.Day <= from {
				y.Tests = append(y.Tests, s)
			}
		}
		if want, f := Lost(y); got != want || e != api.OK || f != api.OK {
			t.Fatalf("Moved of %+v, %d, %v = %v, %d; want %v, %d", x, from, c, got, e, want, f)
		}
	}
}
