package decay

import (
	"math"
	"reflect"
	"slices"
	"testing"

	"telecine/api"
)

// corners are ints at the ends of what an int can be, of the ranges, and around 0.
func corners() []int {
	return []int{math.MinInt, math.MinInt + 1, math.MinInt32, -301, -300, -1, 0, 1, 2, 3, 4, 99, 100, 103, 104, 600, 601, api.All, api.MaxDay, api.MaxDcOwn, api.MaxDcFeed, api.MaxDcLevel, math.MaxInt32, math.MaxInt - 1, math.MaxInt}
}

// every calls all functions that take a task, and returns their errors.
func every(x api.DcTask, day int, c api.DcDay) [4]api.Errno {
	_, own := Own(x, make([]int, len(x.Days)+1))
	_, _, levels := Levels(x)
	_, lost := Lost(x)
	_, moved := Moved(x, day, c)
	return [4]api.Errno{own, levels, lost, moved}
}

// full is a task with as much of everything, and numbers as great, as the limits allow.
func full() api.DcTask {
	x := api.DcTask{First: api.MaxDay - api.MaxDcDays, Start: span(0, api.MaxDcLevel)}
	x.Rule = api.DcRule{Heat: points(8, 593), Wet: points(8, 993), Own: api.MaxDcOwn, Feed: api.MaxDcFeed, Grades: [3]int{999998, 999999, 1000000}, Lost: api.MaxDcLevel}
	x.Rule.Heat[7].Factor, x.Rule.Wet[7].Factor = api.All, api.All
	for range api.MaxDcDays {
		x.Days = append(x.Days, climate(600, 600, 1000, 1000))
	}
	for i := range api.MaxDcTests {
		x.Tests = append(x.Tests, test(x.First+api.MaxDcDays, 3-i%4, i%2))
	}
	return x
}

// P2.15 and DOC's P1: numbers far beyond the limits, in each place of a task, are accepted, and all functions return the error of CheckTask first.
func TestAnyTask(t *testing.T) {
	places := []func(x *api.DcTask, n int){
		func(x *api.DcTask, n int) { x.Rule.Heat[1].At = n }, func(x *api.DcTask, n int) { x.Rule.Heat[1].Factor = n }, func(x *api.DcTask, n int) { x.Rule.Wet[1].At = n }, func(x *api.DcTask, n int) { x.Rule.Wet[1].Factor = n },
		func(x *api.DcTask, n int) { x.Rule.Own = n }, func(x *api.DcTask, n int) { x.Rule.Feed = n }, func(x *api.DcTask, n int) { x.Rule.Grades[1] = n }, func(x *api.DcTask, n int) { x.Rule.Lost = n },
		func(x *api.DcTask, n int) { x.First = n }, func(x *api.DcTask, n int) { x.Days[1].Temp.Lo = n }, func(x *api.DcTask, n int) { x.Days[1].Temp.Hi = n }, func(x *api.DcTask, n int) { x.Days[1].Damp.Lo = n }, func(x *api.DcTask, n int) { x.Days[1].Damp.Hi = n },
		func(x *api.DcTask, n int) { x.Start.Lo = n }, func(x *api.DcTask, n int) { x.Start.Hi = n }, func(x *api.DcTask, n int) { x.Tests[1].Day = n }, func(x *api.DcTask, n int) { x.Tests[1].Grade = n }, func(x *api.DcTask, n int) { x.Tests[1].Error = n },
	}
	for i, put := range places {
		for _, n := range corners() {
			x := example(tests(3, 101)...)
			put(&x, n)
			_, _, e := CheckTask(x)
			for j, f := range every(x, x.First, dayA()) {
				if f != e {
					t.Errorf("place %d is %d: CheckTask: %d; function %d: %d", i, n, e, j, f)
				}
			}
		}
	}
}

// P2.15: numbers far beyond the limits besides a task are accepted.
func TestAnyNumbers(t *testing.T) {
	for _, a := range corners() {
		Grade(ruleR(), a)
		Own(example(), []int{a, a, a, a})
		for _, b := range corners() {
			Grow(ruleR(), dayA(), span(a, b))
			for _, c := range []api.DcDay{climate(a, b, 0, 0), climate(0, 0, a, b), climate(a, a, b, b)} {
				Strength(ruleR(), c)
				Grow(ruleR(), c, span(0, 0))
				if _, e := Moved(example(), a, c); e == api.OK && !within(a, 100, 102) {
					t.Errorf("Moved from %d: %d", a, e)
				}
			}
		}
	}
}

// P2.15: as much as the limits allow, and nothing at all.
func TestFullAndEmpty(t *testing.T) {
	x := full()
	levels, struck, e := Levels(x)
	if e != api.OK || len(levels) != api.MaxDcDays+1 || levels[api.MaxDcDays] != span(api.MaxDcLevel, api.MaxDcLevel) {
		t.Errorf("Levels: %d of them, %d", len(levels), e)
	}
	// All levels are the greatest one by then: tests of the grades 3, and 2 wrong by 1, are true, and no others.
	if len(struck) != 10 || struck[9] != (api.DcStrike{Test: 19, By: 16}) {
		t.Errorf("struck: %v", struck)
	}
	if got := every(x, api.MaxDay-1, dayA()); got != [4]api.Errno{} {
		t.Errorf("errors: %v", got)
	}
	long := api.ErrLong
	if got := every(api.DcTask{}, 0, api.DcDay{}); got != [4]api.Errno{long, long, long, long} {
		t.Errorf("errors: %v", got)
	}
}

// P2.15: no argument is modified, also not behind the ends of its lists.
func TestArgumentsStay(t *testing.T) {
	d := dice(15)
	for range 500 {
		x := anyTask(d)
		x.Days = slices.Concat(x.Days, []api.DcDay{dayA(), dayA()})
		x.Tests = slices.Concat(x.Tests, tests(2, x.First))
		before := copied(x)
		y := x
		y.Days, y.Tests = x.Days[:len(x.Days)-1], x.Tests[:len(x.Tests)-1]
		course := walk(d, y)
		walked := slices.Clone(course)
		Check(y.Rule)
		CheckTask(y)
		Strength(y.Rule, y.Days[0])
		Grow(y.Rule, y.Days[0], y.Start)
		Grade(y.Rule, y.Start.Lo)
		Own(y, course)
		every(y, y.First+d.IntN(len(y.Days)), anyClimate(d))
		if !reflect.DeepEqual(x, before) || !slices.Equal(course, walked) {
			t.Fatalf("%+v became %+v", before, x)
		}
	}
}

// P2.15: results are new memory: what is done to them changes neither an argument nor a later result.
func TestResultsAreNewMemory(t *testing.T) {
	x := example(test(101, 0, 0), test(102, 3, 1))
	levels, struck, _ := Levels(x)
	wantLevels, wantStruck, _ := Levels(x)
	clear(levels)
	clear(struck)
	if a, b, _ := Levels(x); !slices.Equal(a, wantLevels) || !slices.Equal(b, wantStruck) || len(a) != 4 || len(b) != 1 {
		t.Errorf("Levels = %v, %v", a, b)
	}
	if !reflect.DeepEqual(x, example(test(101, 0, 0), test(102, 3, 1))) {
		t.Errorf("the task became %+v", x)
	}
}
