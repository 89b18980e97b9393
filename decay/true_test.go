package decay

import (
	"math/rand/v2"
	"slices"
	"testing"

	"telecine/api"
)

// anyTask returns some task whose levels grow to numbers of any size, with some tests.
func anyTask(d *rand.Rand) api.DcTask {
	most := []int{100, 3000, api.MaxDcLevel}[d.IntN(3)]
	x := api.DcTask{Rule: anyRule(d, most), First: d.IntN(1000)}
	x.Rule.Own, x.Rule.Feed = d.IntN(most/20), d.IntN(api.MaxDcFeed/(1+d.IntN(20)))
	x.Start.Lo = d.IntN(most)
	x.Start.Hi = min(x.Start.Lo+d.IntN(200), api.MaxDcLevel)
	for range d.IntN(25) {
		x.Days = append(x.Days, anyClimate(d))
	}
	for range d.IntN(6) {
		x.Tests = append(x.Tests, test(x.First+d.IntN(len(x.Days)+1), d.IntN(4), d.IntN(3)))
	}
	return x
}

// smallTask returns a task with few days, and levels so small that all can be tried.
func smallTask(d *rand.Rand) api.DcTask {
	x := api.DcTask{Rule: anyRule(d, 60), First: d.IntN(1000), Start: anySpan(d, 0, 40)}
	x.Rule.Own, x.Rule.Feed = d.IntN(20), d.IntN(400000)
	for range d.IntN(7) {
		x.Days = append(x.Days, anyClimate(d))
	}
	for range d.IntN([]int{4, 8, api.MaxDcTests + 1}[d.IntN(3)]) {
		x.Tests = append(x.Tests, test(x.First+d.IntN(len(x.Days)+1), d.IntN(4), d.IntN(5)/2))
	}
	return x
}

// copied returns a task that shares no memory with x.
func copied(x api.DcTask) api.DcTask {
	x.Rule.Heat, x.Rule.Wet = slices.Clone(x.Rule.Heat), slices.Clone(x.Rule.Wet)
	x.Days, x.Tests = slices.Clone(x.Days), slices.Clone(x.Tests)
	return x
}

// trial tries all courses of a task at once, as sets of levels from 0 to a top, which stands for all from it on: no level falls, so that none of them becomes one below it.
type trial struct {
	x    api.DcTask
	top  int
	next [][]api.Span // for each day, what can follow each level
}

// trialOf returns the trial of a task with this top, which is not below its grades.
func trialOf(x api.DcTask, top int) trial {
	y := trial{x: x, top: top}
	for _, day := range x.Days {
		s := slowStrength(x.Rule, day)
		var next []api.Span
		for n := range top {
			acid := x.Rule.Own*1000000 + n*x.Rule.Feed
			lo, hi := n+acid*s.Lo/1000000000, n+acid*s.Hi/1000000000
			if acid*s.Hi%1000000000 > 0 {
				hi++
			}
			next = append(next, span(min(lo, top), min(hi, top)))
		}
		y.next = append(y.next, append(next, span(top, top)))
	}
	return y
}

// all returns the set of the levels of a span.
func (y trial) all(s api.Span) []bool {
	set := make([]bool, y.top+1)
	for n := min(s.Lo, y.top); n <= min(s.Hi, y.top); n++ {
		set[n] = true
	}
	return set
}

// follow returns the levels that can follow those of a set.
func (y trial) follow(day int, set []bool) []bool {
	begin := make([]int, y.top+2) // how many spans begin at a level, less those that end before it
	for n, in := range set {
		if in {
			begin[y.next[day][n].Lo]++
			begin[y.next[day][n].Hi+1]--
		}
	}
	after := make([]bool, y.top+1)
	open := 0
	for n := range after {
		open += begin[n]
		after[n] = open > 0
	}
	return after
}

// keep leaves in a set the levels that keep to those of some tests that are on this morning.
func (y trial) keep(set []bool, morning int, tests []int) []bool {
	for _, i := range tests {
		s := y.x.Tests[i]
		if s.Day != y.x.First+morning {
			continue
		}
		for n := range set {
			if off := slowGrade(y.x.Rule, n) - s.Grade; off > s.Error || -off > s.Error {
				set[n] = false
			}
		}
	}
	return set
}

// courses returns, for each morning, the levels up to it of all courses that keep to some tests.
func (y trial) courses(tests []int) [][]bool {
	sets := [][]bool{y.keep(y.all(y.x.Start), 0, tests)}
	for m := range y.next {
		sets = append(sets, y.keep(y.follow(m, sets[m]), m+1, tests))
	}
	return sets
}

// exist reports whether there is a course that keeps to some tests.
func (y trial) exist(tests []int) bool {
	sets := y.courses(tests)
	return slices.Contains(sets[len(sets)-1], true)
}

// joined reports whether a sequence of levels that begins at any one on the morning of the first test keeps to both.
func (y trial) joined(first, second int) bool {
	both := []int{first, second}
	from, until := y.x.Tests[first].Day-y.x.First, y.x.Tests[second].Day-y.x.First
	set := y.keep(y.all(span(0, y.top)), from, both)
	for m := from; m < until; m++ {
		set = y.keep(y.follow(m, set), m+1, both)
	}
	return slices.Contains(set, true)
}

// sorted returns the tests that are taken, in this order, and those that are struck.
func (y trial) sorted() (taken []int, struck []api.DcStrike) {
	for m := range len(y.next) + 1 {
		for i, s := range y.x.Tests {
			if s.Day != y.x.First+m {
				continue
			}
			if y.exist(append(slices.Clone(taken), i)) {
				taken = append(taken, i)
				continue
			}
			by := -1
			for _, j := range taken {
				if !y.joined(j, i) {
					by = j
				}
			}
			struck = append(struck, api.DcStrike{Test: i, By: by})
		}
	}
	return taken, struck
}

// known returns, for each morning, the levels of all courses that keep to some tests.
func (y trial) known(tests []int) [][]bool {
	sets := y.courses(tests)
	for m := len(y.next) - 1; m >= 0; m-- {
		below := []int{0} // how many of the next morning are below a level
		for n, in := range sets[m+1] {
			below = append(below, below[n])
			if in {
				below[n+1]++
			}
		}
		for n := range sets[m] {
			s := y.next[m][n]
			sets[m][n] = sets[m][n] && below[s.Lo] < below[s.Hi+1]
		}
	}
	return sets
}

// lost returns the first days on which one level of a morning, and on which all, are at least Lost.
func (y trial) lost(sets [][]bool) api.Span {
	days := span(-1, -1)
	for m := len(sets) - 1; m >= 0; m-- {
		if slices.Contains(sets[m][y.x.Rule.Lost:], true) {
			days.Lo = y.x.First + m
		}
		if !slices.Contains(sets[m][:y.x.Rule.Lost], true) {
			days.Hi = y.x.First + m
		}
	}
	return days
}

// expect holds what Levels and Lost return for a task against what can be tried.
func (y trial) expect(t *testing.T) {
	t.Helper()
	levels, struck, e := Levels(y.x)
	taken, want := y.sorted()
	if !slices.Equal(struck, want) || e != api.OK {
		t.Fatalf("struck of %+v: %v, %d; want %v", y.x, struck, e, want)
	}
	sets := y.known(taken)
	if len(levels) != len(sets) {
		t.Fatalf("Levels of %+v = %v", y.x, levels)
	}
	for m, set := range sets {
		if !slices.Equal(y.all(levels[m]), set) || levels[m].Lo > levels[m].Hi {
			t.Fatalf("Levels of %+v = %v; not those of the morning %d", y.x, levels, m)
		}
	}
	if days, e := Lost(y.x); days != y.lost(sets) || e != api.OK {
		t.Fatalf("Lost of %+v = %v, %d; want %v", y.x, days, e, y.lost(sets))
	}
	for _, s := range struck {
		with := []int{s.Test}
		if s.By >= 0 {
			with = append(with, s.By)
		}
		if y.exist(with) {
			t.Fatalf("%+v: a course keeps to %v", y.x, with)
		}
	}
}

// P2.5, P2.6, P2.9 and P2.10: what can be known, lost and struck in small tasks, against all courses that there are.
func TestLevelsOfSmallTasks(t *testing.T) {
	d := dice(5)
	for range 4000 {
		trialOf(smallTask(d), 150).expect(t)
	}
}

// P2.5 and P2.10: the same with levels up to the greatest one, which more than one level becomes.
func TestLevelsOfGreatTasks(t *testing.T) {
	d := dice(6)
	for range 8 {
		x := smallTask(d)
		x.Rule.Own, x.Rule.Feed = d.IntN(api.MaxDcOwn), d.IntN(api.MaxDcFeed)
		x.Rule.Grades = [3]int{from(d, 1, 500000), from(d, 500001, 950000), from(d, 950001, api.MaxDcLevel)}
		x.Rule.Lost = from(d, 800000, api.MaxDcLevel)
		x.Start = anySpan(d, 0, api.MaxDcLevel)
		x.Days, x.Tests = x.Days[:min(len(x.Days), 4)], nil
		for range 5 {
			x.Tests = append(x.Tests, test(x.First+d.IntN(len(x.Days)+1), d.IntN(4), d.IntN(2)))
		}
		trialOf(x, api.MaxDcLevel).expect(t)
	}
}

// walk returns a course of a task: each level is any one of those that can follow, often the least or the greatest one.
func walk(d *rand.Rand, x api.DcTask) []int {
	can := x.Start
	var course []int
	for m := range len(x.Days) + 1 {
		n := []int{can.Lo, from(d, can.Lo, can.Hi), can.Hi}[d.IntN(3)]
		course = append(course, n)
		if m < len(x.Days) {
			can = slowNext(x.Rule, slowStrength(x.Rule, x.Days[m]), n)
		}
	}
	return course
}

// keeps reports whether a course keeps to a test.
func keeps(x api.DcTask, course []int, s api.DcTest) bool {
	off := slowGrade(x.Rule, course[s.Day-x.First]) - s.Grade
	return -s.Error <= off && off <= s.Error
}

// trueTests returns tests that a course keeps to.
func trueTests(d *rand.Rand, x api.DcTask, course []int) []api.DcTest {
	var list []api.DcTest
	for range d.IntN(api.MaxDcTests + 1) {
		s := test(x.First+d.IntN(len(course)), d.IntN(4), d.IntN(3))
		if keeps(x, course, s) {
			list = append(list, s)
		}
	}
	return list
}

// expectCourse holds a course that keeps to all tests that are taken against what is known of the task, and when it is lost.
func expectCourse(t *testing.T, x api.DcTask, course []int) {
	t.Helper()
	levels, _, e := Levels(x)
	days, f := Lost(x)
	if e != api.OK || f != api.OK || len(levels) != len(course) {
		t.Fatalf("Levels, Lost of %+v = %v, %d; %v, %d", x, levels, e, days, f)
	}
	for m, n := range course {
		day := x.First + m
		if n < levels[m].Lo || n > levels[m].Hi {
			t.Fatalf("the course %v; Levels of %+v = %v", course, x, levels)
		}
		if n >= x.Rule.Lost && (days.Lo < 0 || day < days.Lo) || n < x.Rule.Lost && days.Hi >= 0 && day >= days.Hi {
			t.Fatalf("the course %v; Lost of %+v = %v", course, x, days)
		}
	}
}

// P2.4, P2.8, P2.10 and P2.11: a course to which all tests are true is one, strikes none of them, and is in what Levels and Lost return.
func TestTrueTests(t *testing.T) {
	d := dice(8)
	for range 3000 {
		x := anyTask(d)
		course := walk(d, x)
		x.Tests = trueTests(d, x, course)
		if n, e := Own(x, course); n != -1 || e != api.OK {
			t.Fatalf("Own of %+v, %v = %d, %d", x, course, n, e)
		}
		if _, struck, e := Levels(x); len(struck) > 0 || e != api.OK {
			t.Fatalf("the course %v; Levels of %+v = %v, %d", course, x, struck, e)
		}
		expectCourse(t, x, course)
	}
}

// P2.8 and P2.11: with any tests, a course that keeps to those that are taken is in what Levels and Lost return.
func TestAnyTests(t *testing.T) {
	d := dice(9)
	count := 0
	for range 6000 {
		x := anyTask(d)
		course := walk(d, x)
		x.Tests = slices.Concat(x.Tests, trueTests(d, x, course))
		x.Tests = x.Tests[:min(len(x.Tests), api.MaxDcTests)]
		_, struck, _ := Levels(x)
		wrong := false
		for i, s := range x.Tests {
			taken := !slices.ContainsFunc(struck, func(y api.DcStrike) bool { return y.Test == i })
			wrong = wrong || taken && !keeps(x, course, s)
		}
		if !wrong && len(struck) > 0 {
			count++
		}
		if !wrong {
			expectCourse(t, x, course)
		}
	}
	if count < 100 {
		t.Errorf("only %d courses with tests that are struck", count)
	}
}

// P2.4: levels of which one is changed, against what can follow each.
func TestOwnOfAnyLevels(t *testing.T) {
	d := dice(10)
	for range 3000 {
		x := anyTask(d)
		course := walk(d, x)
		course[d.IntN(len(course))] += d.IntN(5) - 2
		want := -1
		can := x.Start
		for m, n := range course {
			if n < can.Lo || n > can.Hi {
				want = m
				break
			}
			if m < len(x.Days) {
				can = slowNext(x.Rule, slowStrength(x.Rule, x.Days[m]), n)
			}
		}
		if m, e := Own(x, course); m != want || e != api.OK {
			t.Fatalf("Own of %+v, %v = %d, %d; want %d", x, course, m, e, want)
		}
	}
}

// P2.9: from each level one can follow, each can follow one, and all keep to the tests that are taken.
func TestJustThese(t *testing.T) {
	d := dice(11)
	for range 1000 {
		x := anyTask(d)
		levels, struck, _ := Levels(x)
		for i, s := range x.Tests {
			taken := !slices.ContainsFunc(struck, func(y api.DcStrike) bool { return y.Test == i })
			n := levels[s.Day-x.First]
			lo, hi := slowGrade(x.Rule, n.Lo), slowGrade(x.Rule, n.Hi)
			if taken && (lo < s.Grade-s.Error || hi > s.Grade+s.Error) {
				t.Fatalf("Levels of %+v = %v; not all keep to %v", x, levels, s)
			}
		}
		for m, day := range x.Days {
			if levels[m].Hi-levels[m].Lo > 300 {
				break // too many to look at one by one
			}
			s, after := slowStrength(x.Rule, day), levels[m+1]
			reach := after.Lo - 1 // all up to it follow a level
			for n := levels[m].Lo; n <= levels[m].Hi; n++ {
				can := slowNext(x.Rule, s, n)
				if can.Hi < after.Lo || can.Lo > after.Hi || can.Lo > reach+1 {
					t.Fatalf("Levels of %+v = %v; behind %d on the morning %d", x, levels, n, m)
				}
				reach = max(reach, can.Hi)
			}
			if reach < after.Hi {
				t.Fatalf("Levels of %+v = %v; nothing leads to %d", x, levels, after.Hi)
			}
		}
	}
}

// cooler returns a span of which no end is higher.
func cooler(d *rand.Rand, s api.Span, least int) api.Span {
	lo := max(least, s.Lo-d.IntN(100))
	return span(lo, max(lo, s.Hi-d.IntN(100)))
}

// P2.12: where it is colder and drier, and less at first, no level is higher, and nothing is lost earlier.
func TestCooler(t *testing.T) {
	d := dice(12)
	notEarlier := func(a, b int) bool { return a < 0 || b >= 0 && a >= b }
	for range 3000 {
		x := anyTask(d)
		x.Tests = nil
		y := copied(x)
		y.Start, y.Rule.Own, y.Rule.Feed = cooler(d, x.Start, 0), d.IntN(x.Rule.Own+1), d.IntN(x.Rule.Feed+1)
		for i, day := range x.Days {
			y.Days[i] = api.DcDay{Temp: cooler(d, day.Temp, api.MinTemp), Damp: cooler(d, day.Damp, 0)}
		}
		warm, _, _ := Levels(x)
		cool, _, e := Levels(y)
		for m := range warm {
			if e != api.OK || cool[m].Lo > warm[m].Lo || cool[m].Hi > warm[m].Hi {
				t.Fatalf("Levels of %+v = %v; cooler %+v: %v, %d", x, warm, y, cool, e)
			}
		}
		a, _ := Lost(y)
		b, _ := Lost(x)
		if !notEarlier(a.Lo, b.Lo) || !notEarlier(a.Hi, b.Hi) {
			t.Fatalf("Lost of %+v = %v; cooler %+v: %v", x, b, y, a)
		}
	}
}

// inside reports whether all levels of a list of spans are in those of another one.
func inside(a, b []api.Span) bool {
	return slices.EqualFunc(a, b, func(x, y api.Span) bool { return y.Lo <= x.Lo && x.Hi <= y.Hi })
}

// P2.13: what is behind a morning adds no level on a morning up to it, and all behind it follows from its levels alone.
func TestLater(t *testing.T) {
	d := dice(13)
	for range 3000 {
		x := anyTask(d)
		m := d.IntN(len(x.Days) + 1)
		levels, _, _ := Levels(x)
		y := copied(x)
		y.Days = y.Days[:m]
		y.Tests = slices.DeleteFunc(y.Tests, func(s api.DcTest) bool { return s.Day > x.First+m })
		early, _, e := Levels(y)
		if e != api.OK || !inside(levels[:m+1], early) {
			t.Fatalf("Levels of %+v = %v; up to %d: %v, %d", x, levels, m, early, e)
		}
		y.Days = x.Days
		levels, _, _ = Levels(y)
		z := api.DcTask{Rule: x.Rule, First: x.First + m, Days: x.Days[m:], Start: levels[m]}
		late, _, e := Levels(z)
		if e != api.OK || !slices.Equal(levels[m:], late) || !slices.Equal(levels[:m+1], early) {
			t.Fatalf("Levels of %+v = %v; from %d on: %v, %d", y, levels, m, late, e)
		}
	}
}

// P2.14: if no test is struck, no level is missing without one of them.
func TestFewer(t *testing.T) {
	d := dice(14)
	for range 3000 {
		x := anyTask(d)
		x.Tests = trueTests(d, x, walk(d, x))
		levels, _, _ := Levels(x)
		for i := range x.Tests {
			y := copied(x)
			y.Tests = slices.Delete(y.Tests, i, i+1)
			if more, struck, e := Levels(y); e != api.OK || len(struck) > 0 || !inside(levels, more) {
				t.Fatalf("Levels of %+v = %v; without test %d: %v, %v, %d", x, levels, i, more, struck, e)
			}
		}
	}
}
