package decay

import "telecine/api"

// bounded is a span whose numbers have to be from least to most.
type bounded struct {
	api.Span
	least, most int
}

// demand panics with the error of some spans: a number out of its range, in any of them, comes before a Lo above its Hi.
func demand(spans ...bounded) {
	for _, s := range spans {
		if !within(s.Lo, s.least, s.most) || !within(s.Hi, s.least, s.most) {
			panic(api.ErrRange)
		}
	}
	for _, s := range spans {
		if s.Lo > s.Hi {
			panic(api.ErrArg)
		}
	}
}

// spansError returns the error of some spans.
func spansError(spans ...bounded) (e api.Errno) {
	defer func() {
		if x, ok := recover().(api.Errno); ok {
			e = x
		}
	}()
	demand(spans...)
	return api.OK
}

// climateError returns the error of a climate.
func climateError(d api.DcDay) api.Errno {
	return spansError(bounded{d.Temp, api.MinTemp, api.MaxTemp}, bounded{d.Damp, 0, api.All})
}

// levelsError returns the error of a span of levels.
func levelsError(n api.Span) api.Errno { return spansError(bounded{n, 0, api.MaxDcLevel}) }

// within reports whether a number is from lo to hi.
func within(n, lo, hi int) bool { return lo <= n && n <= hi }

// firstError returns the first of some elements with an error, and its error.
func firstError(count int, check func(i int) api.Errno) (at int, e api.Errno) {
	for i := range count {
		if e := check(i); e != api.OK {
			return i, e
		}
	}
	return 0, api.OK
}

// Check returns the part, the index in it and the error of a rule.
func Check(r api.DcRule) (part, at int, e api.Errno) {
	if at, e := checkCurve(r.Heat, api.MinTemp, api.MaxTemp); e != api.OK {
		return 1, at, e
	}
	if at, e := checkCurve(r.Wet, 0, api.All); e != api.OK {
		return 2, at, e
	}
	if !within(r.Own, 0, api.MaxDcOwn) || !within(r.Feed, 0, api.MaxDcFeed) {
		return 3, 0, api.ErrRange
	}
	if at, e := checkGrades(r.Grades); e != api.OK {
		return 4, at, e
	}
	if !within(r.Lost, 1, api.MaxDcLevel) {
		return 5, 0, api.ErrRange
	}
	return 0, 0, api.OK
}

// checkCurve returns the first point with an error of a curve whose At are from least to most, and its error.
func checkCurve(curve []api.DcPoint, least, most int) (at int, e api.Errno) {
	if !within(len(curve), 2, api.MaxDcPoints) {
		return 0, api.ErrLong
	}
	return firstError(len(curve), func(i int) api.Errno {
		p := curve[i]
		switch {
		case !within(p.At, least, most) || !within(p.Factor, 0, api.All):
			return api.ErrRange
		case i > 0 && (p.At <= curve[i-1].At || p.Factor < curve[i-1].Factor):
			return api.ErrArg
		}
		return api.OK
	})
}

// checkGrades returns the first of the Grades with an error, and its error.
func checkGrades(grades [3]int) (at int, e api.Errno) {
	return firstError(len(grades), func(i int) api.Errno {
		switch {
		case !within(grades[i], 1, api.MaxDcLevel):
			return api.ErrRange
		case i > 0 && grades[i] <= grades[i-1]:
			return api.ErrArg
		}
		return api.OK
	})
}

// CheckTask returns the part, the index in it and the error of a task.
func CheckTask(t api.DcTask) (part, at int, e api.Errno) {
	if _, _, e := Check(t.Rule); e != api.OK {
		return 1, 0, e
	}
	if len(t.Days) > api.MaxDcDays || len(t.Tests) > api.MaxDcTests {
		return 2, 0, api.ErrLong
	}
	if !within(t.First, 0, api.MaxDay-len(t.Days)) {
		return 2, 0, api.ErrRange
	}
	if at, e := firstError(len(t.Days), func(i int) api.Errno { return climateError(t.Days[i]) }); e != api.OK {
		return 3, at, e
	}
	if e := levelsError(t.Start); e != api.OK {
		return 4, 0, e
	}
	if at, e := firstError(len(t.Tests), func(i int) api.Errno { return testError(t, i) }); e != api.OK {
		return 5, at, e
	}
	return 0, 0, api.OK
}

// testError returns the error of a test of a task.
func testError(t api.DcTask, i int) api.Errno {
	x := t.Tests[i]
	grades := len(t.Rule.Grades)
	if !within(x.Day, t.First, t.First+len(t.Days)) || !within(x.Grade, 0, grades) || !within(x.Error, 0, grades) {
		return api.ErrRange
	}
	return api.OK
}
