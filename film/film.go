// Package film is layer 1: see shared/doc/01-film.md.
package film

import (
	"strings"

	"telecine/api"
)

// stock is what all film of a gauge has: the frames of a foot, and how many micrometres a new frame is long.
type stock struct{ foot, micro int }

// stocks are those of the gauges, the widest one first.
var stocks = [3]stock{{16, 19000}, {40, 7620}, {80, 3810}}

// stockOf returns the stock of a gauge, and whether it is a gauge.
func stockOf(gauge int) (stock, bool) {
	wider := 0
	switch gauge {
	case api.Fm8:
		wider++
		fallthrough
	case api.Fm16:
		wider++
		fallthrough
	case api.Fm35:
		return stocks[wider], true
	}
	return stock{}, false
}

// within reports whether a number is from lo to hi.
func within(n, lo, hi int) bool { return lo <= n && n <= hi }

// letter reports whether a byte is a lower-case letter.
func letter(b byte) bool { return 'a' <= b && b <= 'z' }

// digit reports whether a byte is a digit.
func digit(b byte) bool { return '0' <= b && b <= '9' }

// Name reports whether a string is a name.
func Name(s string) bool {
	if s == "" || len(s) > api.MaxName || !letter(s[0]) {
		return false
	}
	for _, part := range strings.Split(s, "-") {
		if !namePart(part) {
			return false
		}
	}
	return true
}

// namePart reports whether a string can stand between the hyphens of a name.
func namePart(s string) bool {
	for i := range len(s) {
		if !letter(s[i]) && !digit(s[i]) {
			return false
		}
	}
	return s != ""
}

// Check returns the part, the index in it and the error of a reel.
func Check(r api.FmReel) (part, at int, e api.Errno) {
	if e := checkWhole(r); e != api.OK {
		return 1, 0, e
	}
	if at, e := checkMarks(r); e != api.OK {
		return 2, at, e
	}
	if at, e := checkSymbols(r); e != api.OK {
		return 3, at, e
	}
	if at, e := checkLengths(r); e != api.OK {
		return 4, at, e
	}
	return 0, 0, api.OK
}

// checkWhole returns the error of what a reel is as a whole.
func checkWhole(r api.FmReel) api.Errno {
	_, gauge := stockOf(r.Gauge)
	base := within(r.Base, api.FmNitrate, api.FmPolyester)
	lo := within(r.Years.Lo, api.MinFmYear, api.MaxFmYear)
	hi := within(r.Years.Hi, api.MinFmYear, api.MaxFmYear)
	switch {
	case !Name(r.Name):
		return api.ErrForm
	case !gauge || !base:
		return api.ErrArg
	case !within(r.Frames, 1, api.MaxFrames) || !within(r.Keep, 0, api.MaxFmKeep) || !lo || !hi:
		return api.ErrRange
	case r.Years.Lo > r.Years.Hi:
		return api.ErrArg
	}
	return api.OK
}

// checkEach returns the first of some elements with an error, and its error.
func checkEach(count, most int, check func(i int) api.Errno) (at int, e api.Errno) {
	if count > most {
		return 0, api.ErrLong
	}
	for i := range count {
		if e := check(i); e != api.OK {
			return i, e
		}
	}
	return 0, api.OK
}

// checkMarks returns the first mark of a reel with an error, and its error.
func checkMarks(r api.FmReel) (at int, e api.Errno) {
	return checkEach(len(r.Marks), api.MaxFmMarks, func(i int) api.Errno {
		m := r.Marks[i]
		switch {
		case !within(m.Frame, 0, r.Frames-1) || !within(m.Roll, 0, api.MaxFmRoll) || !within(m.Number, 0, api.MaxFmNumber):
			return api.ErrRange
		case i > 0 && m.Frame <= r.Marks[i-1].Frame:
			return api.ErrArg
		}
		return api.OK
	})
}

// checkSymbols returns the first symbol of a reel with an error, and its error.
func checkSymbols(r api.FmReel) (at int, e api.Errno) {
	return checkEach(len(r.Symbols), api.MaxFmSymbols, func(i int) api.Errno {
		s := r.Symbols[i]
		if !within(s.Roll, 0, api.MaxFmRoll) || !within(s.Code, 0, api.FmCycle-1) {
			return api.ErrRange
		}
		return api.OK
	})
}

// checkLengths returns the first length of a reel with an error, and its error.
func checkLengths(r api.FmReel) (at int, e api.Errno) {
	return checkEach(len(r.Lengths), api.MaxFmLengths, func(i int) api.Errno {
		l := r.Lengths[i]
		if !within(l.Frames, 1, r.Frames) || !within(l.Micro, 1, api.MaxFmMicro) || !within(l.Error, 0, api.MaxFmMicro) {
			return api.ErrRange
		}
		return api.OK
	})
}

// Feet returns how many feet, and how many frames besides, some frames of a gauge are.
func Feet(gauge, frames int) (feet, rest int, e api.Errno) {
	s, ok := stockOf(gauge)
	if !ok {
		return 0, 0, api.ErrArg
	}
	if !within(frames, 0, api.MaxFrames) {
		return 0, 0, api.ErrRange
	}
	return frames / s.foot, frames % s.foot, api.OK
}

// Frames returns how many frames some feet, and some frames besides, are.
func Frames(gauge, feet, rest int) (int, api.Errno) {
	s, ok := stockOf(gauge)
	if !ok {
		return 0, api.ErrArg
	}
	// Feet are held against their own limit first, so that the product cannot overflow.
	if !within(feet, 0, api.MaxFrames/s.foot) || !within(rest, 0, s.foot-1) {
		return 0, api.ErrRange
	}
	frames := feet*s.foot + rest
	if frames > api.MaxFrames {
		return 0, api.ErrRange
	}
	return frames, api.OK
}
