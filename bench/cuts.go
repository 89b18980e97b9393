package bench

import (
	"slices"

	"telecine/api"
)

// After returns the number of a frame after cuts.
func After(frames int, cuts []api.BnCut, frame int) (int, api.Errno) {
	if _, e := leave(frames, cuts); e != api.OK {
		return 0, e
	}
	if !within(frame, 0, frames-1) {
		return 0, api.ErrRange
	}
	follow := func(c api.BnCut) (there bool) {
		if frame > c.Until {
			frame -= length(c)
			return true
		}
		return frame < c.From
	}
	for _, c := range cuts {
		if !follow(c) {
			return 0, api.ErrNone
		}
	}
	return frame, api.OK
}

// Before returns the number of a frame ahead of cuts.
func Before(frames int, cuts []api.BnCut, frame int) (int, api.Errno) {
	left, e := leave(frames, cuts)
	if e != api.OK {
		return 0, e
	}
	if !within(frame, 0, left-1) {
		return 0, api.ErrRange
	}
	for _, c := range slices.Backward(cuts) {
		if frame >= c.From {
			frame += length(c)
		}
	}
	return frame, api.OK
}

// length returns how many frames a cut takes out.
func length(c api.BnCut) int { return c.Until - c.From + 1 }

// leave returns how many frames of a reel cuts leave, or the error of the frames and the cuts.
func leave(frames int, cuts []api.BnCut) (left int, e api.Errno) {
	if !within(frames, 1, api.MaxFrames) {
		return 0, api.ErrRange
	}
	if len(cuts) > api.MaxBnCuts {
		return 0, api.ErrLong
	}
	left = frames
	for _, c := range cuts {
		switch {
		case !within(c.From, 0, left-1) || !within(c.Until, 0, left-1):
			return 0, api.ErrRange
		case c.From > c.Until:
			return 0, api.ErrArg
		}
		left -= length(c)
	}
	return left, api.OK
}
