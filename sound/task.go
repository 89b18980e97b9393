package sound

import "telecine/api"

// Check returns the part, the index in it and the error of a task.
func Check(t api.SdTask) (part, at int, e api.Errno) {
	switch {
	case !within(t.Frames, 1, api.MaxSdFrames) || !within(t.Rate.Lo, 1, api.MaxSdRate) || !within(t.Rate.Hi, 1, api.MaxSdRate):
		return 1, 0, api.ErrRange
	case t.Rate.Lo > t.Rate.Hi:
		return 1, 0, api.ErrArg
	}
	if at, e := marksError(t.Marks, t.Frames); e != api.OK {
		return 2, at, e
	}
	if at, e := speedsError(t.Speeds); e != api.OK {
		return 3, at, e
	}
	return 0, 0, api.OK
}

// marksError returns the first mark with an error, and the error of marks of a picture with so many frames.
func marksError(l []api.SdMark, frames int) (at int, e api.Errno) {
	if len(l) > api.MaxSdMarks {
		return 0, api.ErrLong
	}
	for i, m := range l {
		switch {
		case !within(m.Frame, 0, frames-1):
			return i, api.ErrNone
		case !within(m.Sample, 0, api.MaxSdSample) || !within(m.Error, 0, api.MaxSdSample):
			return i, api.ErrRange
		}
	}
	return 0, api.OK
}

// speedsError returns the first speed with an error, and the error of speeds.
func speedsError(l []int) (at int, e api.Errno) {
	if !within(len(l), 1, api.MaxSdSpeeds) {
		return 0, api.ErrLong
	}
	for i, speed := range l {
		switch {
		case !within(speed, 1, api.MaxSdSpeed):
			return i, api.ErrRange
		case i > 0 && speed <= l[i-1]:
			return i, api.ErrArg
		}
	}
	return 0, api.OK
}
