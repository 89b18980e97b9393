package film

import "telecine/api"

// Gaps returns where frames are missing, and the marks that contradict the mark before them.
func Gaps(r api.FmReel) (gaps []api.FmGap, wrong []int, e api.Errno) {
	if _, _, e := Check(r); e != api.OK {
		return nil, nil, e
	}
	s, _ := stockOf(r.Gauge)
	for i := 1; i < len(r.Marks); i++ {
		a, b := r.Marks[i-1], r.Marks[i]
		if a.Roll != b.Roll {
			continue
		}
		missing := (b.Number-a.Number)*s.foot - (b.Frame - a.Frame)
		switch {
		case missing > 0:
			gaps = append(gaps, api.FmGap{From: a.Frame, Until: b.Frame, Missing: missing})
		case missing < 0:
			wrong = append(wrong, i)
		}
	}
	return gaps, wrong, api.OK
}

// Place returns the roll of a frame, and which frame of the roll it can have been.
func Place(r api.FmReel, frame int) (roll int, at api.Span, e api.Errno) {
	if _, _, e := Check(r); e != api.OK {
		return 0, api.Span{}, e
	}
	if !within(frame, 0, r.Frames-1) {
		return 0, api.Span{}, api.ErrRange
	}
	if len(r.Marks) == 0 {
		return 0, api.Span{}, api.ErrNone
	}
	s, _ := stockOf(r.Gauge)
	roll, at = between(r.Marks, frame, s.foot)
	if at.Lo > at.Hi {
		return 0, api.Span{}, api.ErrDown
	}
	return roll, at, api.OK
}

// between returns the roll of a frame, and which frames of it the marks around the frame leave; there is at least one mark.
func between(marks []api.FmMark, frame, foot int) (roll int, at api.Span) {
	at.Hi = api.MaxFmNumber * foot
	last, next := around(marks, frame)
	if last < 0 {
		roll = marks[next].Roll
	} else {
		m := marks[last]
		roll, at.Lo = m.Roll, m.Number*foot+(frame-m.Frame)
	}
	if next < len(marks) && marks[next].Roll == roll {
		m := marks[next]
		at.Hi = m.Number*foot - (m.Frame - frame)
	}
	return roll, at
}

// around returns the index of the last mark of a frame (-1: it has none), and that of its next mark (that behind all marks: it has none).
func around(marks []api.FmMark, frame int) (last, next int) {
	for next < len(marks) && marks[next].Frame < frame {
		next++
	}
	if next < len(marks) && marks[next].Frame == frame {
		return next, next
	}
	return next - 1, next
}
