package sound

import (
	"math"
	"slices"

	"telecine/api"
)

// floor returns a quotient, rounded down.
func floor(n, by int) int { return int(math.Floor(float64(n) / float64(by))) }

// apart returns by how much two numbers differ, in size.
func apart(a, b int) int { return max(a, b) - min(a, b) }

// slowSyncs returns all syncs of a small task whose first sample is from -25 to 25, whatever its marks are.
func slowSyncs(t api.SdTask) (all [][]int) {
	var add func(sync []int)
	add = func(sync []int) {
		if len(sync) == t.Frames {
			all = append(all, slices.Clone(sync))
			return
		}
		for step := t.Rate.Lo; step <= t.Rate.Hi; step++ {
			add(append(sync, sync[len(sync)-1]+step))
		}
	}
	for first := -25; first <= 25; first++ {
		add([]int{first})
	}
	return all
}

// slowKeeping returns those of some syncs that keep to a mark.
func slowKeeping(syncs [][]int, m api.SdMark) (l [][]int) {
	for _, sync := range syncs {
		if apart(sync[m.Frame], m.Sample) <= m.Error {
			l = append(l, sync)
		}
	}
	return l
}

// slowTaken takes the marks of a small task, one after the other, and returns the possible syncs, and what is struck.
func slowTaken(t api.SdTask) (possible [][]int, struck []api.SdStrike) {
	all := slowSyncs(t)
	possible = all
	var taken []int
	for i, m := range t.Marks {
		keeping := slowKeeping(possible, m)
		if len(keeping) > 0 {
			possible, taken = keeping, append(taken, i)
			continue
		}
		by := slices.IndexFunc(taken, func(j int) bool { return len(slowKeeping(slowKeeping(all, t.Marks[j]), m)) == 0 })
		struck = append(struck, api.SdStrike{Mark: i, By: taken[by]})
	}
	return possible, struck
}

// slowWhere returns the samples of all frames in some syncs.
func slowWhere(syncs [][]int) (l []api.Span) {
	for f := range syncs[0] {
		s := span(math.MaxInt, math.MinInt)
		for _, sync := range syncs {
			s = span(min(s.Lo, sync[f]), max(s.Hi, sync[f]))
		}
		l = append(l, s)
	}
	return l
}

// slowNarrow narrows the samples of all frames from each frame to the next one, forward and back, by some marks; it is not ok if nothing is left.
func slowNarrow(t api.SdTask, marks ...api.SdMark) (l []api.Span, ok bool) {
	l = slices.Repeat([]api.Span{span(-1<<40, 1<<40)}, t.Frames)
	narrow := func(f, lo, hi int) {
		l[f] = span(max(l[f].Lo, lo), min(l[f].Hi, hi))
	}
	for _, m := range marks {
		narrow(m.Frame, m.Sample-m.Error, m.Sample+m.Error)
	}
	for f := 1; f < t.Frames; f++ {
		narrow(f, l[f-1].Lo+t.Rate.Lo, l[f-1].Hi+t.Rate.Hi)
	}
	for f := t.Frames - 2; f >= 0; f-- {
		narrow(f, l[f+1].Lo-t.Rate.Hi, l[f+1].Hi-t.Rate.Lo)
	}
	return l, !slices.ContainsFunc(l, func(s api.Span) bool { return s.Lo > s.Hi })
}

// slowTake takes the marks of a task by narrowing, and returns the samples of all frames, and what is struck.
func slowTake(t api.SdTask) (l []api.Span, struck []api.SdStrike) {
	var taken []api.SdMark
	var indices []int
	for i, m := range t.Marks {
		if _, ok := slowNarrow(t, append(slices.Clone(taken), m)...); ok {
			taken, indices = append(taken, m), append(indices, i)
			continue
		}
		for j, other := range taken {
			if _, ok := slowNarrow(t, other, m); !ok {
				struck = append(struck, api.SdStrike{Mark: i, By: indices[j]})
				break
			}
		}
	}
	l, _ = slowNarrow(t, taken...)
	return l, struck
}

// slowOff returns by how much sound is off at each frame where samples are possible.
func slowOff(where []api.Span, speed, begin int) (off []int) {
	for f, s := range where {
		heard := begin + floor(speed*f, 1000)
		off = append(off, max(apart(heard, s.Lo), apart(heard, s.Hi)))
	}
	return off
}

// slowFit tries all begins from first to last with all speeds.
func slowFit(t api.SdTask, where []api.Span, first, last int) (best api.SdFit) {
	best.Off = math.MaxInt
	for _, speed := range t.Speeds {
		for begin := first; begin <= last; begin++ {
			if off := slices.Max(slowOff(where, speed, begin)); off < best.Off {
				best = api.SdFit{Speed: speed, Begin: begin, Off: off}
			}
		}
	}
	return best
}

// slowProof returns the proof for a speed.
func slowProof(where []api.Span, speed int) api.SdProof {
	var high, low []int
	for f, s := range where {
		high, low = append(high, s.Hi-floor(speed*f, 1000)), append(low, s.Lo-floor(speed*f, 1000))
	}
	most, least := slices.Max(high), slices.Min(low)
	off := int(math.Ceil(float64(most-least) / 2))
	return api.SdProof{Speed: speed, High: slices.Index(high, most), Low: slices.Index(low, least), Off: off}
}

// slowSlip returns by how much the sound of a frame comes too early, by the frames that cuts leave, or the error.
func slowSlip(frames, lead int, left []int, frame int) (int, api.Errno) {
	picture, sound := slices.Index(left, frame), slices.Index(left, frame+lead)
	switch {
	case picture < 0:
		return 0, api.ErrNone
	case frame+lead >= frames:
		return 0, api.ErrRange
	case sound < 0:
		return 0, api.SdErrLost
	}
	return lead - sound + picture, api.OK
}

// meanOf returns the mean of those samples whose index has the same rest, divided by a period, as one index, rounded down.
func meanOf(l []int, index, period int) int {
	var sum, count int
	for i := index % period; i < len(l); i += period {
		sum += l[i]
		count++
	}
	return floor(sum, count)
}

// slowHum returns the hum of samples.
func slowHum(l []int, period int) (hum []int) {
	for i := range period {
		hum = append(hum, meanOf(l, i, period)-meanOf(l, 0, 1))
	}
	return hum
}

// slowBloop bridges pops, sample by sample; it is not ok if one reaches from the first to the last sample.
func slowBloop(l, splices []int, reach int) (after, kept []int, ok bool) {
	after = slices.Clone(l)
	for _, splice := range splices {
		var replaced []int
		for i := range after {
			if apart(i, splice) <= reach {
				replaced = append(replaced, i)
				kept = append(kept, after[i])
			}
		}
		n := len(replaced)
		if n == len(l) {
			return nil, nil, false
		}
		for k, i := range replaced {
			switch {
			case replaced[0] == 0:
				after[i] = after[replaced[n-1]+1]
			case replaced[n-1] == len(l)-1:
				after[i] = after[replaced[0]-1]
			default:
				a, b := after[replaced[0]-1], after[replaced[n-1]+1]
				after[i] = a + floor((b-a)*(k+1), n+1)
			}
		}
	}
	return after, kept, true
}

// slowPull returns samples that are pulled, each from a list of what is heard at all thousandths.
func slowPull(l []int, begin, step, many int) (pulled []int) {
	var heard []int
	for i, a := range l[:len(l)-1] {
		for rest := range 1000 {
			heard = append(heard, a+floor((l[i+1]-a)*rest, 1000))
		}
	}
	heard = append(heard, l[len(l)-1])
	for i := range many {
		pulled = append(pulled, heard[min(begin+i*step, len(heard)-1)])
	}
	return pulled
}
