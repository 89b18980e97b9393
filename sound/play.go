package sound

import "telecine/api"

// farthest is how far the begin of sound that is played can be from the sample 0.
const farthest = 10 * api.MaxSdSample

// played returns the sample that is heard with a frame.
func played(speed, begin, frame int) int { return begin + speed*frame/api.SdThousand }

// Off returns by how many samples sound is off at most, if it is played so, and the first frame at which.
func Off(t api.SdTask, speed, begin int) (off, frame int, e api.Errno) {
	x, e := taskOf(t)
	switch {
	case e != api.OK:
		return 0, 0, e
	case !within(speed, 1, api.MaxSdSpeed) || !within(begin, -farthest, farthest):
		return 0, 0, api.ErrRange
	case len(t.Marks) == 0:
		return 0, 0, api.ErrDown
	}
	for f, s := range x.possible() {
		heard := played(speed, begin, f)
		if n := max(s.Hi-heard, heard-s.Lo); n > off {
			off, frame = n, f
		}
	}
	return off, frame, api.OK
}

// drift is by how much the samples of possible syncs are, at the most and at the least, above those that are heard at a speed from 0 on, and the first frames at which.
type drift struct {
	most, least int
	high, low   int
}

// see counts a frame, with its samples in possible syncs, and with the one that is heard; the first frame comes first.
func (d *drift) see(frame int, s api.Span, heard int) {
	if most := s.Hi - heard; frame == 0 || most > d.most {
		d.most, d.high = most, frame
	}
	if least := s.Lo - heard; frame == 0 || least < d.least {
		d.least, d.low = least, frame
	}
}

// proof returns the proof for the speed of the drift.
func (d drift) proof(speed int) api.SdProof {
	return api.SdProof{Speed: speed, High: d.high, Low: d.low, Off: (d.most - d.least + 1) / 2}
}

// Fit returns how sound is played best, and a proof for each speed.
func Fit(t api.SdTask) (fit api.SdFit, proofs []api.SdProof, e api.Errno) {
	x, e := taskOf(t)
	switch {
	case e != api.OK:
		return api.SdFit{}, nil, e
	case len(t.Marks) == 0:
		return api.SdFit{}, nil, api.ErrDown
	}
	drifts := make([]drift, len(t.Speeds))
	for frame, s := range x.possible() {
		for i, speed := range t.Speeds {
			drifts[i].see(frame, s, played(speed, 0, frame))
		}
	}
	for i, d := range drifts {
		p := d.proof(t.Speeds[i])
		proofs = append(proofs, p)
		if i == 0 || p.Off < fit.Off {
			// An earlier begin would be off by more at the frame High.
			fit = api.SdFit{Speed: p.Speed, Begin: d.most - p.Off, Off: p.Off}
		}
	}
	return fit, proofs, api.OK
}
