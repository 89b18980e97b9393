package film

import "telecine/api"

// tenThousand is all parts of a length.
const tenThousand = 10000

// Shrink returns by how many parts of 10000 the reel has shrunk, and the length that contradicts those before it (-1: none does).
func Shrink(r api.FmReel) (parts api.Span, wrong int, e api.Errno) {
	if _, _, e := Check(r); e != api.OK {
		return api.Span{}, 0, e
	}
	s, _ := stockOf(r.Gauge)
	parts = api.Span{Lo: 0, Hi: api.MaxFmShrink}
	narrow := func(l api.FmLength) bool {
		for parts.Lo <= parts.Hi && over(l, s.micro, parts.Lo) > l.Error*tenThousand {
			parts.Lo++
		}
		for parts.Lo <= parts.Hi && over(l, s.micro, parts.Hi) < -l.Error*tenThousand {
			parts.Hi--
		}
		return parts.Lo <= parts.Hi
	}
	for i, l := range r.Lengths {
		if !narrow(l) {
			return api.Span{}, i, api.OK
		}
	}
	return parts, -1, api.OK
}

// over returns by how much the frames of a length, each of which had so many micrometres, are longer than measured if they have shrunk by some parts, times 10000 (so that it is no fraction).
func over(l api.FmLength, micro, parts int) int {
	return l.Frames*micro*(tenThousand-parts) - l.Micro*tenThousand
}
