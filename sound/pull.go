package sound

import "telecine/api"

// Pull returns samples as they are heard at another speed.
func Pull(l []int, begin, step, many int) ([]int, api.Errno) {
	if e := samplesError(l); e != api.OK {
		return nil, e
	}
	switch {
	case len(l) == 0:
		return nil, api.ErrDown
	case !within(begin, 0, api.SdThousand*api.MaxSdList) || !within(step, 0, api.SdThousand*api.MaxSdRate) || !within(many, 0, api.MaxSdList):
		return nil, api.ErrRange
	}
	var pulled []int
	for i := range many {
		pulled = append(pulled, sampleAt(l, begin+i*step))
	}
	return pulled, api.OK
}

// sampleAt returns what is heard so many thousandths of a sample behind the first one.
func sampleAt(l []int, thousandths int) int {
	index, rest := thousandths/api.SdThousand, thousandths%api.SdThousand
	if index >= len(l)-1 {
		return l[len(l)-1]
	}
	return between(l[index], l[index+1], rest, api.SdThousand)
}
