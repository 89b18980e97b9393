package sound

import "telecine/api"

// Numbers beyond those of samples that are heard: samples with a hum, and hums, can be greater.
const (
	humLevel   = 2 * api.MaxSdLevel
	dirtyLevel = 4 * api.MaxSdLevel
)

// mean is how many samples are counted, and their sum.
type mean struct{ sum, count int }

// with returns the mean with one sample more.
func (m mean) with(sample int) mean { return mean{m.sum + sample, m.count + 1} }

// number returns the mean, rounded down; samples are counted.
func (m mean) number() int { return down(m.sum, m.count) }

// Hum returns the hum of a period that samples have.
func Hum(l []int, period int) ([]int, api.Errno) {
	if e := samplesError(l); e != api.OK {
		return nil, e
	}
	switch {
	case len(l) == 0:
		return nil, api.ErrDown
	case !within(period, 1, min(api.MaxSdPeriod, len(l))):
		return nil, api.ErrRange
	}
	var all mean
	means := map[int]mean{}
	for i, sample := range l {
		all = all.with(sample)
		means[i%period] = means[i%period].with(sample)
	}
	hum := make([]int, period)
	for i := range hum {
		hum[i] = means[i].number() - all.number()
	}
	return hum, api.OK
}

// Clean returns samples without a hum.
func Clean(l, hum []int) ([]int, api.Errno) {
	return changed(l, hum, func(sample, number int) int { return sample - number })
}

// Dirty returns samples with a hum.
func Dirty(l, hum []int) ([]int, api.Errno) {
	return changed(l, hum, func(sample, number int) int { return sample + number })
}

// changed returns what becomes of each sample by the number of a hum for its index.
func changed(l, hum []int, change func(sample, number int) int) ([]int, api.Errno) {
	if e := listError(l, api.MaxSdList, dirtyLevel); e != api.OK {
		return nil, e
	}
	if e := listError(hum, api.MaxSdPeriod, humLevel); e != api.OK {
		return nil, e
	}
	if len(hum) == 0 {
		return nil, api.ErrDown
	}
	var after []int
	for i, sample := range l {
		after = append(after, change(sample, hum[i%len(hum)]))
	}
	return after, api.OK
}
