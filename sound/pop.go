package sound

import (
	"slices"

	"telecine/api"
)

// pop is samples that are replaced at a splice, from an index on and before another one.
type pop struct{ from, until int }

// popsOf returns the pops at splices, in their order, or the error of samples, splices and a reach.
func popsOf(l, splices []int, reach int) ([]pop, api.Errno) {
	if e := samplesError(l); e != api.OK {
		return nil, e
	}
	switch {
	case !within(reach, 0, api.MaxSdReach):
		return nil, api.ErrRange
	case len(splices) > api.MaxFmMarks:
		return nil, api.ErrLong
	}
	var pops []pop
	for _, splice := range splices {
		if !within(splice, 0, len(l)-1) {
			return nil, api.ErrRange
		}
		pops = append(pops, pop{max(splice-reach, 0), min(splice+reach+1, len(l))})
	}
	return pops, api.OK
}

// bridge returns what the samples of a pop become; there is a sample before or behind it.
func bridge(l []int, p pop) []int {
	before, behind := p.from-1, p.until
	if before < 0 {
		before = behind
	}
	if behind == len(l) {
		behind = before
	}
	made := make([]int, p.until-p.from)
	for i := range made {
		made[i] = between(l[before], l[behind], i+1, len(made)+1)
	}
	return made
}

// Bloop returns samples whose pops at splices are bridged, and the samples that were there.
func Bloop(l, splices []int, reach int) (after, kept []int, e api.Errno) {
	pops, e := popsOf(l, splices, reach)
	if e != api.OK {
		return nil, nil, e
	}
	if slices.Contains(pops, pop{0, len(l)}) {
		return nil, nil, api.ErrDown
	}
	after = slices.Clone(l)
	for _, p := range pops {
		kept = append(kept, after[p.from:p.until]...)
		copy(after[p.from:p.until], bridge(after, p))
	}
	return after, kept, api.OK
}

// Unbloop returns the samples that were there before.
func Unbloop(l, kept, splices []int, reach int) ([]int, api.Errno) {
	pops, e := popsOf(l, splices, reach)
	if e != api.OK {
		return nil, e
	}
	replaced := 0
	for _, p := range pops {
		replaced += p.until - p.from
	}
	if len(kept) != replaced {
		return nil, api.ErrArg
	}
	before := slices.Clone(l)
	for _, p := range slices.Backward(pops) {
		replaced -= p.until - p.from
		copy(before[p.from:p.until], kept[replaced:])
	}
	return before, api.OK
}
