package restore

import (
	"slices"

	"telecine/api"
)

// follow returns the place from which the pixel at a place comes by the step; it is not in the film if the pixel comes from nowhere.
func (s look) follow(p spot) spot {
	if s.Kind == api.ReShift && s.reaches(p) {
		return s.source(p)
	}
	return p
}

// hasChange reports whether one of the changes of a step is that of a pixel.
func hasChange(changes []api.ReChange, frame, pixel int) bool {
	_, found := slices.BinarySearchFunc(changes, api.ReChange{Frame: frame, Pixel: pixel}, compare)
	return found
}

// Trace returns where a pixel comes from, and the steps that have part in it.
func Trace(l []api.SnFrame, steps []api.ReStep, frame, pixel int) (from api.ReAt, by []int, e api.Errno) {
	_, log, e := Run(l, steps)
	if e != api.OK {
		return api.ReAt{}, nil, e
	}
	if !has(l, frame, pixel) {
		return api.ReAt{}, nil, api.ErrNone
	}
	at := api.ReAt{Frame: frame, Pixel: pixel}
	for i, step := range slices.Backward(steps) {
		s := lookAt(step, l) // its size alone matters here, which is that of all films of the program
		here := s.spotOf(at.Frame, at.Pixel)
		there := s.follow(here)
		if there != here || hasChange(log[i], at.Frame, at.Pixel) {
			by = append(by, i)
		}
		if !s.inFilm(there) {
			at = api.ReAt{Frame: -1, Pixel: -1}
			break
		}
		at.Pixel = s.number(there)
	}
	slices.Reverse(by)
	return at, by, api.OK
}
