package scan

import "telecine/api"

// million is what a light times an exposure is divided by.
const million = 1000000

// up returns the quotient of two numbers, rounded up; n is at least 0, and by above 0.
func up(n, by int) int { return (n + by - 1) / by }

// factors returns those numbers of a range that can make a level together with one of other numbers: from the least one that makes at least this level with the greatest of them, to the greatest one that makes at most this level with the least of them. Its Lo is above its Hi if there are none. Light and exposure are multiplied, so that it tells each of them by the other one.
func factors(level int, others, inRange api.Span) api.Span {
	all := inRange
	all.Lo = max(all.Lo, up(level*million, others.Hi))
	// No number makes more than white, and with 0 none makes more than black.
	if level < api.SnWhite && others.Lo > 0 {
		all.Hi = min(all.Hi, up((level+1)*million, others.Lo)-1)
	}
	return all
}

// allLights returns all lights.
func allLights() api.Span { return api.Span{Lo: 0, Hi: api.MaxSnLight} }

// allExposures returns all exposures.
func allExposures() api.Span { return api.Span{Lo: 1, Hi: api.MaxSnTimes} }

// lights returns the lights that a shot allows; its Lo is above its Hi if there are none.
func lights(s api.SnShot) api.Span {
	return factors(s.Level, api.Span{Lo: s.Exposure, Hi: s.Exposure}, allLights())
}

// Light returns the light of a pixel by its levels at some exposures, and the shot that contradicts those before it (-1: none does).
func Light(l []api.SnShot) (light api.Span, wrong int, e api.Errno) {
	if len(l) > api.MaxSnShots {
		return api.Span{}, 0, api.ErrLong
	}
	for _, s := range l {
		if !within(s.Exposure, 1, api.MaxSnTimes) || !within(s.Level, 0, api.SnWhite) {
			return api.Span{}, 0, api.ErrRange
		}
	}
	light = allLights()
	for i, s := range l {
		light = common(light, lights(s))
		if light.Lo > light.Hi {
			return api.Span{}, i, api.OK
		}
	}
	return light, -1, api.OK
}

// allowed returns the exposures that all pixels of a patch of a first frame allow in common for another frame; its Lo is above its Hi if there are none.
func allowed(first, f plane, patch api.SnArea) api.Span {
	all := allExposures()
	for x, y := range places(patch) {
		before, _ := first.at(x, y)
		level, _ := f.at(x, y)
		light := lights(api.SnShot{Exposure: api.SnNormal, Level: int(before)})
		all = common(all, factors(int(level), light, allExposures()))
	}
	return all
}

// Flicker returns the exposures of frames, as a patch tells that has the same light in all of them, and the frames that contradict the first one.
func Flicker(l []api.SnFrame, patch api.SnArea) (exposures []api.Span, wrong []int, e api.Errno) {
	if e := listError(l); e != api.OK {
		return nil, nil, e
	}
	first := plane{l[0]}
	if !first.has(patch) {
		return nil, nil, api.ErrArg
	}
	exposures = []api.Span{{Lo: api.SnNormal, Hi: api.SnNormal}}
	for i, f := range l[1:] {
		x := allowed(first, plane{f}, patch)
		if x.Lo > x.Hi {
			x = api.Span{}
			wrong = append(wrong, i+1)
		}
		exposures = append(exposures, x)
	}
	return exposures, wrong, api.OK
}

// Even returns a frame as it would be at the exposure of the first one.
func Even(f api.SnFrame, exposure int) (api.SnFrame, api.Errno) {
	if e := Check(f); e != api.OK {
		return api.SnFrame{}, e
	}
	if !within(exposure, 1, api.MaxSnTimes) {
		return api.SnFrame{}, api.ErrRange
	}
	var even [api.SnWhite + 1]byte
	for p := range api.SnWhite {
		even[p] = byte(min(500*(2*p+1)/exposure, api.SnWhite))
	}
	even[api.SnWhite] = api.SnWhite // it tells no light but the least one
	var pixels []byte
	for _, p := range f.Pixels {
		pixels = append(pixels, even[p])
	}
	return plane{f}.with(pixels), api.OK
}
