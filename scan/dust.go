package scan

import "telecine/api"

// Dust returns the mask of the dust that an infrared frame has.
func Dust(f api.SnFrame, below, grow int) (api.SnFrame, api.Errno) {
	if e := Check(f); e != api.OK {
		return api.SnFrame{}, e
	}
	if !within(below, 0, api.SnWhite+1) || !within(grow, 0, api.MaxSnReach) {
		return api.SnFrame{}, api.ErrRange
	}
	p := plane{f}
	var pixels []byte
search:
	for x, y := range places(p.area()) {
		for a, b := range places(around(x, y, grow)) {
			if level, ok := p.at(a, b); ok && int(level) < below {
				pixels = append(pixels, api.SnWhite)
				continue search
			}
		}
		pixels = append(pixels, 0)
	}
	return p.with(pixels), api.OK
}

// joined returns a spot and a further pixel.
func joined(s api.SnSpot, x, y int) api.SnSpot {
	if s.Pixels == 0 {
		return api.SnSpot{Area: around(x, y, 0), Pixels: 1}
	}
	return api.SnSpot{Area: api.SnArea{X: wider(s.Area.X, x), Y: wider(s.Area.Y, y)}, Pixels: s.Pixels + 1}
}

// wider returns the smallest span that has a span and a number.
func wider(s api.Span, n int) api.Span { return api.Span{Lo: min(s.Lo, n), Hi: max(s.Hi, n)} }

// Spots returns the spots of a mask.
func Spots(mask api.SnFrame) ([]api.SnSpot, api.Errno) {
	if e := Check(mask); e != api.OK {
		return nil, e
	}
	p := plane{mask}
	var found [api.MaxSnSide][api.MaxSnSide]bool
	var spot api.SnSpot
	var follow func(x, y int)
	follow = func(x, y int) {
		if level, _ := p.at(x, y); level == 0 || found[y][x] {
			return
		}
		found[y][x] = true
		spot = joined(spot, x, y)
		for a, b := range places(around(x, y, 1)) {
			follow(a, b)
		}
	}
	var spots []api.SnSpot
	for x, y := range places(p.area()) {
		spot = api.SnSpot{}
		follow(x, y)
		if spot.Pixels > 0 {
			spots = append(spots, spot)
		}
	}
	return spots, api.OK
}
