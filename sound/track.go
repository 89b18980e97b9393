package sound

import (
	"telecine/api"
	"telecine/scan"
)

// trackKind is a kind of optical track.
type trackKind interface {
	// part returns what a pixel adds to the level of its row; a brighter one never adds less.
	part(pixel byte) int
}

// area is a track of variable area.
type area struct{}

func (area) part(pixel byte) int {
	if pixel >= api.SdHalf {
		return 1
	}
	return 0
}

// density is a track of variable density.
type density struct{}

func (density) part(pixel byte) int { return int(pixel) }

// kindOf returns the kind of track with a number, and whether there is one.
func kindOf(number int) (k trackKind, ok bool) {
	switch number {
	case api.SdArea:
		return area{}, true
	case api.SdDensity:
		return density{}, true
	}
	return nil, false
}

// rowLevels returns the levels that a row of a track can have, by its pixels and those of the mask.
func rowLevels(k trackKind, pixels, mask []byte) (levels api.Span) {
	for x, pixel := range pixels {
		least, most := pixel, pixel
		if mask[x] != 0 {
			least, most = 0, api.SnWhite
		}
		levels.Lo += k.part(least)
		levels.Hi += k.part(most)
	}
	return levels
}

// Track returns the levels of a track, row by row, as far as a mask leaves them open.
func Track(f, mask api.SnFrame, kind int) ([]api.Span, api.Errno) {
	if e := scan.Check(f); e != api.OK {
		return nil, e
	}
	if e := scan.Check(mask); e != api.OK {
		return nil, e
	}
	k, ok := kindOf(kind)
	if !ok || mask.Wide != f.Wide || mask.High != f.High {
		return nil, api.ErrArg
	}
	var levels []api.Span
	for y := range f.High {
		from, until := y*f.Wide, (y+1)*f.Wide
		levels = append(levels, rowLevels(k, f.Pixels[from:until], mask.Pixels[from:until]))
	}
	return levels, api.OK
}
