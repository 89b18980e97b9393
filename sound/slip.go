package sound

import (
	"telecine/api"
	"telecine/bench"
)

// Slip returns by how many frames the sound of a frame comes too early on a print that was cut.
func Slip(frames, lead int, cuts []api.BnCut, frame int) (int, api.Errno) {
	if !within(lead, 0, api.MaxSdLead) {
		return 0, api.ErrRange
	}
	picture, e := bench.After(frames, cuts, frame)
	if e != api.OK {
		return 0, e
	}
	if frame+lead >= frames {
		return 0, api.ErrRange
	}
	// Nothing else can be wrong with it: the frames and the cuts are without an error, and it is on the print.
	sound, e := bench.After(frames, cuts, frame+lead)
	if e != api.OK {
		return 0, api.SdErrLost
	}
	return lead - (sound - picture), api.OK
}
