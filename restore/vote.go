package restore

import (
	"telecine/api"
	"telecine/film"
)

// ballot is what somebody has one vote for that counts: a step.
type ballot struct {
	who  string
	step int
}

// votesError returns the error of the votes on so many steps.
func votesError(steps int, votes []api.ReVote) api.Errno {
	if len(votes) > api.MaxReVotes {
		return api.ErrLong
	}
	for _, v := range votes {
		switch {
		case !film.Name(v.Who):
			return api.ErrForm
		case !within(v.Step, 0, steps-1):
			return api.ErrNone
		}
	}
	return api.OK
}

// Voted returns the steps that are accepted.
func Voted(steps int, votes []api.ReVote, need int) ([]int, api.Errno) {
	if !within(steps, 0, api.MaxReSteps) || !within(need, 1, api.MaxReVotes) {
		return nil, api.ErrRange
	}
	if e := votesError(steps, votes); e != api.OK {
		return nil, e
	}
	last := map[ballot]bool{}
	for _, v := range votes {
		last[ballot{v.Who, v.Step}] = v.Yes
	}
	var yes, no [api.MaxReSteps]int
	for b, says := range last {
		if says {
			yes[b.step]++
		} else {
			no[b.step]++
		}
	}
	var accepted []int
	for step := range steps {
		if yes[step] >= need && no[step] == 0 {
			accepted = append(accepted, step)
		}
	}
	return accepted, api.OK
}
