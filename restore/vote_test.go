package restore

import (
	"math/rand/v2"
	"slices"
	"strconv"
	"strings"
	"testing"

	"telecine/api"
)

// vote returns what somebody says of a step.
func vote(who string, step int, yes bool) api.ReVote {
	return api.ReVote{Who: who, Step: step, Yes: yes}
}

// expectVoted checks what Voted returns without an error.
func expectVoted(t *testing.T, steps int, votes []api.ReVote, need int, want ...int) {
	t.Helper()
	if l, e := Voted(steps, votes, need); !slices.Equal(l, want) || e != api.OK {
		t.Errorf("Voted of %d steps, need %d, by %v = %v, %d; want %v", steps, need, votes, l, e, want)
	}
}

// P8.6: which votes count, and which steps are accepted.
func TestVoted(t *testing.T) {
	yes, no := true, false
	ann, bob := vote("ann", 0, yes), vote("bob", 0, yes)
	expectVoted(t, 0, nil, 1)
	expectVoted(t, 20, nil, 200)
	expectVoted(t, 20, []api.ReVote{}, 1)
	expectVoted(t, 1, []api.ReVote{ann}, 1, 0)
	expectVoted(t, 1, []api.ReVote{ann}, 2)
	expectVoted(t, 2, []api.ReVote{ann}, 1, 0)
	expectVoted(t, 20, []api.ReVote{vote("ann", 19, yes)}, 1, 19)
	expectVoted(t, 1, []api.ReVote{ann, bob}, 2, 0)
	expectVoted(t, 1, []api.ReVote{ann, bob}, 1, 0)
	expectVoted(t, 1, []api.ReVote{ann, bob}, 3)
	expectVoted(t, 1, []api.ReVote{ann, ann}, 2)
	expectVoted(t, 1, []api.ReVote{ann, bob, vote("cleo", 0, no)}, 2)
	expectVoted(t, 1, []api.ReVote{vote("cleo", 0, no), ann, bob}, 1)
	expectVoted(t, 1, []api.ReVote{vote("cleo", 0, no), ann, bob, vote("cleo", 0, yes)}, 3, 0)
	expectVoted(t, 1, []api.ReVote{vote("cleo", 0, yes), ann, bob, vote("cleo", 0, no)}, 1)
	expectVoted(t, 1, []api.ReVote{vote("ann", 0, no), ann, vote("ann", 0, no), ann}, 1, 0)
	expectVoted(t, 3, []api.ReVote{ann, vote("ann", 1, no), vote("ann", 2, yes)}, 1, 0, 2)
	expectVoted(t, 3, []api.ReVote{vote("ann", 2, yes), vote("bob", 1, yes), ann}, 1, 0, 1, 2)
	// A number in a name is a part of it.
	expectVoted(t, 11, []api.ReVote{vote("a1", 1, yes), vote("a", 1, yes), vote("a1", 1, yes)}, 2, 1)
	// As many persons as there can be.
	var many []api.ReVote
	for i := range 200 {
		many = append(many, vote("who-"+strconv.Itoa(i), 3, yes))
	}
	expectVoted(t, 20, many, 200, 3)
	expectVoted(t, 20, many[1:], 200)
}

// P8.6: the errors of votes, and their order.
func TestVotedErrors(t *testing.T) {
	right := vote("ann", 0, true)
	for i, c := range []struct {
		steps int
		votes []api.ReVote
		need  int
		e     api.Errno
	}{
		{-1, nil, 1, api.ErrRange}, {21, nil, 1, api.ErrRange}, {1 << 62, nil, 1, api.ErrRange}, {-1 << 62, nil, 1, api.ErrRange}, {2, nil, 0, api.ErrRange}, {2, nil, 201, api.ErrRange}, {2, nil, -1, api.ErrRange}, {2, nil, 1 << 62, api.ErrRange},
		{2, make([]api.ReVote, 201), 1, api.ErrLong}, {2, slices.Repeat([]api.ReVote{right}, 201), 1, api.ErrLong}, {2, slices.Repeat([]api.ReVote{right}, 200), 1, api.OK}, {21, make([]api.ReVote, 201), 1, api.ErrRange}, {2, make([]api.ReVote, 201), 0, api.ErrRange},
		{2, []api.ReVote{right, vote("", 0, true)}, 1, api.ErrForm}, {2, []api.ReVote{right, vote("Ann", 0, true)}, 1, api.ErrForm}, {2, []api.ReVote{right, vote("ann ", 0, true)}, 1, api.ErrForm}, {2, []api.ReVote{vote(strings.Repeat("a", 24), 0, true)}, 1, api.OK}, {2, []api.ReVote{vote(strings.Repeat("a", 25), 0, true)}, 1, api.ErrForm},
		{2, []api.ReVote{right, vote("ann", 2, true)}, 1, api.ErrNone}, {2, []api.ReVote{right, vote("ann", -1, true)}, 1, api.ErrNone}, {0, []api.ReVote{right}, 1, api.ErrNone}, {20, []api.ReVote{vote("ann", 20, true)}, 1, api.ErrNone}, {20, []api.ReVote{vote("ann", 19, true)}, 1, api.OK}, {20, []api.ReVote{vote("ann", 1<<62, true)}, 1, api.ErrNone},
		// The first vote with an error decides, and of its errors the one named first.
		{2, []api.ReVote{vote("Ann", 2, true)}, 1, api.ErrForm}, {2, []api.ReVote{vote("ann", 2, true), vote("Ann", 0, true)}, 1, api.ErrNone}, {2, []api.ReVote{vote("Ann", 0, true), vote("ann", 2, true)}, 1, api.ErrForm},
	} {
		if l, e := Voted(c.steps, c.votes, c.need); e != c.e || e != api.OK && l != nil {
			t.Errorf("%d: Voted = %v, %d; want %d", i, l, e, c.e)
		}
	}
}

// anyVotes returns votes on so many steps; few persons vote often.
func anyVotes(d *rand.Rand, steps int) (votes []api.ReVote) {
	persons := 1 + d.IntN(8)
	for range d.IntN(201) {
		votes = append(votes, vote("who-"+strconv.Itoa(d.IntN(persons)), d.IntN(steps), d.IntN(8) > 0))
	}
	return votes
}

// P8.6: Voted against a slow version of the definitions.
func TestVotedIsTheDefinition(t *testing.T) {
	d := dice(4)
	var accepted int
	for range 2000 {
		steps := 1 + d.IntN(20)
		votes, need := anyVotes(d, steps), 1+d.IntN(6)
		want := slowVoted(steps, votes, need)
		expectVoted(t, steps, votes, need, want...)
		accepted += len(want)
	}
	if accepted < 1000 {
		t.Errorf("accepted: %d", accepted)
	}
}
