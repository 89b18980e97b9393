package rescue

import (
	"math/rand/v2"
	"slices"
	"testing"

	"telecine/api"
)

// P4.4: plans of the example, each error, and which one comes first.
func TestJudge(t *testing.T) {
	for i, c := range []struct {
		turns []api.RsTurn
		left  int
		e     api.Errno
	}{
		{nil, 240, api.OK},
		{exampleTurns(), 40, api.OK},
		{exampleTurns()[1:2], 170, api.OK},
		{[]api.RsTurn{turn(3, 1, 12)}, 200, api.OK},
		{[]api.RsTurn{turn(4, 0, 10), turn(5, 1, 12)}, 200, api.OK},
		{[]api.RsTurn{turn(6, 0, 10)}, 0, api.ErrArg},
		{[]api.RsTurn{turn(-1, 0, 10)}, 0, api.ErrArg},
		{[]api.RsTurn{turn(0, 2, 10)}, 0, api.ErrArg},
		{[]api.RsTurn{turn(0, -1, 10)}, 0, api.ErrArg},
		{[]api.RsTurn{turn(1, 0, 10), turn(0, 0, 11)}, 0, api.ErrArg},
		{[]api.RsTurn{turn(1, 0, 10), turn(1, 0, 10)}, 0, api.ErrArg},
		{[]api.RsTurn{turn(3, 0, 11)}, 0, api.RsErrPlace},
		{[]api.RsTurn{turn(3, 1, 10)}, 0, api.RsErrPlace},
		{[]api.RsTurn{turn(3, 1, 13)}, 0, api.RsErrPlace},
		{[]api.RsTurn{turn(5, 1, 9)}, 0, api.RsErrPlace},
		{[]api.RsTurn{turn(2, 0, 12)}, 0, api.RsErrPlace},
		{[]api.RsTurn{turn(4, 0, 12)}, 0, api.RsErrFull},
		{[]api.RsTurn{turn(0, 0, 10), turn(1, 0, 10)}, 0, api.RsErrFull},
		{[]api.RsTurn{turn(0, 0, 11), turn(1, 0, 10), turn(4, 0, 11)}, 0, api.RsErrFull},
		// All turns are looked at for one error before the next one.
		{[]api.RsTurn{turn(3, 0, 11), turn(4, 2, 10)}, 0, api.ErrArg},
		{[]api.RsTurn{turn(3, 0, 11), turn(2, 1, 11)}, 0, api.ErrArg},
		{[]api.RsTurn{turn(0, 0, 10), turn(1, 0, 10), turn(6, 0, 10)}, 0, api.ErrArg},
		{[]api.RsTurn{turn(0, 0, 10), turn(1, 0, 10), turn(3, 0, 11)}, 0, api.RsErrPlace},
	} {
		if left, e := Judge(example(), c.turns); left != c.left || e != c.e {
			t.Errorf("%d: Judge = %d, %d; want %d, %d", i, left, e, c.left, c.e)
		}
		if c.e == api.OK {
			continue
		}
		// What is wrong with the plan comes before what is wrong with the proof.
		for _, l := range [][]api.RsLate{nil, exampleLate(), {late(9, 9), late(-1)}} {
			if at, e := Accept(example(), c.turns, l); at != 0 || e != c.e {
				t.Errorf("%d: Accept with %v = %d, %d; want 0, %d", i, l, at, e, c.e)
			}
		}
	}
}

// P4.4: as many reels as there are places on a day, and one more.
func TestJudgePlaces(t *testing.T) {
	w := example()
	w.Machines[0].Places[0] = 2
	if left, e := Judge(w, []api.RsTurn{turn(0, 0, 10), turn(1, 0, 10)}); left != 120 || e != api.OK {
		t.Errorf("Judge = %d, %d", left, e)
	}
	if left, e := Judge(w, []api.RsTurn{turn(0, 0, 10), turn(1, 0, 10), turn(4, 0, 10)}); left != 0 || e != api.RsErrFull {
		t.Errorf("Judge = %d, %d", left, e)
	}
	w.Machines[0].Places[0] = 0
	if left, e := Judge(w, []api.RsTurn{turn(1, 0, 10)}); left != 0 || e != api.RsErrFull {
		t.Errorf("Judge = %d, %d", left, e)
	}
}

// P4.5: proofs of the example's plan and of others, each error, and at which element.
func TestAccept(t *testing.T) {
	last := late(5, 0, 1, 2, 3)
	lamp := []api.RsTurn{turn(1, 0, 10), turn(2, 1, 11), turn(3, 1, 12), turn(4, 0, 11)} // lamp has the place of dawn
	for i, c := range []struct {
		turns []api.RsTurn
		late  []api.RsLate
		at    int
		e     api.Errno
	}{
		{exampleTurns(), exampleLate(), 0, api.OK},
		{exampleTurns(), []api.RsLate{late(4, 0, 1, 2, 3), last}, 0, api.OK},
		{exampleTurns(), nil, 0, api.RsErrLate},
		{exampleTurns(), exampleLate()[:1], 1, api.RsErrLate},
		{exampleTurns(), exampleLate()[1:], 1, api.RsErrLate},
		{exampleTurns(), []api.RsLate{last, late(4, 0, 1)}, 1, api.RsErrLate},
		{exampleTurns(), []api.RsLate{late(4, 0, 1), late(4, 0, 1)}, 1, api.RsErrLate},
		{exampleTurns(), []api.RsLate{late(4, 0, 1), last, last}, 2, api.RsErrLate},
		{exampleTurns(), []api.RsLate{late(4, 0, 1), last, late(6)}, 2, api.RsErrLate},
		{exampleTurns(), []api.RsLate{late(3, 0, 1)}, 0, api.RsErrLate},
		{exampleTurns(), []api.RsLate{late(6, 0, 1)}, 0, api.RsErrLate},
		{exampleTurns(), []api.RsLate{late(-1)}, 0, api.RsErrLate},
		{exampleTurns(), []api.RsLate{late(4, 0, 1), late(5, 2, 3)}, 1, api.RsErrBy},
		{exampleTurns(), []api.RsLate{late(4), last}, 0, api.RsErrBy},
		{exampleTurns(), []api.RsLate{late(4, 0), last}, 0, api.RsErrBy},
		{exampleTurns(), []api.RsLate{late(4, 1, 0), last}, 0, api.RsErrBy},
		{exampleTurns(), []api.RsLate{late(4, 0, 0, 1), last}, 0, api.RsErrBy},
		{exampleTurns(), []api.RsLate{late(4, 0, 1, 6), last}, 0, api.RsErrBy},
		{exampleTurns(), []api.RsLate{late(4, -1, 0, 1), last}, 0, api.RsErrBy},
		{exampleTurns(), []api.RsLate{late(4, 0, 1, 4), last}, 0, api.RsErrBy},
		{exampleTurns(), []api.RsLate{late(4, 0, 1, 5), last}, 0, api.RsErrBy},
		// The first element with an error decides, and of its errors the one named first.
		{exampleTurns(), []api.RsLate{late(4, 0), late(3)}, 0, api.RsErrBy},
		{exampleTurns(), []api.RsLate{late(4, 0, 1), late(4, 0)}, 1, api.RsErrLate},
		{exampleTurns(), []api.RsLate{late(5, 0), late(4, 0, 1)}, 0, api.RsErrBy},
		// Dawn has more Risk than lamp, which cannot prove that it is late; gale has less than all.
		{lamp, []api.RsLate{late(0, 1, 4), late(5, 1, 2, 3, 4)}, 0, api.RsErrBy},
		{exampleTurns()[:3], []api.RsLate{late(3, 0, 1, 2), late(4, 0, 1), late(5, 0, 1, 2)}, 0, api.RsErrBy},
		{nil, []api.RsLate{late(0)}, 0, api.RsErrBy},
	} {
		if at, e := Accept(example(), c.turns, c.late); at != c.at || e != c.e {
			t.Errorf("%d: Accept = %d, %d; want %d, %d", i, at, e, c.at, c.e)
		}
	}
}

// P4.5: reels of as much Risk are a proof, those of less are none; and no reels are one, if there are no places.
func TestAcceptRisk(t *testing.T) {
	one := api.RsTask{Days: 1, Machines: []api.RsMachine{machine("lab", 1)}, Reels: []api.RsReel{reel("a", 0, 0, 5, 0), reel("b", 0, 0, 5, 0)}}
	for _, c := range []struct{ risk, places, has int }{{5, 1, 0}, {5, 1, 1}, {6, 1, 1}, {4, 1, 0}} {
		one.Reels[1].Risk, one.Machines[0].Places[0] = c.risk, c.places
		if at, e := Accept(one, []api.RsTurn{turn(c.has, 0, 0)}, []api.RsLate{late(1-c.has, c.has)}); at != 0 || e != api.OK {
			t.Errorf("%v: Accept = %d, %d", c, at, e)
		}
	}
	one.Reels[1].Risk = 6
	if at, e := Accept(one, []api.RsTurn{turn(0, 0, 0)}, []api.RsLate{late(1, 0)}); at != 0 || e != api.RsErrBy {
		t.Errorf("Accept = %d, %d", at, e)
	}
	one.Machines[0].Places[0] = 0
	if at, e := Accept(one, nil, []api.RsLate{late(0), late(1)}); at != 0 || e != api.OK {
		t.Errorf("Accept = %d, %d", at, e)
	}
	if at, e := Accept(one, nil, []api.RsLate{late(0), late(1, 0)}); at != 1 || e != api.RsErrBy {
		t.Errorf("Accept = %d, %d", at, e)
	}
}

// slowJudge returns the error of a plan, and what it leaves, as they are defined.
func slowJudge(w api.RsTask, turns []api.RsTurn) (left int, e api.Errno) {
	above := -1
	for _, x := range turns {
		if x.Reel < 0 || x.Reel >= len(w.Reels) || x.Machine < 0 || x.Machine >= len(w.Machines) || x.Reel <= above {
			return 0, api.ErrArg
		}
		above = x.Reel
	}
	for _, x := range turns {
		r := w.Reels[x.Reel]
		if !slices.Contains(r.Machines, x.Machine) || x.Day < r.Ready || x.Day > r.Due {
			return 0, api.RsErrPlace
		}
	}
	places := tablesOf(w)
	for _, r := range w.Reels {
		left += r.Risk
	}
	for _, x := range turns {
		places[x.Machine][x.Day-w.First]--
		left -= w.Reels[x.Reel].Risk
	}
	for _, days := range places {
		if slices.Min(days) < 0 {
			return 0, api.RsErrFull
		}
	}
	return left, api.OK
}

// slowProves reports whether an element of a proof is as stated, for a plan with some turns.
func slowProves(w api.RsTask, turns []api.RsTurn, x api.RsLate) bool {
	above := -1
	for _, i := range x.By {
		has := slices.ContainsFunc(turns, func(y api.RsTurn) bool { return y.Reel == i })
		if i <= above || !has || w.Reels[i].Risk < w.Reels[x.Reel].Risk {
			return false
		}
		above = i
	}
	return slowCount(w, append(slices.Clone(x.By), x.Reel)) <= len(x.By)
}

// slowAccept returns what is wrong with a proof of a plan, as it is defined.
func slowAccept(w api.RsTask, turns []api.RsTurn, all []api.RsLate) (at int, e api.Errno) {
	if _, e := slowJudge(w, turns); e != api.OK {
		return 0, e
	}
	var without []int
	for i := range w.Reels {
		if !slices.ContainsFunc(turns, func(x api.RsTurn) bool { return x.Reel == i }) {
			without = append(without, i)
		}
	}
	above := -1
	for i, x := range all {
		if !slices.Contains(without, x.Reel) || x.Reel <= above {
			return i, api.RsErrLate
		}
		if !slowProves(w, turns, x) {
			return i, api.RsErrBy
		}
		above = x.Reel
	}
	if len(all) < len(without) {
		return len(all), api.RsErrLate
	}
	return 0, api.OK
}

// anyTurns returns some turns, most of them such that they can be in a plan.
func anyTurns(d *rand.Rand, w api.RsTask) []api.RsTurn {
	var turns []api.RsTurn
	for i, r := range w.Reels {
		if d.IntN(3) > 0 {
			turns = append(turns, turn(i, r.Machines[d.IntN(len(r.Machines))], from(d, r.Ready, r.Due)))
		}
	}
	if len(turns) > 0 && d.IntN(4) == 0 {
		x := &turns[d.IntN(len(turns))]
		*x = turn(x.Reel+d.IntN(2)-d.IntN(2), x.Machine+d.IntN(2)-d.IntN(2), x.Day+d.IntN(2)-d.IntN(2))
	}
	return turns
}

// P4.4: errors, and what plans leave, are just those of the definitions.
func TestJudgeIsDefined(t *testing.T) {
	d := dice(4)
	found := map[api.Errno]int{}
	for range 10000 {
		w := crowded(d, 6)
		turns := anyTurns(d, w)
		want, f := slowJudge(w, turns)
		if left, e := Judge(w, turns); left != want || e != f {
			t.Fatalf("Judge of %+v, %v = %d, %d; want %d, %d", w, turns, left, e, want, f)
		}
		found[f]++
	}
	for _, e := range []api.Errno{api.OK, api.ErrArg, api.RsErrPlace, api.RsErrFull} {
		if found[e] < 200 {
			t.Errorf("error %d: only %d", e, found[e])
		}
	}
}

// anyProof returns the proof of a plan of Plan, often with some changes.
func anyProof(d *rand.Rand, w api.RsTask, all []api.RsLate) []api.RsLate {
	var proof []api.RsLate
	for _, x := range all {
		x.By = slices.Clone(x.By)
		if len(x.By) > 0 && d.IntN(8) == 0 {
			x.By[d.IntN(len(x.By))] += d.IntN(2) - d.IntN(2)
		}
		if d.IntN(8) == 0 {
			x.By = some(d, len(w.Reels))
		}
		if d.IntN(16) == 0 {
			x.Reel += d.IntN(3) - 1
		}
		if d.IntN(16) > 0 {
			proof = append(proof, x)
		}
	}
	return proof
}

// P4.5: what is wrong with proofs, and where, is just that of the definitions.
func TestAcceptIsDefined(t *testing.T) {
	d := dice(5)
	found := map[api.Errno]int{}
	for range 10000 {
		w := crowded(d, 7)
		turns, all, _ := Plan(w)
		if d.IntN(4) == 0 {
			turns = anyTurns(d, w)
		}
		proof := anyProof(d, w, all)
		want, f := slowAccept(w, turns, proof)
		if at, e := Accept(w, turns, proof); at != want || e != f {
			t.Fatalf("Accept of %+v, %v, %v = %d, %d; want %d, %d", w, turns, proof, at, e, want, f)
		}
		found[f]++
	}
	for _, e := range []api.Errno{api.OK, api.RsErrPlace, api.RsErrFull, api.RsErrLate, api.RsErrBy} {
		if found[e] < 100 {
			t.Errorf("error %d: only %d", e, found[e])
		}
	}
}
