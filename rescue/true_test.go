package rescue

import (
	"slices"
	"strconv"
	"testing"

	"telecine/api"
)

// leftBy returns what the plan of Plan leaves.
func leftBy(t *testing.T, w api.RsTask) int {
	t.Helper()
	turns, _, e := Plan(w)
	left, f := Judge(w, turns)
	if e != api.OK || f != api.OK {
		t.Fatalf("Plan of %+v = %v, %d; Judge: %d", w, turns, e, f)
	}
	return left
}

// subsets calls do with all lists of some of the numbers before count, ascending.
func subsets(count int, do func(list []int)) {
	for bits := range 1 << count {
		var list []int
		for i := range count {
			if bits>>i&1 == 1 {
				list = append(list, i)
			}
		}
		do(list)
	}
}

// risks returns the sum of the Risk of some reels.
func risks(w api.RsTask, reels []int) int {
	sum := 0
	for _, i := range reels {
		sum += w.Reels[i].Risk
	}
	return sum
}

// P4.8 and DOC's P2 and P11: Judge returns no error for the turns of Plan, and no other plan leaves less.
func TestLeastRisk(t *testing.T) {
	d := dice(8)
	for range 1500 {
		w := crowded(d, 8)
		all, most := 0, 0
		subsets(len(w.Reels), func(list []int) {
			all = max(all, risks(w, list))
			if sum := risks(w, list); sum > most && slowFit(w, list, tablesOf(w)) {
				most = sum
			}
		})
		if left := leftBy(t, w); left != all-most {
			t.Fatalf("the plan of %+v leaves %d; %d are possible", w, left, all-most)
		}
	}
}

// plans calls do with all plans of a workshop for which Judge returns no error.
func plans(w api.RsTask, do func(turns []api.RsTurn, left int)) {
	var turns []api.RsTurn
	var choose func(i int)
	choose = func(i int) {
		left, e := Judge(w, turns)
		if e != api.OK {
			return
		}
		if i == len(w.Reels) {
			do(turns, left)
			return
		}
		choose(i + 1)
		for _, m := range w.Reels[i].Machines {
			for day := w.Reels[i].Ready; day <= w.Reels[i].Due; day++ {
				turns = append(turns, turn(i, m, day))
				choose(i + 1)
				turns = turns[:len(turns)-1]
			}
		}
	}
	choose(0)
}

// proofOf returns a proof of a plan that holds, as far as there is one for each late reel.
func proofOf(w api.RsTask, turns []api.RsTurn) []api.RsLate {
	var proof []api.RsLate
	for i := range w.Reels {
		if slices.ContainsFunc(turns, func(x api.RsTurn) bool { return x.Reel == i }) {
			continue
		}
		x := late(i)
		subsets(len(w.Reels), func(list []int) {
			if slowProves(w, turns, late(i, list...)) {
				x = late(i, list...)
			}
		})
		proof = append(proof, x)
	}
	return proof
}

// P4.9 and DOC's P11: Accept returns OK for what Plan returns; if it does so for any plan and proof, no other plan leaves less.
func TestProof(t *testing.T) {
	d := dice(9)
	others, refused := 0, 0
	for range 3000 {
		w := crowded(d, 5)
		own, all, _ := Plan(w)
		if at, e := Accept(w, own, all); at != 0 || e != api.OK {
			t.Fatalf("Accept of %+v, %v, %v = %d, %d", w, own, all, at, e)
		}
		least := leftBy(t, w)
		plans(w, func(turns []api.RsTurn, left int) {
			_, e := Accept(w, turns, proofOf(w, turns))
			switch {
			case e == api.OK && left != least:
				t.Fatalf("%v is accepted for %+v, and leaves %d; %v leaves %d", turns, w, left, own, least)
			case e == api.OK && !slices.Equal(turns, own):
				others++
			case e != api.OK:
				refused++
			}
		})
	}
	if others < 1000 || refused < 1000 {
		t.Errorf("only %d others are accepted, and %d refused", others, refused)
	}
}

// P4.8, P4.9: also in a workshop of any size the plan has no error, and its proof holds.
func TestProofOfMany(t *testing.T) {
	d := dice(18)
	lates := 0
	for range 300 {
		w := api.RsTask{First: d.IntN(100), Days: from(d, 1, api.MaxRsDays)}
		for i := range from(d, 1, api.MaxRsMachines) {
			w.Machines = append(w.Machines, machine("machine-"+strconv.Itoa(i), make([]int, w.Days)...))
		}
		for range from(d, 1, 2*api.MaxRsReels) {
			places := &w.Machines[d.IntN(len(w.Machines))].Places[d.IntN(w.Days)]
			*places = min(*places+1, api.MaxRsPlaces)
		}
		for i := range api.MaxRsReels {
			w.Reels = append(w.Reels, anyReel(d, w, "reel-"+strconv.Itoa(i)))
		}
		turns, all, _ := Plan(w)
		if left, e := slowJudge(w, turns); left != leftBy(t, w) || e != api.OK {
			t.Fatalf("Plan of %+v = %v, which leaves %d, %d", w, turns, left, e)
		}
		if at, e := slowAccept(w, turns, all); at != 0 || e != api.OK {
			t.Fatalf("Plan of %+v = %v, %v: error %d at %d", w, turns, all, e, at)
		}
		if at, e := Accept(w, turns, all); at != 0 || e != api.OK {
			t.Fatalf("Accept of %+v, %v, %v = %d, %d", w, turns, all, at, e)
		}
		lates += len(all)
	}
	if lates < 1000 || lates > 5000 {
		t.Errorf("%d are late", lates)
	}
}

// P4.10: the places that a late reel and those of By can use are just as many as By, none of which has less Risk.
func TestPlacesOfLate(t *testing.T) {
	d := dice(10)
	count := 0
	for range 2000 {
		w := crowded(d, 20)
		_, all, e := Plan(w)
		for _, x := range all {
			if places := slowCount(w, append(slices.Clone(x.By), x.Reel)); places != len(x.By) || e != api.OK {
				t.Fatalf("%+v: %d is late by %v, which can use %d places; %d", w, x.Reel, x.By, places, e)
			}
			for _, i := range x.By {
				if w.Reels[i].Risk < w.Reels[x.Reel].Risk {
					t.Fatalf("%+v: %d is late by %d", w, x.Reel, i)
				}
				count++
			}
		}
	}
	if count < 1000 {
		t.Errorf("only %d", count)
	}
}

// P4.11: some reels do not fit if, and only if, some of them together can use fewer places than they are.
func TestHall(t *testing.T) {
	d := dice(11)
	for range 1000 {
		w := crowded(d, 9)
		reels := some(d, len(w.Reels))
		want := true
		subsets(len(reels), func(list []int) {
			var part []int
			for _, i := range list {
				part = append(part, reels[i])
			}
			want = want && slowCount(w, part) >= len(part)
		})
		if is, e := Fits(w, reels); is != want || e != api.OK {
			t.Fatalf("Fits of %+v, %v = %t, %d", w, reels, is, e)
		}
	}
}

// P4.12: with more places, an earlier Ready or a later Due no plan leaves more.
func TestMorePlaces(t *testing.T) {
	d := dice(12)
	less := [3]int{}
	for range 3000 {
		w := crowded(d, 12)
		for i := range less {
			more := copied(w)
			if i == 0 {
				more.Machines[d.IntN(len(w.Machines))].Places[d.IntN(w.Days)]++
			} else if len(w.Reels) > 0 {
				r := &more.Reels[d.IntN(len(w.Reels))]
				if i == 1 {
					r.Ready = from(d, w.First, r.Ready)
				} else {
					r.Due = from(d, r.Due, w.First+w.Days-1)
				}
			}
			before, after := leftBy(t, w), leftBy(t, more)
			if after > before {
				t.Fatalf("the plan of %+v leaves %d; with more, %+v: %d", w, before, more, after)
			}
			if after < before {
				less[i]++
			}
		}
	}
	if slices.Min(less[:]) < 50 {
		t.Errorf("so few leave less: %v", less)
	}
}

// behind returns the index that a reel has if another one is taken out.
func behind(i, out int) int {
	if i > out {
		return i - 1
	}
	return i
}

// P4.12: without one of the late reels all turns are the same, and all other late reels are late by the same ones.
func TestWithoutALateReel(t *testing.T) {
	d := dice(13)
	count := 0
	for range 1500 {
		w := crowded(d, 12)
		turns, all, _ := Plan(w)
		for _, out := range all {
			fewer := copied(w)
			fewer.Reels = slices.Delete(fewer.Reels, out.Reel, out.Reel+1)
			var wantTurns []api.RsTurn
			var wantLate []api.RsLate
			for _, x := range turns {
				wantTurns = append(wantTurns, turn(behind(x.Reel, out.Reel), x.Machine, x.Day))
			}
			for _, x := range all {
				if x.Reel == out.Reel {
					continue
				}
				y := late(behind(x.Reel, out.Reel))
				for _, i := range x.By {
					y.By = append(y.By, behind(i, out.Reel))
				}
				wantLate = append(wantLate, y)
			}
			if a, b, e := Plan(fewer); !slices.Equal(a, wantTurns) || !sameLate(b, wantLate) || e != api.OK {
				t.Fatalf("Plan of %+v = %v, %v; without %d: %v, %v, %d", w, turns, all, out.Reel, a, b, e)
			}
			count++
		}
	}
	if count < 1000 {
		t.Errorf("only %d", count)
	}
}

// P4.13: with a further reel Plan leaves at most its Risk more, and not less; Room says whether it leaves the same, if that Risk is the least.
func TestFurtherReel(t *testing.T) {
	d := dice(14)
	var between, fits, not int
	for range 5000 {
		w := crowded(d, 10)
		x := anyReel(d, w, "new")
		least := d.IntN(2) == 0
		if least {
			for _, r := range w.Reels {
				x.Risk = min(x.Risk, r.Risk)
			}
		}
		more := copied(w)
		more.Reels = append(more.Reels, x)
		before, after := leftBy(t, w), leftBy(t, more)
		if after < before || after > before+x.Risk {
			t.Fatalf("the plan of %+v leaves %d; with %+v: %d", w, before, x, after)
		}
		if before < after && after < before+x.Risk {
			between++
		}
		room, e := Room(w, x)
		if least && room != (after == before) || e != api.OK {
			t.Fatalf("Room of %+v, %+v = %t, %d; plans leave %d and %d", w, x, room, e, before, after)
		}
		if room {
			fits++
		} else {
			not++
		}
	}
	if between < 100 || fits < 500 || not < 500 {
		t.Errorf("between, fits, not: %d, %d, %d", between, fits, not)
	}
}
