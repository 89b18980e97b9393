package restore

import (
	"math/rand/v2"
	"slices"
	"testing"

	"telecine/api"
)

// P8.9: Undo by the log is the scan; and by the log of the last steps the film before them.
func TestUndone(t *testing.T) {
	d := dice(5)
	var many int
	for range 600 {
		l := anyFilm(d, 10)
		steps := anyProgram(d, l, 20)
		film, log, _ := Run(l, steps)
		expectUndo(t, film, log, l, 0, api.OK)
		for count := range steps {
			before, _, _ := Run(l, steps[:count])
			expectUndo(t, film, log[count:], before, 0, api.OK)
			if !alikeFilms(before, film) {
				many++
			}
		}
		if t.Failed() {
			t.FailNow()
		}
	}
	if many < 2000 {
		t.Errorf("many: %d", many)
	}
}

// P8.10: what a step keeps, and the frames that it does not change, are as they were; all that differs is in its changes, and nothing else.
func TestKept(t *testing.T) {
	d := dice(6)
	var kept, changed int
	for range 2000 {
		l := anyFilm(d, 12)
		s := anyStep(d, l)
		film, changes, e := Do(l, s)
		if !slices.Equal(changes, differences(l, film)) || e != api.OK {
			t.Fatalf("Do of %v with %+v = %v, %v, %d", l, s, film, changes, e)
		}
		changed += len(changes)
		for _, c := range changes {
			if c.Frame < s.From || c.Frame > s.Until || inBoxes(s, c.Pixel%l[0].Wide, c.Pixel/l[0].Wide) {
				t.Fatalf("Do of %v with %+v changes %v", l, s, c)
			}
		}
		s.Keep = nil
		_, all, _ := Do(l, s)
		kept += len(all) - len(changes)
	}
	if kept < 1000 || changed < 10000 {
		t.Errorf("kept, changed: %d, %d", kept, changed)
	}
}

// P8.11: Redo by the log is the film behind the program, and the first steps do not depend on later ones.
func TestDoneAgain(t *testing.T) {
	d := dice(7)
	for range 600 {
		l := anyFilm(d, 10)
		steps := anyProgram(d, l, 20)
		film, log, _ := Run(l, steps)
		expectRedo(t, l, log, film, 0, api.OK)
		count := d.IntN(len(steps) + 1)
		first, firstLog, e := Run(l, steps[:count])
		if !alikeLogs(firstLog, log[:count]) || e != api.OK {
			t.Fatalf("Run of %v with %+v: %v; of the first %d: %v, %d", l, steps, log, count, firstLog, e)
		}
		expectRedo(t, first, log[count:], film, 0, api.OK)
		again, rest, _ := Run(first, steps[count:])
		if !alikeFilms(again, film) || !alikeLogs(rest, log[count:]) || t.Failed() {
			t.Fatalf("Run of %v with %+v = %v, %v; in two parts %v, %v", l, steps, film, log, again, rest)
		}
	}
}

// P8.12: pixels in which no step, or shifts alone, have part are those of the scan; steps without part make no difference to where a pixel comes from.
func TestTraced(t *testing.T) {
	d := dice(8)
	var none, shifts int
	for range 1500 {
		l := anyFilm(d, 10)
		steps := anyProgram(d, l, 8)
		for i := range steps {
			if d.IntN(2) == 0 {
				steps[i] = step(api.ReShift, 0, d.IntN(len(l)), from(d, -3, 3), from(d, -2, 2), 99, anyBoxes(d, l[0].Wide, l[0].High)...)
			}
		}
		film, _, _ := Run(l, steps)
		for range 20 {
			p := api.ReAt{Frame: d.IntN(len(l)), Pixel: d.IntN(len(l[0].Pixels))}
			at, by, e := Trace(l, steps, p.Frame, p.Pixel)
			var part []api.ReStep
			onlyShifts := true
			for _, i := range by {
				part = append(part, steps[i])
				onlyShifts = onlyShifts && steps[i].Kind == api.ReShift
			}
			if onlyShifts && at != nowhere {
				if e != api.OK || film[p.Frame].Pixels[p.Pixel] != l[at.Frame].Pixels[at.Pixel] {
					t.Fatalf("Trace of %v with %+v, of %v, = %v, %v, %d", l, steps, p, at, by, e)
				}
				if len(by) == 0 {
					none++
				} else {
					shifts++
				}
			}
			if alone, _, e := Trace(l, part, p.Frame, p.Pixel); alone != at || e != api.OK {
				t.Fatalf("Trace of %v with %+v, of %v, = %v, %v; with these alone %v, %d", l, steps, p, at, by, alone, e)
			}
		}
	}
	if none < 2000 || shifts < 1000 {
		t.Errorf("none, shifts: %d, %d", none, shifts)
	}
}

// P8.13: grain changes two films in the same way wherever it meets neither black nor white.
func TestGrainStays(t *testing.T) {
	d := dice(9)
	var same, beyond int
	for range 1000 {
		l := anyFilm(d, 10)
		m := clone(l)
		for f := range m {
			for n := range m[f].Pixels {
				m[f].Pixels[n] = byte(from(d, 0, 255))
			}
		}
		s := step(api.ReGrain, 0, len(l)-1, from(d, 0, 1000), from(d, 0, 40), 0, anyBoxes(d, l[0].Wide, l[0].High)...)
		a, _, e := Do(l, s)
		b, _, f := Do(m, s)
		if e != api.OK || f != api.OK {
			t.Fatalf("Do: %d, %d", e, f)
		}
		for i := range l {
			for n, v := range l[i].Pixels {
				w := m[i].Pixels[n]
				one, other := int(a[i].Pixels[n])-int(v), int(b[i].Pixels[n])-int(w)
				if one < -s.B || one > s.B {
					t.Fatalf("Do with %+v changes %d by %d", s, v, one)
				}
				if in := within(int(min(v, w)), s.B, 255) && within(int(max(v, w)), 0, 255-s.B); in && one != other {
					t.Fatalf("Do with %+v changes %d by %d, and %d by %d", s, v, one, w, other)
				} else if in && v != w && one != 0 {
					same++
				} else if !in && one != other {
					beyond++
				}
			}
		}
	}
	if same < 10000 || beyond < 1000 {
		t.Errorf("same, beyond: %d, %d", same, beyond)
	}
}

// P8.14: one other New of a log is named by Undo, and one other Old by Redo.
func TestNamed(t *testing.T) {
	d := dice(10)
	var found int
	for range 500 {
		l := anyFilm(d, 8)
		steps := anyProgram(d, l, 12)
		film, log, _ := Run(l, steps)
		for i, changes := range log {
			if len(changes) == 0 {
				continue
			}
			at := d.IntN(len(changes))
			own := changes[at]
			if other := own.New + byte(from(d, 1, 255)); other != own.Old {
				changes[at].New = other
				expectUndo(t, film, log, nil, i, api.ReErrOld)
				changes[at] = own
				found++
			}
			if other := own.Old + byte(from(d, 1, 255)); other != own.New {
				changes[at].Old = other
				expectRedo(t, l, log, nil, i, api.ReErrOld)
				changes[at] = own
				found++
			}
			if t.Failed() {
				t.FailNow()
			}
		}
		expectUndo(t, film, log, l, 0, api.OK)
	}
	if found < 1000 {
		t.Errorf("found: %d", found)
	}
}

// mixed returns votes in another order, in which those of the same person on the same step still follow each other as before.
func mixed(d *rand.Rand, votes []api.ReVote) []api.ReVote {
	out := slices.Clone(votes)
	for range 10 * len(out) {
		i := d.IntN(max(1, len(out)-1))
		if i+1 < len(out) && (out[i].Who != out[i+1].Who || out[i].Step != out[i+1].Step) {
			out[i], out[i+1] = out[i+1], out[i]
		}
	}
	return out
}

// P8.15: votes come in any order, and a further yes, or a lesser need, takes nothing back.
func TestVotes(t *testing.T) {
	d := dice(11)
	var more int
	for range 1000 {
		steps := 1 + d.IntN(20)
		votes, need := anyVotes(d, steps), 1+d.IntN(8)
		accepted, e := Voted(steps, votes, need)
		if e != api.OK || !slices.IsSorted(accepted) {
			t.Fatalf("Voted by %v = %v, %d", votes, accepted, e)
		}
		expectVoted(t, steps, mixed(d, votes), need, accepted...)
		if len(votes) == 200 {
			votes = votes[:199]
			accepted, _ = Voted(steps, votes, need)
		}
		further, e := Voted(steps, append(slices.Clone(votes), vote("further", d.IntN(steps), true)), need)
		lesser, f := Voted(steps, votes, from(d, 1, need))
		for _, step := range accepted {
			if e != api.OK || f != api.OK || !slices.Contains(further, step) || !slices.Contains(lesser, step) {
				t.Fatalf("Voted by %v = %v; with a further vote %v, %d; with a lesser need %v, %d", votes, accepted, further, e, lesser, f)
			}
		}
		more += len(further) + len(lesser) - 2*len(accepted)
		if t.Failed() {
			t.FailNow()
		}
	}
	if more < 500 {
		t.Errorf("more: %d", more)
	}
}

// P8.16: what is written is read back, and is written as it should be.
func TestTextsAreReadBack(t *testing.T) {
	d := dice(12)
	var long int
	for i := range 1500 {
		l := anyFilm(d, 3+i%20)
		_, log, _ := Run(l, anyProgram(d, l, 20))
		want := slowText(log)
		if len(want) <= 60000 {
			expectText(t, log, want)
		} else if text, e := Write(log); text != "" || e != api.ErrLong {
			t.Errorf("Write: %d bytes, %d; want %d", len(text), e, len(want))
		} else {
			long++
		}
		if t.Failed() {
			t.FailNow()
		}
	}
	if !within(long, 10, 1000) {
		t.Errorf("long: %d", long)
	}
}

// anyText returns the text of a log, with a few other words in it.
func anyText(d *rand.Rand) string {
	var numbers []int
	for range d.IntN(4) {
		numbers = append(numbers, d.IntN(3), d.IntN(4), d.IntN(3), d.IntN(3))
	}
	log := logOf(changes(numbers...), changes(0, d.IntN(2), 1, 2))[:d.IntN(3)]
	text := []byte(slowText(log))
	words := []string{"0", "1", "2", "3", "4", "5", "11", "12", "01", "255", "256", "2303", "2304", "123456789", "1234567890", "-1", "", " ", "\n", "LOG", "STEP", "END", "STEP 0\n", "0 0 1 2\n", "x"}
	for range d.IntN(3) {
		at := d.IntN(len(text))
		end := min(len(text), at+d.IntN(3))
		text = slices.Replace(text, at, end, []byte(words[d.IntN(len(words))])...)
	}
	return string(text)
}

// P8.8, P8.16: texts that were changed a little, against a slow version of the definitions; what is read is written in the same way.
func TestChangedTexts(t *testing.T) {
	d := dice(13)
	results := map[api.Errno]int{}
	for range 200000 {
		s := anyText(d)
		want, e := slowRead(s)
		log, f := Read(s)
		if f != e || !alikeLogs(log, want) || f != api.OK && log != nil {
			t.Fatalf("Read of %q = %v, %d; want %v, %d", s, log, f, want, e)
		}
		if e == api.OK {
			expectText(t, log, s)
		}
		results[e]++
	}
	if results[api.OK] < 5000 || results[api.ErrForm] < 5000 || results[api.ErrArg] < 5000 || t.Failed() {
		t.Errorf("results: %v", results)
	}
}

// P8.8: all texts of up to five of some characters and words, behind the beginning of a text or of none.
func TestShortTexts(t *testing.T) {
	parts := []string{"0", "1", "2", "3", " ", "\n", "STEP ", "END ", "STEP 0\n", "END 2\n", "0 0 1 2\n"}
	var right int
	var try func(s string, more int)
	try = func(s string, more int) {
		want, e := slowRead(s)
		if log, f := Read(s); f != e || !alikeLogs(log, want) {
			t.Fatalf("Read of %q = %v, %d; want %v, %d", s, log, f, want, e)
		}
		if e == api.OK {
			right++
		}
		if more == 0 {
			return
		}
		for _, part := range parts {
			try(s+part, more-1)
		}
	}
	for _, begin := range []string{"", "LOG ", "LOG 0\n", "LOG 1\n", "LOG 1\nSTEP 1\n", "LOG 1\nSTEP 2\n0 0 1 1\n"} {
		try(begin, 5)
	}
	if right < 4 {
		t.Errorf("right: %d", right)
	}
}
