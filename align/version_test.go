package align

import (
	"math/rand/v2"
	"slices"
	"testing"

	"telecine/api"
)

// expectLost holds Lost against what is wanted.
func expectLost(t *testing.T, l []api.AlElement, script []int, want ...api.AlGap) {
	t.Helper()
	if gaps, e := Lost(l, script); !slices.Equal(gaps, want) || e != api.OK {
		t.Errorf("Lost of %v by %v = %v, %d; want %v", l, script, gaps, e, want)
	}
}

// expectVersion holds Version against what is wanted.
func expectVersion(t *testing.T, l []api.AlElement, script []int, frames int, want ...api.AlPick) {
	t.Helper()
	if picks, n, e := Version(l, script); !slices.Equal(picks, want) || n != frames || e != api.OK {
		t.Errorf("Version of %v by %v = %v, %d, %d; want %v, %d", l, script, picks, n, e, want, frames)
	}
}

// P6.7: lost marks at the ends of a script, one behind another one, and all of them; in a script of any order, also of elements that contradict each other.
func TestLost(t *testing.T) {
	l := example()
	for _, c := range []struct {
		l      []api.AlElement
		script []int
		gaps   []api.AlGap
	}{
		{l, nil, nil}, {l, []int{1, 2, 3, 4, 5}, nil}, {l, []int{5, 1, 4}, nil},
		{nil, []int{6}, []api.AlGap{gap(6, 0, 0)}}, {l[3:], []int{1, 2}, []api.AlGap{gap(1, 0, 0), gap(2, 0, 0)}}, {l, []int{9, 8, 7}, []api.AlGap{gap(9, 0, 0), gap(8, 0, 0), gap(7, 0, 0)}},
		{l, []int{9, 1}, []api.AlGap{gap(9, 0, 1)}}, {l, []int{1, 9}, []api.AlGap{gap(9, 1, 0)}}, {l, []int{9, 8, 5, 7, 999, 1, 10}, []api.AlGap{gap(9, 0, 5), gap(8, 0, 5), gap(7, 5, 1), gap(999, 5, 1), gap(10, 1, 0)}},
		{l[1:3], []int{6, 4, 3, 1}, []api.AlGap{gap(6, 0, 4)}}, {l[2:3], []int{1, 2, 3, 5, 4}, []api.AlGap{gap(1, 0, 2), gap(3, 2, 5)}},
		{lists([]int{1, 2}, []int{2, 1}), []int{1, 3, 2}, []api.AlGap{gap(3, 1, 2)}},
	} {
		expectLost(t, c.l, c.script, c.gaps...)
	}
}

// P6.8: the source is the shot with the most frames, then that of the lesser grade, then the first one; the length is that of the sources.
func TestVersion(t *testing.T) {
	l := example()
	a, b, c := graded(element("a", shot(1, 5)), 3), graded(element("b", shot(2, 9), shot(1, 5)), 2), graded(element("c", shot(1, 5)), 2)
	longest := graded(element("longest", shot(0, 99), shot(3, 1), shot(1, 6)), 9)
	for _, c := range []struct {
		l      []api.AlElement
		script []int
		frames int
		picks  []api.AlPick
	}{
		{l, nil, 0, nil}, {nil, []int{6}, 0, nil}, {l, []int{6}, 0, nil}, {l[3:], []int{1}, 0, nil},
		{l[:2], []int{1, 9, 2, 7, 8}, 150, []api.AlPick{pick(1, 0, 0), pick(2, 0, 1)}}, {l[1:3], []int{6, 4, 3, 1}, 236, []api.AlPick{pick(4, 1, 2), pick(3, 0, 1), pick(1, 0, 0)}},
		{[]api.AlElement{a, b, c}, []int{1}, 5, []api.AlPick{pick(1, 1, 1)}}, {[]api.AlElement{a, c, b}, []int{1}, 5, []api.AlPick{pick(1, 1, 0)}}, {[]api.AlElement{c, b, a}, []int{1}, 5, []api.AlPick{pick(1, 0, 0)}}, {[]api.AlElement{a}, []int{1, 2}, 5, []api.AlPick{pick(1, 0, 0)}},
		{[]api.AlElement{a, b, c, longest}, []int{2, 1}, 15, []api.AlPick{pick(2, 1, 0), pick(1, 3, 2)}}, {[]api.AlElement{longest, a, b, c}, []int{1, 3, 2, 9}, 16, []api.AlPick{pick(1, 0, 2), pick(3, 0, 1), pick(2, 2, 0)}},
	} {
		expectVersion(t, c.l, c.script, c.frames, c.picks...)
	}
	full, script := element("full"), []int{}
	var picks []api.AlPick
	for i := range api.MaxAlShots {
		full.Shots, script, picks = append(full.Shots, shot(999-i, api.MaxFrames)), append(script, 999-i), append(picks, pick(999-i, 0, i))
	}
	expectVersion(t, []api.AlElement{full}, script, 8000000, picks...)
}

// P6.8: of elements that contradict each other there is no version, also by a script without the marks of a round.
func TestVersionRound(t *testing.T) {
	l := append(lists([]int{1, 2}, []int{2, 1}), listed("other", 5))
	for _, script := range [][]int{nil, {1}, {1, 2}, {5}, {9}} {
		if picks, frames, e := Version(l, script); picks != nil || frames != 0 || e != api.AlErrRound {
			t.Errorf("Version by %v = %v, %d, %d", script, picks, frames, e)
		}
	}
	expectVersion(t, l[1:], []int{1, 9, 5}, 2, pick(1, 0, 1), pick(5, 1, 0))
}

// anyScript returns some marks of those that anyLists has, and others.
func anyScript(d *rand.Rand) (script []int) {
	for _, m := range d.Perm(30)[:d.IntN(20)] {
		script = append(script, m+1)
	}
	return script
}

// slowSource returns the source of a mark by the definition, and its frames; the element -1 if it is lost.
func slowSource(l []api.AlElement, mark int) (source api.AlPick, frames int) {
	source = pick(mark, -1, 0)
	for i, x := range l {
		for j, s := range x.Shots {
			if s.Mark == mark && (s.Frames > frames || s.Frames == frames && x.Grade < l[source.Element].Grade) {
				source, frames = pick(mark, i, j), s.Frames
			}
		}
	}
	return source, frames
}

// P6.7, P6.8, P6.15: a mark of a script is lost, or in the version, with its source by the definition; gaps lie between marks of the version, or at its ends.
func TestScripts(t *testing.T) {
	d := dice(16)
	var lost, kept int
	for range 4000 {
		l, script := anyLists(d, true), anyScript(d)
		var picks []api.AlPick
		var gaps []api.AlGap
		length := 0
		for _, m := range script {
			if p, frames := slowSource(l, m); p.Element >= 0 {
				picks, length = append(picks, p), length+frames
			} else {
				gaps = append(gaps, gap(m, 0, 0))
			}
		}
		for i := range gaps {
			at := slices.Index(script, gaps[i].Mark)
			for _, p := range picks {
				if slices.Index(script, p.Mark) < at {
					gaps[i].After = p.Mark
				} else if gaps[i].Before == 0 {
					gaps[i].Before = p.Mark
				}
			}
		}
		expectLost(t, l, script, gaps...)
		expectVersion(t, l, script, length, picks...)
		if t.Failed() {
			t.FailNow()
		}
		lost, kept = lost+len(gaps), kept+len(picks)
	}
	if lost < 5000 || kept < 3000 {
		t.Errorf("lost, kept: %d, %d", lost, kept)
	}
}

// P6.15: with a further element no mark becomes lost, and no source has fewer frames.
func TestFurtherElement(t *testing.T) {
	d := dice(17)
	var found, better int
	for range 4000 {
		l, script := anyLists(d, true), anyScript(d)
		if len(l) == 0 {
			continue
		}
		at := d.IntN(len(l))
		less := slices.Delete(slices.Clone(l), at, at+1)
		before, _, e := Version(less, script)
		after, _, f := Version(l, script)
		if e != api.OK || f != api.OK {
			t.Fatalf("Version of %v: %d; of %v: %d", less, e, l, f)
		}
		for _, p := range before {
			i := slices.IndexFunc(after, func(q api.AlPick) bool { return q.Mark == p.Mark })
			if i < 0 {
				t.Fatalf("%v has %v, and %v does not", less, p, l)
			}
			fewer, more := less[p.Element].Shots[p.Shot].Frames, l[after[i].Element].Shots[after[i].Shot].Frames
			if more < fewer {
				t.Fatalf("by %v %v has %d frames, by %v %d", less, p, fewer, l, more)
			}
			if more > fewer {
				better++
			}
		}
		found += len(after) - len(before)
	}
	if found < 500 || better < 300 {
		t.Errorf("found, better: %d, %d", found, better)
	}
}
