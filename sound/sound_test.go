package sound

import (
	"math/rand/v2"
	"slices"

	"telecine/api"
)

// span returns the numbers from lo to hi.
func span(lo, hi int) api.Span { return api.Span{Lo: lo, Hi: hi} }

// spans returns the spans of pairs of numbers.
func spans(numbers ...int) (l []api.Span) {
	for s := range slices.Chunk(numbers, 2) {
		l = append(l, span(s[0], s[1]))
	}
	return l
}

// sized returns a frame of any sides, with so many pixels.
func sized(wide, high, pixels int) api.SnFrame {
	return api.SnFrame{Wide: wide, High: high, Pixels: make([]byte, pixels)}
}

// frame returns the frame that is so wide and has these pixels.
func frame(wide int, pixels ...byte) api.SnFrame {
	return api.SnFrame{Wide: wide, High: len(pixels) / wide, Pixels: pixels}
}

// plain returns a frame whose pixels are all the same.
func plain(wide, high int, level byte) api.SnFrame {
	return frame(wide, slices.Repeat([]byte{level}, wide*high)...)
}

// track is the track of the chapter's examples, and its mask.
func track() (f, mask api.SnFrame) {
	f = frame(4,
		0, 200, 127, 128,
		255, 255, 0, 0,
		10, 20, 30, 40)
	mask = frame(4,
		0, 1, 0, 0,
		0, 0, 0, 0,
		0, 0, 0, 255)
	return f, mask
}

// marks returns the marks of their frames, samples and errors.
func marks(numbers ...int) (l []api.SdMark) {
	for m := range slices.Chunk(numbers, 3) {
		l = append(l, api.SdMark{Frame: m[0], Sample: m[1], Error: m[2]})
	}
	return l
}

// strikes returns the marks that are struck, of pairs of a mark and the one by which it is.
func strikes(numbers ...int) (l []api.SdStrike) {
	for s := range slices.Chunk(numbers, 2) {
		l = append(l, api.SdStrike{Mark: s[0], By: s[1]})
	}
	return l
}

// proofs returns the proofs of their speeds, frames and numbers of samples.
func proofs(numbers ...int) (l []api.SdProof) {
	for p := range slices.Chunk(numbers, 4) {
		l = append(l, api.SdProof{Speed: p[0], High: p[1], Low: p[2], Off: p[3]})
	}
	return l
}

// example is the task T of the chapter's examples.
func example() api.SdTask {
	return api.SdTask{Frames: 100, Rate: span(990, 1010), Marks: marks(10, 20000, 50, 60, 70000, 100, 61, 72000, 10, 90, 100200, 0), Speeds: []int{1000000, 1005000}}
}

// with returns a task with other marks.
func with(t api.SdTask, l []api.SdMark) api.SdTask {
	t.Marks = l
	return t
}

// full is a task with as much of everything as the limits allow.
func full() api.SdTask {
	t := api.SdTask{Frames: api.MaxSdFrames, Rate: span(1, api.MaxSdRate)}
	for i := range api.MaxSdMarks {
		t.Marks = append(t.Marks, api.SdMark{Frame: i * 500, Sample: api.MaxSdSample, Error: api.MaxSdSample})
	}
	for i := range api.MaxSdSpeeds {
		t.Speeds = append(t.Speeds, api.MaxSdSpeed*(i+1)/api.MaxSdSpeeds)
	}
	return t
}

// dice is a source of numbers that are the same in each run.
func dice(seed uint64) *rand.Rand { return rand.New(rand.NewPCG(seed, 1895)) }

// from returns a number from lo to hi.
func from(d *rand.Rand, lo, hi int) int { return lo + d.IntN(hi-lo+1) }

// anyRate returns some rate from 1 to most, which is often narrow.
func anyRate(d *rand.Rand, most int) api.Span {
	lo := from(d, 1, most)
	if d.IntN(2) == 0 {
		return span(lo, min(most, lo+d.IntN(1+most/20)))
	}
	return span(lo, from(d, lo, most))
}

// anySpeeds returns some speeds, ascending, near to a rate.
func anySpeeds(d *rand.Rand, rate api.Span) []int {
	var l []int
	for range from(d, 1, 5) {
		speed := from(d, 900*rate.Lo, 1100*rate.Hi)
		l = append(l, max(1, min(speed, api.MaxSdSpeed)))
	}
	slices.Sort(l)
	return slices.Compact(l)
}

// anySync returns some sync of so many frames; it often goes for long at one end of the rate.
func anySync(d *rand.Rand, frames int, rate api.Span) []int {
	sync := []int{d.IntN(1000)}
	end := rate.Lo
	for len(sync) < frames {
		step := from(d, rate.Lo, rate.Hi)
		if d.IntN(4) > 0 {
			step = end
		}
		if d.IntN(20) == 0 {
			end = rate.Lo + rate.Hi - end
		}
		sync = append(sync, sync[len(sync)-1]+step)
	}
	return sync
}

// trueMarks returns some marks to which a sync keeps.
func trueMarks(d *rand.Rand, sync []int, many int) (l []api.SdMark) {
	for range many {
		f, wrong := d.IntN(len(sync)), d.IntN(1+d.IntN(200))
		sample := max(0, sync[f]+from(d, -wrong, wrong))
		l = append(l, api.SdMark{Frame: f, Sample: sample, Error: wrong})
	}
	return l
}

// falseMarks returns marks of which some are moved away.
func falseMarks(d *rand.Rand, l []api.SdMark) []api.SdMark {
	l = slices.Clone(l)
	for i := range l {
		if d.IntN(3) == 0 {
			l[i].Sample = max(0, l[i].Sample+from(d, -300, 300))
		}
	}
	return l
}

// anyTask returns a task of at most so many frames with true marks, and a sync that keeps to them.
func anyTask(d *rand.Rand, frames int) (t api.SdTask, sync []int) {
	t = api.SdTask{Frames: from(d, 1, frames), Rate: anyRate(d, 2000)}
	t.Speeds = anySpeeds(d, t.Rate)
	sync = anySync(d, t.Frames, t.Rate)
	t.Marks = trueMarks(d, sync, from(d, 1, 40))
	return t, sync
}

// smallTask returns a task of which all syncs can be looked at.
func smallTask(d *rand.Rand) api.SdTask {
	lo := from(d, 1, 3)
	t := api.SdTask{Frames: from(d, 1, 5), Rate: span(lo, from(d, lo, min(lo+2, 4)))}
	for range from(d, 1, 6) {
		t.Marks = append(t.Marks, api.SdMark{Frame: d.IntN(t.Frames), Sample: d.IntN(13), Error: d.IntN(5)})
	}
	for range from(d, 1, 3) {
		t.Speeds = append(t.Speeds, from(d, 1, 4500))
	}
	slices.Sort(t.Speeds)
	t.Speeds = slices.Compact(t.Speeds)
	return t
}

// anySamples returns so many samples, at most so far from 0.
func anySamples(d *rand.Rand, many, level int) []int {
	l := make([]int, many)
	for i := range l {
		l[i] = from(d, -level, level)
	}
	return l
}

// anyCuts returns some cuts of so many frames, and the frames that they leave, in order.
func anyCuts(d *rand.Rand, frames int) (cuts []api.BnCut, left []int) {
	for i := range frames {
		left = append(left, i)
	}
	for range d.IntN(5) {
		if len(left) == 0 {
			break
		}
		first := d.IntN(len(left))
		last := min(len(left)-1, first+d.IntN(8))
		cuts = append(cuts, api.BnCut{From: first, Until: last})
		left = slices.Delete(left, first, last+1)
	}
	return cuts, left
}
