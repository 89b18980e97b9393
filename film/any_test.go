package film

import (
	"math"
	"reflect"
	"strings"
	"testing"

	"telecine/api"
)

// corners are ints at the ends of what an int can be, of the ranges, and around 0.
func corners() []int {
	return []int{math.MinInt, math.MinInt + 1, math.MinInt32, -1, 0, 1, 2, 8, 16, 35, 99, 100, 1890, 1950, 2100, api.MaxFrames, api.MaxFmMicro, math.MaxInt32, math.MaxInt - 1, math.MaxInt}
}

// every calls all functions that take a reel, and returns their errors.
func every(r api.FmReel, frame int) [5]api.Errno {
	_, _, gaps := Gaps(r)
	_, _, place := Place(r, frame)
	_, _, years := Years(r)
	_, _, shrink := Shrink(r)
	_, write := Write(r)
	return [5]api.Errno{gaps, place, years, shrink, write}
}

// P1.14 and DOC's P1: numbers far beyond the limits, in each place of a reel, are accepted, and all functions return the error of Check first.
func TestAnyReel(t *testing.T) {
	places := []func(r *api.FmReel, n int){
		func(r *api.FmReel, n int) { r.Gauge = n }, func(r *api.FmReel, n int) { r.Base = n }, func(r *api.FmReel, n int) { r.Frames = n }, func(r *api.FmReel, n int) { r.Keep = n }, func(r *api.FmReel, n int) { r.Years.Lo = n }, func(r *api.FmReel, n int) { r.Years.Hi = n },
		func(r *api.FmReel, n int) { r.Marks[1].Frame = n }, func(r *api.FmReel, n int) { r.Marks[1].Roll = n }, func(r *api.FmReel, n int) { r.Marks[1].Number = n },
		func(r *api.FmReel, n int) { r.Symbols[1].Roll = n }, func(r *api.FmReel, n int) { r.Symbols[1].Code = n },
		func(r *api.FmReel, n int) { r.Lengths[1].Frames = n }, func(r *api.FmReel, n int) { r.Lengths[1].Micro = n }, func(r *api.FmReel, n int) { r.Lengths[1].Error = n },
	}
	for i, put := range places {
		for _, n := range corners() {
			for _, frame := range corners() {
				r := nana()
				put(&r, n)
				_, _, e := Check(r)
				for j, f := range every(r, frame) {
					if e != api.OK && f != e || e == api.OK && j != 1 && f != api.OK {
						t.Errorf("place %d is %d: Check: %d; function %d: %d", i, n, e, j, f)
					}
				}
			}
		}
	}
	for _, gauge := range corners() {
		for _, a := range corners() {
			for _, b := range corners() {
				Feet(gauge, a)
				Frames(gauge, a, b)
			}
		}
	}
}

// DOC's R2: with an error all other results are zero.
func TestZeroWithErrors(t *testing.T) {
	r := nana()
	r.Lengths[1].Frames = 0
	if gaps, wrong, e := Gaps(r); gaps != nil || wrong != nil || e != api.ErrRange {
		t.Errorf("Gaps = %v, %v, %d", gaps, wrong, e)
	}
	if roll, at, e := Place(r, 50); roll != 0 || at != (api.Span{}) || e != api.ErrRange {
		t.Errorf("Place = %d, %v, %d", roll, at, e)
	}
	if rolls, printed, e := Years(r); rolls != nil || printed != nil || e != api.ErrRange {
		t.Errorf("Years = %v, %v, %d", rolls, printed, e)
	}
	if parts, wrong, e := Shrink(r); parts != (api.Span{}) || wrong != 0 || e != api.ErrRange {
		t.Errorf("Shrink = %v, %d, %d", parts, wrong, e)
	}
	if card, e := Write(r); card != "" || e != api.ErrRange {
		t.Errorf("Write = %q, %d", card, e)
	}
}

// P1.14: no argument is modified.
func TestArgumentsStay(t *testing.T) {
	d := dice(14)
	list := []api.FmReel{nana(), full()}
	for range 200 {
		list = append(list, anyReel(d))
	}
	for _, r := range list {
		before := copied(r)
		Check(r)
		every(r, d.IntN(r.Frames))
		if !reflect.DeepEqual(r, before) {
			t.Fatalf("%+v became %+v", before, r)
		}
	}
}

// P1.14: results are new memory: what is done to them changes neither an argument nor a later result.
func TestResultsAreNewMemory(t *testing.T) {
	r := nana()
	r.Marks[4].Number = 30
	gaps, wrong, _ := Gaps(r)
	wantGaps, wantWrong, _ := Gaps(r)
	clear(gaps)
	clear(wrong)
	if a, b, _ := Gaps(r); !reflect.DeepEqual(a, wantGaps) || !reflect.DeepEqual(b, wantWrong) || len(a) == 0 || len(b) == 0 {
		t.Errorf("Gaps = %v, %v", a, b)
	}
	read, _ := Read(nanaCard)
	clear(read.Marks)
	clear(read.Symbols)
	clear(read.Lengths)
	if again, e := Read(nanaCard); e != api.OK || !sameReel(again, nana()) {
		t.Errorf("Read = %+v, %d", again, e)
	}
}

// P1.14: cards of any bytes are accepted.
func TestAnyCard(t *testing.T) {
	d := dice(15)
	words := strings.Split("REEL a GAUGE 35 BASE nitrate FRAMES 7 YEARS 1900 KEEP MARK SYMBOL LENGTH END 0 \n \n \n \x00 \xff - 99999999999999999999", " ")
	for range 20000 {
		var card strings.Builder
		for range d.IntN(30) {
			card.WriteString(words[d.IntN(len(words))])
			if d.IntN(4) > 0 {
				card.WriteByte(' ')
			}
		}
		r, e := Read(card.String())
		if again, _ := Write(r); e != api.ErrForm && (e != api.OK || again != card.String()) {
			t.Fatalf("Read of %q = %+v, %d", card.String(), r, e)
		}
	}
}
