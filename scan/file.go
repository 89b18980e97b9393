package scan

import (
	"bytes"
	"iter"
	"slices"

	"telecine/api"
)

// Numbers of files.
const (
	begin  = "SN"  // the first bytes of a file
	fewest = 7     // bytes, with which there are the numbers of a file and its check
	run    = 3     // equal pixels that are written as one
	equal  = 128   // before the number of equal pixels
	above  = 65536 // what each check is below
	twist  = 4129  // what a check is combined with
)

// Sum returns the check of bytes.
func Sum(b []byte) int {
	sum := above - 1
	for _, x := range b {
		sum ^= int(x) * 256
		for range 8 {
			sum *= 2
			if sum >= above {
				sum = (sum - above) ^ twist
			}
		}
	}
	return sum
}

// seal returns the check of bytes as it is written behind them.
func seal(b []byte) []byte {
	sum := Sum(b)
	return []byte{byte(sum / 256), byte(sum % 256)}
}

// alike returns how many pixels are equal from the first one on.
func alike(row []byte) int {
	count := 0
	for count < len(row) && row[count] == row[0] {
		count++
	}
	return count
}

// partOf returns how many pixels the first part of a row has.
func partOf(row []byte) int {
	if count := alike(row); count >= run {
		return count
	}
	count := 1
	for count < len(row) && alike(row[count:]) < run {
		count++
	}
	return count
}

// parts yields the parts of a row, from the left.
func parts(row []byte) iter.Seq[[]byte] {
	return func(yield func([]byte) bool) {
		for rest := row; len(rest) > 0; {
			count := partOf(rest)
			if !yield(rest[:count]) {
				return
			}
			rest = rest[count:]
		}
	}
}

// written returns the bytes of a row.
func written(row []byte) (b []byte) {
	for part := range parts(row) {
		if alike(part) >= run {
			b = append(b, byte(equal+len(part)), part[0])
		} else {
			b = append(b, byte(len(part)))
			b = append(b, part...)
		}
	}
	return b
}

// Write returns the file of frames.
func Write(l []api.SnFrame) ([]byte, api.Errno) {
	if e := listError(l); e != api.OK {
		return nil, e
	}
	b := append([]byte(begin), byte(l[0].Wide), byte(l[0].High), byte(len(l)))
	for _, f := range l {
		for row := range slices.Chunk(f.Pixels, f.Wide) {
			b = append(b, written(row)...)
		}
	}
	return append(b, seal(b)...), api.OK
}

// reader reads bytes one after the other; its methods panic if these are not those of a file.
type reader struct{ rest []byte }

// take reads so many bytes.
func (r *reader) take(count int) []byte {
	if count > len(r.rest) {
		panic(api.ErrForm)
	}
	taken := r.rest[:count]
	r.rest = r.rest[count:]
	return taken
}

// number reads a byte that is a number from 1 to most.
func (r *reader) number(most int) int {
	n := int(r.take(1)[0])
	if !within(n, 1, most) {
		panic(api.ErrForm)
	}
	return n
}

// part reads a part of a row.
func (r *reader) part() []byte {
	n := int(r.take(1)[0])
	if n > equal {
		return bytes.Repeat(r.take(1), n-equal)
	}
	return r.take(n)
}

// row reads a row that is so wide.
func (r *reader) row(wide int) (row []byte) {
	from := r.rest
	for len(row) < wide {
		row = append(row, r.part()...)
	}
	// A row can be cut into other parts, but there is one way only to write it.
	read := from[:len(from)-len(r.rest)]
	if len(row) != wide || !bytes.Equal(read, written(row)) {
		panic(api.ErrForm)
	}
	return row
}

// frames reads all frames of a file, behind its first bytes.
func (r *reader) frames() (l []api.SnFrame) {
	wide, high := r.number(api.MaxSnSide), r.number(api.MaxSnSide)
	for range r.number(api.MaxSnFrames) {
		f := api.SnFrame{Wide: wide, High: high}
		for range high {
			f.Pixels = append(f.Pixels, r.row(wide)...)
		}
		l = append(l, f)
	}
	if len(r.rest) > 0 {
		panic(api.ErrForm)
	}
	return l
}

// parse returns the frames that bytes behind the first ones of a file, and ahead of its check, tell of.
func parse(b []byte) (l []api.SnFrame, e api.Errno) {
	defer func() {
		if recover() != nil {
			l, e = nil, api.ErrForm
		}
	}()
	r := reader{rest: b}
	return r.frames(), api.OK
}

// Read returns the frames of a file.
func Read(b []byte) ([]api.SnFrame, api.Errno) {
	switch {
	case len(b) > api.MaxSnBytes:
		return nil, api.ErrLong
	case len(b) < fewest || !bytes.HasPrefix(b, []byte(begin)):
		return nil, api.ErrForm
	}
	end := len(b) - 2
	if !bytes.Equal(b[end:], seal(b[:end])) {
		return nil, api.SnErrSum
	}
	return parse(b[len(begin):end])
}
