package scan

import (
	"bytes"
	"slices"
	"testing"

	"telecine/api"
)

// signed returns bytes with their check behind them.
func signed(b ...byte) []byte {
	sum := slowSum(b)
	return append(slices.Clip(b), byte(sum>>8), byte(sum))
}

// expectFile checks what Write returns for frames without an error, without its check, and that Read returns them.
func expectFile(t *testing.T, l []api.SnFrame, b ...byte) {
	t.Helper()
	want := signed(b...)
	if got, e := Write(l); !bytes.Equal(got, want) || e != api.OK {
		t.Errorf("Write = %v, %d; want %v", got, e, want)
	}
	if got, e := Read(want); !slices.EqualFunc(got, l, alikeFrames) || e != api.OK {
		t.Errorf("Read = %v, %d; want %v", got, e, l)
	}
}

// P7.6: the check of known bytes.
func TestSum(t *testing.T) {
	for _, c := range []struct {
		b    []byte
		want int
	}{
		{nil, 65535}, {[]byte{}, 65535}, {[]byte("123456789"), 10673}, {[]byte{255}, 65280}, {[]byte{255, 255}, 0}, {[]byte{255, 255, 0, 0, 0}, 0}, {[]byte{255, 255, 1}, 4129}, {[]byte{255, 255, 0, 1}, 4129}, {[]byte{255, 255, 128}, 37256}, {[]byte{0}, 57840}, {[]byte("A"), 47381},
	} {
		if n := Sum(c.b); n != c.want {
			t.Errorf("Sum of %v = %d; want %d", c.b, n, c.want)
		}
	}
}

// P7.6: rows are cut where three equal pixels begin, and only there.
func TestWriteRows(t *testing.T) {
	for _, c := range []struct{ row, want []byte }{
		{[]byte{5}, []byte{1, 5}},
		{[]byte{5, 5}, []byte{2, 5, 5}},
		{[]byte{5, 5, 5}, []byte{131, 5}},
		{[]byte{5, 5, 5, 5}, []byte{132, 5}},
		{[]byte{5, 5, 6}, []byte{3, 5, 5, 6}},
		{[]byte{5, 6, 6, 6}, []byte{1, 5, 131, 6}},
		{[]byte{5, 5, 6, 6, 6}, []byte{2, 5, 5, 131, 6}},
		{[]byte{6, 6, 6, 5}, []byte{131, 6, 1, 5}},
		{[]byte{6, 6, 6, 5, 5}, []byte{131, 6, 2, 5, 5}},
		{[]byte{6, 6, 6, 5, 5, 5, 5}, []byte{131, 6, 132, 5}},
		{[]byte{6, 6, 6, 5, 5, 6, 6, 6}, []byte{131, 6, 2, 5, 5, 131, 6}},
		{[]byte{1, 2, 2, 2, 3, 3, 4, 4, 4}, []byte{1, 1, 131, 2, 2, 3, 3, 131, 4}},
		{[]byte{1, 1, 2, 2, 3, 3, 1, 1}, []byte{8, 1, 1, 2, 2, 3, 3, 1, 1}},
		{[]byte{131, 131, 131, 0, 255}, []byte{131, 131, 2, 0, 255}},
		{bytes.Repeat([]byte{0}, 48), []byte{176, 0}},
		{bytes.Repeat([]byte{7, 8}, 24), append([]byte{48}, bytes.Repeat([]byte{7, 8}, 24)...)},
		{append(bytes.Repeat([]byte{7}, 47), 8), []byte{175, 7, 1, 8}},
		{append([]byte{8}, bytes.Repeat([]byte{7}, 47)...), []byte{1, 8, 175, 7}},
	} {
		wide := len(c.row)
		expectFile(t, frames(frame(wide, c.row...)), slices.Concat([]byte{83, 78, byte(wide), 1, 1}, c.want)...)
		// Parts end with their row, and rows follow each other, also from frame to frame.
		two := frame(wide, slices.Concat(c.row, c.row)...)
		expectFile(t, frames(two, two), slices.Concat([]byte{83, 78, byte(wide), 2, 2}, c.want, c.want, c.want, c.want)...)
	}
}

// P7.6: as many frames as there can be, as large as they can be.
func TestWriteMany(t *testing.T) {
	worst := frame(48, bytes.Repeat([]byte{1, 2}, 24*48)...)
	b, e := Write(slices.Repeat(frames(worst), 24))
	if len(b) != 24*48*49+7 || e != api.OK {
		t.Errorf("Write: %d bytes, %d", len(b), e)
	}
	if l, e := Read(b); len(l) != 24 || !alikeFrames(l[0], worst) || !alikeFrames(l[23], worst) || e != api.OK {
		t.Errorf("Read: %d frames, %d", len(l), e)
	}
	small := slices.Repeat(frames(frame(1, 5)), 24)
	expectFile(t, small, append([]byte{83, 78, 1, 1, 24}, bytes.Repeat([]byte{1, 5}, 24)...)...)
}

// P7.7: how long a file can be, and how it begins, before its check.
func TestReadBegin(t *testing.T) {
	file := signed(83, 78, 1, 1, 1, 1, 5)
	for i, c := range []struct {
		b []byte
		e api.Errno
	}{
		{file, api.OK}, {nil, api.ErrForm}, {[]byte{}, api.ErrForm}, {file[:6], api.ErrForm}, {file[:7], api.SnErrSum}, {file[:8], api.SnErrSum}, {[]byte{83, 78, 1, 1, 1, 1}, api.ErrForm},
		{signed(83, 78, 1, 1), api.ErrForm}, {signed(83, 78, 1, 1, 1), api.ErrForm}, {signed(83, 78), api.ErrForm}, {signed(), api.ErrForm},
		{make([]byte, 80001), api.ErrLong}, {append(slices.Clone(file), make([]byte, 80001)...), api.ErrLong}, {make([]byte, 80000), api.ErrForm}, {append(slices.Clone(file), bytes.Repeat([]byte{1}, 80000-len(file))...), api.SnErrSum},
		{signed(append([]byte{83, 78, 1, 1, 1, 1, 5}, make([]byte, 80000-9)...)...), api.ErrForm}, {signed(append([]byte{83, 78, 1, 1, 1, 1, 5}, make([]byte, 80000-8)...)...), api.ErrLong},
		{signed(83, 77, 1, 1, 1, 1, 5), api.ErrForm}, {signed(82, 78, 1, 1, 1, 1, 5), api.ErrForm}, {signed(78, 83, 1, 1, 1, 1, 5), api.ErrForm}, {[]byte{83, 77, 1, 1, 1, 1, 5, 0, 0}, api.ErrForm},
		// The check comes before all the rest. Zeros behind a right one make a right one again.
		{[]byte{83, 78, 0, 0, 0, 0, 0, 0, 0}, api.SnErrSum}, {append(slices.Clone(file), 1), api.SnErrSum}, {append(slices.Clone(file), 0), api.ErrForm}, {file[1:], api.ErrForm},
		{[]byte{83, 78, 1, 1, 1, 1, 5, file[8], file[7]}, api.SnErrSum},
	} {
		if l, e := Read(c.b); e != c.e || e != api.OK && l != nil {
			t.Errorf("%d: Read = %v, %d; want %d", i, l, e, c.e)
		}
	}
}

// P7.7: bytes with the right check that are no file of frames.
func TestReadForm(t *testing.T) {
	many := append([]byte{1, 1, 25}, bytes.Repeat([]byte{1, 5}, 25)...)
	for i, b := range [][]byte{
		// Numbers that are not as stated.
		{0, 1, 1, 1, 5}, {1, 0, 1, 1, 5}, {1, 1, 0}, {1, 1, 0, 1, 5}, {1, 1, 0, 0}, {49, 1, 1, 177, 5}, {1, 49, 1, 1, 5}, append([]byte{1, 49, 1}, bytes.Repeat([]byte{1, 5}, 49)...), {255, 255, 255, 1, 5}, {0, 0, 0}, many,
		// Bytes that are missing, or too many.
		{1}, {1, 1}, {1, 1, 1}, {1, 1, 1, 1}, {2, 1, 1, 2, 5}, {3, 1, 1, 131}, {1, 2, 1, 1, 5}, {1, 1, 2, 1, 5}, {1, 1, 1, 1, 5, 1, 5}, {1, 1, 1, 1, 5, 0}, {1, 1, 1, 1, 5, 128, 5}, {1, 1, 1, 1, 5, 1},
		// Parts that are too short, or too long for their row.
		{1, 1, 1, 0, 1, 5}, {1, 1, 1, 128, 5, 1, 5}, {1, 1, 1, 128, 5}, {1, 1, 1, 2, 5, 6}, {2, 2, 1, 4, 5, 6, 7, 8}, {3, 2, 1, 134, 5}, {3, 1, 1, 132, 5}, {1, 1, 1, 255, 5}, {48, 1, 1, 177, 5}, {1, 1, 1, 127, 5}, {2, 1, 1, 1, 5, 2, 5, 6}, {4, 1, 1, 1, 5, 132, 5},
		// Rows that are written in another way.
		{1, 1, 1, 129, 5}, {2, 1, 1, 130, 5}, {2, 1, 1, 1, 5, 1, 6}, {3, 1, 1, 3, 5, 5, 5}, {4, 1, 1, 1, 5, 131, 5}, {4, 1, 1, 131, 5, 1, 5}, {4, 1, 1, 4, 4, 5, 5, 5}, {6, 1, 1, 131, 5, 131, 5}, {5, 1, 1, 2, 5, 5, 131, 5}, {4, 1, 1, 1, 4, 1, 5, 2, 6, 7}, {3, 1, 1, 0, 131, 5}, {3, 1, 1, 131, 5, 0}, {3, 1, 1, 131, 5, 128, 9}, {5, 1, 1, 129, 5, 4, 6, 7, 8, 9},
		// Also in a later row, and in a later frame.
		{3, 2, 1, 131, 5, 3, 5, 5, 5}, {3, 1, 2, 131, 5, 3, 5, 5, 5}, {2, 1, 2, 2, 5, 6, 1, 5, 1, 6},
	} {
		if l, e := Read(signed(append([]byte{83, 78}, b...)...)); l != nil || e != api.ErrForm {
			t.Errorf("%d: Read of %v = %v, %d", i, b, l, e)
		}
	}
}
