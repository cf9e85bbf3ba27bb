package codec_test

import (
	"bytes"
	"hash/crc32"
	"testing"

	"dockyard/api"
	"dockyard/codec"
)

// contents are bytes to be framed and summed, of assorted lengths.
func contents() [][]byte {
	l := [][]byte{nil, {0}, {255}, []byte("abc"), []byte("123456789"), make([]byte, 40), bytes.Repeat([]byte{255}, 33)}
	many := make([]byte, 600)
	for i := range many {
		many[i] = byte(i*i>>3 + i)
	}
	return append(l, many)
}

// P1.4: the checksum, by known values and against another implementation.
func TestSum(t *testing.T) {
	for _, c := range []struct {
		text string
		want uint32
	}{
		{"", 0},
		{"123456789", 0xcbf43926},
		{"\x00\x00\x00\x00", 0x2144df1c},
		{"\xff\xff\xff\xff", 0xffffffff},
		{"a", 0xe8b7be43},
	} {
		if n := codec.Sum([]byte(c.text)); n != c.want {
			t.Errorf("Sum(%q) = %08x; want %08x", c.text, n, c.want)
		}
	}
	for x := range 256 {
		if b := []byte{byte(x)}; codec.Sum(b) != crc32.ChecksumIEEE(b) {
			t.Errorf("Sum(% x) = %08x", b, codec.Sum(b))
		}
	}
	for _, b := range contents() {
		for n := range len(b) + 1 {
			if codec.Sum(b[:n]) != crc32.ChecksumIEEE(b[:n]) {
				t.Errorf("Sum of %d bytes = %08x", n, codec.Sum(b[:n]))
			}
		}
	}
}

// frameOf puts a frame together by hand, whatever its Words say.
func frameOf(length, lengthSum uint32, b []byte, sum uint32) []byte {
	return written(func(w *codec.Writer) {
		w.Word(length)
		w.Word(lengthSum)
		w.Raw(b)
		w.Word(sum)
	})
}

func sumOfWord(n uint32) uint32 {
	return crc32.ChecksumIEEE([]byte{byte(n >> 24), byte(n >> 16), byte(n >> 8), byte(n)})
}

// P1.5: Frame.
func TestFrame(t *testing.T) {
	f, e := codec.Frame(nil)
	if want := []byte{0, 0, 0, 0, 0x21, 0x44, 0xdf, 0x1c, 0, 0, 0, 0}; e != api.OK || !bytes.Equal(f, want) {
		t.Errorf("Frame(nil) = % x, %d", f, e)
	}
	for _, b := range contents() {
		n := uint32(len(b))
		want := frameOf(n, sumOfWord(n), b, crc32.ChecksumIEEE(b))
		if f, e := codec.Frame(b); e != api.OK || !bytes.Equal(f, want) {
			t.Errorf("Frame of %d bytes = % x, %d", n, f, e)
		}
	}
}

// P1.5: the greatest frame, and what is beyond it.
func TestFrameLimit(t *testing.T) {
	b := make([]byte, api.MaxFrame+1)
	b[0], b[api.MaxFrame-1] = 1, 2
	f, e := codec.Frame(b[:api.MaxFrame])
	if e != api.OK || len(f) != api.MaxFrame+12 {
		t.Fatalf("Frame of MaxFrame bytes has %d bytes, %d", len(f), e)
	}
	if got, n, e := codec.Unframe(f); e != api.OK || n != len(f) || !bytes.Equal(got, b[:api.MaxFrame]) {
		t.Errorf("Unframe of MaxFrame bytes has %d bytes, %d, %d", len(got), n, e)
	}
	if f, e := codec.Frame(b); e != api.ErrCodecLong || len(f) != 0 {
		t.Errorf("Frame of more has %d bytes, %d", len(f), e)
	}
	whole := frameOf(uint32(len(b)), sumOfWord(uint32(len(b))), b, crc32.ChecksumIEEE(b))
	if got, n, e := codec.Unframe(whole); e != api.ErrCodecLong || n != 0 || len(got) != 0 {
		t.Errorf("Unframe of more has %d bytes, %d, %d", len(got), n, e)
	}
}

// P1.5: what Unframe refuses, and in which order.
func TestUnframeErrors(t *testing.T) {
	abc := []byte("abc")
	sum := crc32.ChecksumIEEE(abc)
	good := frameOf(3, sumOfWord(3), abc, sum)
	for _, c := range []struct {
		name string
		b    []byte
		want api.Errno
	}{
		{"no bytes", nil, api.ErrCodecShort},
		{"seven bytes", good[:7], api.ErrCodecShort},
		{"seven bytes, a wrong sum of the length", []byte{0, 0, 0, 3, 1, 1, 1}, api.ErrCodecShort},
		{"eight bytes", good[:8], api.ErrCodecShort},
		{"eight bytes, a wrong sum of the length", frameOf(3, sumOfWord(3)+1, nil, 0)[:8], api.ErrCodecSum},
		{"a wrong sum of a length that is too great", frameOf(api.MaxFrame+1, 1, nil, 0), api.ErrCodecSum},
		{"a length that is too great", frameOf(api.MaxFrame+1, sumOfWord(api.MaxFrame+1), nil, 0)[:8], api.ErrCodecLong},
		{"the greatest Word as a length", frameOf(1<<32-1, sumOfWord(1<<32-1), abc, sum), api.ErrCodecLong},
		{"the greatest length without contents", frameOf(api.MaxFrame, sumOfWord(api.MaxFrame), nil, 0), api.ErrCodecShort},
		{"a wrong sum of contents that are cut off", frameOf(4, sumOfWord(4), abc, sum), api.ErrCodecShort},
		{"one byte of the last sum missing", good[:14], api.ErrCodecShort},
		{"a wrong sum of the contents", frameOf(3, sumOfWord(3), abc, sum^1), api.ErrCodecSum},
		{"a sum of other contents", frameOf(3, sumOfWord(3), []byte("abd"), sum), api.ErrCodecSum},
		{"a sum of one byte more", frameOf(2, sumOfWord(2), abc, sum), api.ErrCodecSum},
	} {
		if got, n, e := codec.Unframe(c.b); e != c.want || n != 0 || len(got) != 0 {
			t.Errorf("%s: % x, %d, %d; want the error %d", c.name, got, n, e, c.want)
		}
	}
}

// P1.8: what was framed comes back, whatever follows the frame.
func TestUnframeFrame(t *testing.T) {
	for _, b := range contents() {
		f, _ := codec.Frame(b)
		for _, behind := range [][]byte{nil, {0}, {255, 1, 2}, f, f[:len(f)-1], make([]byte, 20)} {
			got, n, e := codec.Unframe(append(bytes.Clone(f), behind...))
			if e != api.OK || n != len(f) || !bytes.Equal(got, b) {
				t.Errorf("Unframe(Frame(% x), % x) = % x, %d, %d", b, behind, got, n, e)
			}
		}
	}
}

// P1.8: proper prefixes of frames.
func TestUnframePrefix(t *testing.T) {
	for _, b := range contents() {
		f, _ := codec.Frame(b)
		for n := range len(f) {
			if got, k, e := codec.Unframe(f[:n]); e != api.ErrCodecShort || k != 0 || len(got) != 0 {
				t.Errorf("%d bytes of a frame of %d: %d, %d", n, len(f), k, e)
			}
		}
	}
}

// P1.8: frames with one inverted bit.
func TestUnframeInverted(t *testing.T) {
	for _, b := range contents() {
		f, _ := codec.Frame(b)
		for at := range 8 * len(f) {
			x := bytes.Clone(f)
			x[at/8] ^= 1 << (at % 8)
			if got, k, e := codec.Unframe(x); e != api.ErrCodecSum || k != 0 || len(got) != 0 {
				t.Errorf("bit %d of a frame of %d bytes: %d, %d", at, len(f), k, e)
			}
		}
	}
}

// P1.5 with R5: frames share no memory with what was framed.
func TestFrameMemory(t *testing.T) {
	given := append(make([]byte, 0, 32), "abc"...)
	f, _ := codec.Frame(given)
	if !bytes.Equal(given[:32], append([]byte("abc"), make([]byte, 29)...)) {
		t.Errorf("the argument was changed: % x", given[:32])
	}
	fill(given)
	got, n, e := codec.Unframe(f)
	if string(got) != "abc" || n != 15 || e != api.OK {
		t.Fatalf("Unframe = %q, %d, %d", got, n, e)
	}
	fill(got)
	again, _, e := codec.Unframe(f)
	if string(again) != "abc" || e != api.OK {
		t.Errorf("Unframe again = %q, %d", again, e)
	}
	fill(f)
	if string(again) != "abc" {
		t.Errorf("what was unframed became %q", again)
	}
}
