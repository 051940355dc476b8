package octets

import (
	"math"
	"strings"
	"testing"

	"anabranch/api"
)

// Types of the test's own: Whole lets in any type whose kind is listed.
type (
	ownInt    int
	ownInt64  int64
	ownUint8  uint8
	ownUint16 uint16
	ownUint32 uint32
	ownUint64 uint64
)

// all is a number of 64 bits whose bytes all differ.
const all = 0x0123456789abcdef

func same[V comparable](t *testing.T, what string, got, want V) {
	t.Helper()
	if got != want {
		t.Errorf("%s: got %#v, want %#v", what, got, want)
	}
}

// Promise 1.1: the lowest bytes, the highest of them ahead, behind what was there.
func TestPutSizes(t *testing.T) {
	whole := "\x01\x23\x45\x67\x89\xab\xcd\xef"
	for size := 0; size <= 8; size++ {
		same(t, "nothing ahead", Put("", all, size), whole[8-size:])
		same(t, "bytes ahead", Put("\x00abc", all, size), "\x00abc"+whole[8-size:])
	}
	same(t, "the chapter's first", Put("a", 258, 2), "a\x01\x02")
	same(t, "a small number", Put("", 7, 4), "\x00\x00\x00\x07")
	same(t, "none", Put("", 0, 3), "\x00\x00\x00")
}

// Promise 1.1: a size is held from 0 to 8.
func TestPutHeldSizes(t *testing.T) {
	for _, size := range []int{-1, -8, math.MinInt} {
		same(t, "a size below 0", Put("ab", all, size), "ab")
		same(t, "a size below 0, nothing ahead", Put("", -1, size), "")
	}
	for _, size := range []int{9, 16, 64, math.MaxInt} {
		same(t, "a size above 8", Put("ab", all, size), "ab\x01\x23\x45\x67\x89\xab\xcd\xef")
		same(t, "a size above 8 of a short type", Put("", uint8(9), size), "\x00\x00\x00\x00\x00\x00\x00\x09")
	}
}

// Promise 1.1: a number below 0 is itself and 2^64.
func TestPutBelowNone(t *testing.T) {
	same(t, "the chapter's second", Put("", -1, 2), "\xff\xff")
	same(t, "-1", Put("", -1, 8), "\xff\xff\xff\xff\xff\xff\xff\xff")
	same(t, "-2", Put("", int64(-2), 8), "\xff\xff\xff\xff\xff\xff\xff\xfe")
	same(t, "-258", Put("x", -258, 3), "x\xff\xfe\xfe")
	same(t, "the least", Put("", int64(math.MinInt64), 8), "\x80\x00\x00\x00\x00\x00\x00\x00")
	same(t, "the least's lowest bytes", Put("", math.MinInt, 7), "\x00\x00\x00\x00\x00\x00\x00")
}

// Promise 1.1: each of the types is put, as a number of 64 bits.
func TestPutTypes(t *testing.T) {
	same(t, "int", Put("", int(-3), 8), "\xff\xff\xff\xff\xff\xff\xff\xfd")
	same(t, "int64", Put("", int64(-3), 8), "\xff\xff\xff\xff\xff\xff\xff\xfd")
	same(t, "uint8", Put("", uint8(0xfd), 8), "\x00\x00\x00\x00\x00\x00\x00\xfd")
	same(t, "uint16", Put("", uint16(0xfdfc), 8), "\x00\x00\x00\x00\x00\x00\xfd\xfc")
	same(t, "uint32", Put("", uint32(0xfdfcfbfa), 8), "\x00\x00\x00\x00\xfd\xfc\xfb\xfa")
	same(t, "uint64", Put("", uint64(math.MaxUint64), 8), "\xff\xff\xff\xff\xff\xff\xff\xff")
	same(t, "own int", Put("", ownInt(-3), 2), "\xff\xfd")
	same(t, "own int64", Put("", ownInt64(-3), 2), "\xff\xfd")
	same(t, "own uint8", Put("", ownUint8(200), 2), "\x00\xc8")
	same(t, "own uint16", Put("", ownUint16(0xfdfc), 3), "\x00\xfd\xfc")
	same(t, "own uint32", Put("", ownUint32(0xfdfcfbfa), 5), "\x00\xfd\xfc\xfb\xfa")
	same(t, "own uint64", Put("", ownUint64(1<<63), 8), "\x80\x00\x00\x00\x00\x00\x00\x00")
}

// Promise 1.1: the number of the last 8 bytes, of fewer, and of none.
func TestOfTexts(t *testing.T) {
	whole := "\x01\x23\x45\x67\x89\xab\xcd\xef"
	same(t, "no text", Of[int](""), 0)
	same(t, "no text, of 8 bits", Of[uint8](""), 0)
	same(t, "one byte", Of[int]("\xff"), 255)
	same(t, "two bytes", Of[int]("\x01\x02"), 258)
	same(t, "7 bytes", Of[int](whole[1:]), 0x23456789abcdef)
	same(t, "8 bytes", Of[int](whole), all)
	same(t, "9 bytes", Of[int]("\xff"+whole), all)
	same(t, "9 bytes, of 64 bits", Of[uint64]("\x01\x80\x00\x00\x00\x00\x00\x00\x02"), 1<<63+2)
	same(t, "many bytes", Of[int64](strings.Repeat("\xee", 1000)+whole), all)
	same(t, "bytes that are no runes", Of[int]("\xc3\xa9"), 0xc3a9)
}

// Promise 1.1: as far as the type has bits, the lowest ones.
func TestOfTypes(t *testing.T) {
	s := "\xf1\xf2\xf3\xf4\xf5\xf6\xf7\xf8"
	same(t, "int", Of[int](s), -0x0e0d0c0b0a090808)
	same(t, "int64", Of[int64](s), -0x0e0d0c0b0a090808)
	same(t, "uint8", Of[uint8](s), 0xf8)
	same(t, "uint16", Of[uint16](s), 0xf7f8)
	same(t, "uint32", Of[uint32](s), 0xf5f6f7f8)
	same(t, "uint64", Of[uint64](s), 0xf1f2f3f4f5f6f7f8)
	same(t, "own int", Of[ownInt](s), -0x0e0d0c0b0a090808)
	same(t, "own int64", Of[ownInt64](s), -0x0e0d0c0b0a090808)
	same(t, "own uint8", Of[ownUint8](s), 0xf8)
	same(t, "own uint16", Of[ownUint16](s), 0xf7f8)
	same(t, "own uint32", Of[ownUint32](s), 0xf5f6f7f8)
	same(t, "own uint64", Of[ownUint64](s), 0xf1f2f3f4f5f6f7f8)
	same(t, "-1", Of[int](strings.Repeat("\xff", 8)), -1)
}

// Promise 1.2: from ahead of the first byte on, each byte is read once.
func TestCutReads(t *testing.T) {
	c := New("a\x01\x02bcdef")
	same(t, "left of all", c.Left(), 8)
	same(t, "nothing read", c.Done(), api.ErrMore)
	same(t, "no bytes", c.Bytes(0), "")
	same(t, "one byte", c.Bytes(1), "a")
	same(t, "a number", c.Num(2), 258)
	same(t, "left", c.Left(), 5)
	same(t, "bytes are left", c.Done(), api.ErrMore)
	same(t, "bytes", c.Bytes(3), "bcd")
	same(t, "rest", c.Rest(), "ef")
	same(t, "left of none", c.Left(), 0)
	same(t, "all read", c.Done(), api.OK)
	same(t, "rest of none", c.Rest(), "")
	same(t, "no bytes of none", c.Bytes(0), "")
	same(t, "still all read", c.Done(), api.OK)
}

// Promise 1.2: Rest tells all bytes, and they are read.
func TestCutRestOfAll(t *testing.T) {
	c := New("\xff\x00z")
	same(t, "rest", c.Rest(), "\xff\x00z")
	same(t, "left", c.Left(), 0)
	same(t, "done", c.Done(), api.OK)
	same(t, "once only", c.Rest(), "")
}

// Promise 1.2: numbers of 1 to 7 bytes, none of them below 0.
func TestCutNumSizes(t *testing.T) {
	whole := uint64(0xf1f2f3f4f5f6f7f8)
	for size := 1; size <= 7; size++ {
		c := New("\xf1\xf2\xf3\xf4\xf5\xf6\xf7\xf8")
		same(t, "number", c.Num(size), int(whole>>(64-8*size)))
		same(t, "left", c.Left(), 8-size)
		same(t, "done", c.Done(), api.ErrMore)
	}
	c := New("\xff\xff\xff\xff\xff\xff\xff")
	same(t, "the greatest", c.Num(7), 1<<56-1)
	same(t, "done", c.Done(), api.OK)
}

// Promise 1.2: of no text nothing is left, and a cut that is zero is one of no text.
func TestCutOfNoText(t *testing.T) {
	for _, c := range []*Cut{New(""), {}} {
		same(t, "left", c.Left(), 0)
		same(t, "done", c.Done(), api.OK)
		same(t, "bytes", c.Bytes(0), "")
		same(t, "rest", c.Rest(), "")
		same(t, "still done", c.Done(), api.OK)
		same(t, "number", c.Num(1), 0)
		same(t, "short", c.Done(), api.ErrShort)
	}
}

// Promise 1.2: an n below 0, or a size that is not 1 to 7, is ErrRange, however many bytes there are.
func TestCutFailsByRange(t *testing.T) {
	for _, s := range []string{"", "a", "abcdefgh", strings.Repeat("x", 100)} {
		for _, size := range []int{math.MinInt, -1, 0, 8, 9, 64, math.MaxInt} {
			c := New(s)
			same(t, "number", c.Num(size), 0)
			same(t, "number's error", c.Done(), api.ErrRange)
			same(t, "number's left", c.Left(), len(s))
		}
		for _, n := range []int{math.MinInt, -8, -1} {
			c := New(s)
			same(t, "bytes", c.Bytes(n), "")
			same(t, "bytes' error", c.Done(), api.ErrRange)
			same(t, "bytes' left", c.Left(), len(s))
		}
	}
}

// Promise 1.2: fewer bytes than are asked for is ErrShort, and none of them is read.
func TestCutFailsByShort(t *testing.T) {
	c := New("abcdef")
	same(t, "number", c.Num(7), 0)
	same(t, "number's error", c.Done(), api.ErrShort)
	same(t, "number's left", c.Left(), 6)
	for _, n := range []int{7, 8, 1000, math.MaxInt} {
		c = New("abcdef")
		same(t, "bytes", c.Bytes(n), "")
		same(t, "bytes' error", c.Done(), api.ErrShort)
		same(t, "bytes' left", c.Left(), 6)
	}
	c = New("abcdef")
	same(t, "first", c.Bytes(4), "abcd")
	same(t, "one more than is left", c.Bytes(3), "")
	same(t, "its error", c.Done(), api.ErrShort)
	same(t, "its left", c.Left(), 2)
	c = New("abcdef")
	same(t, "as many as there are", c.Bytes(6), "abcdef")
	same(t, "no error", c.Done(), api.OK)
}

// Promise 1.2: one that has failed reads nothing more, and its first failure stays.
func TestCutFailedReadsNothing(t *testing.T) {
	fails := []struct {
		why  api.Errno
		read func(c *Cut)
	}{
		{api.ErrRange, func(c *Cut) { c.Bytes(-1) }},
		{api.ErrRange, func(c *Cut) { c.Num(0) }},
		{api.ErrRange, func(c *Cut) { c.Num(8) }},
		{api.ErrShort, func(c *Cut) { c.Bytes(4) }},
		{api.ErrShort, func(c *Cut) { c.Num(4) }},
	}
	for _, first := range fails {
		c := New("xabc")
		c.Bytes(1)
		first.read(c)
		for _, second := range fails {
			second.read(c)
			same(t, "bytes", c.Bytes(1), "")
			same(t, "no bytes", c.Bytes(0), "")
			same(t, "number", c.Num(1), 0)
			same(t, "rest", c.Rest(), "")
			same(t, "left", c.Left(), 3)
			same(t, "error", c.Done(), first.why)
		}
	}
}

// Promise 1.2: a failure behind the last byte is told, though nothing is left.
func TestCutFailsBehindAll(t *testing.T) {
	c := New("ab")
	c.Rest()
	same(t, "bytes", c.Bytes(1), "")
	same(t, "short", c.Done(), api.ErrShort)
	c = New("ab")
	c.Rest()
	same(t, "number", c.Num(8), 0)
	same(t, "range", c.Done(), api.ErrRange)
}

// Promise 1.2: of nil nothing, 0, ErrState.
func TestCutNil(t *testing.T) {
	var c *Cut
	for _, n := range []int{math.MinInt, -1, 0, 1, 7, 8, math.MaxInt} {
		same(t, "number", c.Num(n), 0)
		same(t, "bytes", c.Bytes(n), "")
		same(t, "rest", c.Rest(), "")
		same(t, "left", c.Left(), 0)
		same(t, "done", c.Done(), api.ErrState)
	}
}

// Promise 1.2: two cuts of one text are read each for itself.
func TestCutsApart(t *testing.T) {
	s := "abc"
	c, d := New(s), New(s)
	same(t, "one", c.Bytes(2), "ab")
	same(t, "other", d.Num(9), 0)
	same(t, "one's rest", c.Rest(), "c")
	same(t, "one's error", c.Done(), api.OK)
	same(t, "other's left", d.Left(), 3)
	same(t, "the text", s, "abc")
}

// lowest is what is left of a number modulo 256 to the power of a size.
func lowest(n uint64, size int) uint64 {
	if size >= 8 {
		return n
	}
	return n % (1 << (8 * size))
}

// readBack holds what Of and a cut read against what was put.
func readBack[T Whole](t *testing.T, n T) {
	t.Helper()
	for size := 0; size <= 8; size++ {
		want := lowest(uint64(n), size)
		same(t, "by Of", Of[T](Put("", n, size)), T(want))
		same(t, "by Of, all bits", Of[uint64](Put("", n, size)), want)
		if size < 1 || size > 7 {
			continue
		}
		c := New(Put("ahead", n, size))
		same(t, "ahead", c.Bytes(5), "ahead")
		same(t, "by a cut", c.Num(size), int(want))
		same(t, "done", c.Done(), api.OK)
	}
}

// Promise 1.3: what was put is read as it was, modulo 256 to the power of its size.
func TestReadAsPut(t *testing.T) {
	for bit := 0; bit < 64; bit++ {
		for _, n := range []uint64{1 << bit, 1<<bit - 1, 1<<bit + 1, ^uint64(1 << bit), all << bit, all >> bit} {
			readBack(t, n)
			readBack(t, int(n))
			readBack(t, int64(n))
			readBack(t, uint8(n))
			readBack(t, uint16(n))
			readBack(t, uint32(n))
			readBack(t, ownInt(n))
			readBack(t, ownUint16(n))
		}
	}
}

// Promise 1.3: numbers one behind the other are read one behind the other.
func TestReadAsPutInTurn(t *testing.T) {
	s := ""
	for size := 1; size <= 7; size++ {
		s = Put(s, -size, size)
		s = Put(s, uint32(size), size)
	}
	c := New(s)
	for size := 1; size <= 7; size++ {
		same(t, "below 0", c.Num(size), 1<<(8*size)-size)
		same(t, "above 0", c.Num(size), size)
	}
	same(t, "left", c.Left(), 0)
	same(t, "done", c.Done(), api.OK)
}
