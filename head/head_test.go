package head

import (
	"math"
	"strings"
	"sync"
	"testing"
	"unsafe"

	"anabranch/api"
)

// The functions have the chapter's signatures.
var (
	_ func(int) bool                             = Acks
	_ func(int) bool                             = Bears
	_ func(int, bool) int                        = Size
	_ func(api.Head) api.Errno                   = Check
	_ func(api.Head) (string, api.Errno)         = Put
	_ func(string) (api.Head, string, api.Errno) = Get
)

// The chapter's numbers, written out: no test takes them from what it tests.
const (
	last24 = 16777215        // 2^24 - 1
	last48 = 281474976710655 // 2^48 - 1
)

// noKinds are numbers that no kind has.
var noKinds = []int{-1, -2, -3, -4, -8, -16, -31, -32, -256, 10, 11, 12, 13, 14, 15, 16, 17, 18, 19, 20, 26, 32, 34, 127, 128, 130, 255, 256, 258, 65536 + 2, 1 << 32, 1<<32 + 3, math.MinInt, math.MinInt + 1, math.MinInt + 4, math.MaxInt, math.MaxInt - 1}

// kind is what the chapter says of a kind, told in a table.
type kind struct {
	acks, bears bool
	long, short int // bytes ahead of the options, 0 of what may not be
}

// kinds are all of them, from Request to SyncAck.
var kinds = []kind{
	{false, true, 20, 0},  // Request
	{true, true, 28, 0},   // Response
	{false, true, 16, 12}, // Data
	{true, false, 24, 16}, // Ack
	{true, true, 24, 16},  // DataAck
	{true, false, 24, 0},  // CloseReq
	{true, false, 24, 0},  // Close
	{true, false, 28, 0},  // Reset
	{true, false, 24, 0},  // Sync
	{true, false, 24, 0},  // SyncAck
}

// field is a number of a beginning: its name, where it stands, and the last one that fits in.
type field struct {
	name string
	at   func(h *api.Head) *int
	most func(long bool) int
}

// upTo is the same last number, long or short.
func upTo(n int) func(bool) int { return func(bool) int { return n } }

var fields = []field{
	{"Src", func(h *api.Head) *int { return &h.Src }, upTo(65535)},
	{"Dst", func(h *api.Head) *int { return &h.Dst }, upTo(65535)},
	{"Words", func(h *api.Head) *int { return &h.Words }, upTo(255)},
	{"CCVal", func(h *api.Head) *int { return &h.CCVal }, upTo(15)},
	{"Cover", func(h *api.Head) *int { return &h.Cover }, upTo(15)},
	{"Sum", func(h *api.Head) *int { return &h.Sum }, upTo(65535)},
	{"Seq", func(h *api.Head) *int { return &h.Seq }, func(long bool) int {
		if long {
			return last48
		}
		return last24
	}},
}

func same[V comparable](t *testing.T, what string, got, want V, args ...any) {
	t.Helper()
	if got != want {
		t.Errorf("%s %v: got %#v, want %#v", what, args, got, want)
	}
}

// b is numbers as bytes.
func b(numbers ...int) string {
	s := make([]byte, len(numbers))
	for i, n := range numbers {
		s[i] = byte(n)
	}
	return string(s)
}

// drawn is so many bytes, ever the same ones of one seed.
func drawn(seed uint32, many int) []byte {
	s := make([]byte, many)
	for i := range s {
		seed = seed*1664525 + 1013904223
		s[i] = byte(seed >> 24)
	}
	return s
}

// wrong tells whether Check and Put have that error, and whether Put has nothing beside one.
func wrong(t *testing.T, what string, h api.Head, want api.Errno, args ...any) {
	t.Helper()
	args = append(args, h)
	same(t, what+": Check", Check(h), want, args...)
	s, e := Put(h)
	same(t, what+": Put", e, want, args...)
	if want != api.OK {
		same(t, what+": bytes beside an error", s, "", args...)
	}
}

// put tells whether a beginning is those bytes.
func put(t *testing.T, what string, h api.Head, want string, args ...any) {
	t.Helper()
	wrong(t, what, h, api.OK, args...)
	s, _ := Put(h)
	same(t, what+": bytes", s, want, append(args, h)...)
}

// got tells whether bytes are that beginning, with that behind it.
func got(t *testing.T, what, s string, want api.Head, behind string, args ...any) {
	t.Helper()
	h, rest, e := Get(s)
	same(t, what+": error", e, api.OK, args...)
	same(t, what+": beginning", h, want, args...)
	same(t, what+": behind it", rest, behind, args...)
}

// fails tells whether Get has that error, and nothing beside it.
func fails(t *testing.T, what, s string, want api.Errno, args ...any) {
	t.Helper()
	h, rest, e := Get(s)
	same(t, what, e, want, append(args, []byte(s))...)
	same(t, what+": beginning beside an error", h, api.Head{}, args...)
	same(t, what+": behind it beside an error", rest, "", args...)
}

// plain is a beginning of a kind in which nothing is wrong, if the kind may have one.
func plain(kind int, long bool) api.Head {
	return api.Head{Src: 5001, Dst: 5002, Words: 7, CCVal: 3, Cover: 1, Sum: 0x1234, Kind: kind, Long: long, Seq: 0xabcdef}
}

// may tells whether a kind may have such a beginning.
func may(k int, long bool) bool {
	if k < 0 || k > 9 {
		return false
	}
	return long || kinds[k].short > 0
}

// each calls what is to be done for all beginnings that may be: each kind, long and short.
func each(do func(h api.Head)) {
	for k := range kinds {
		for _, long := range []bool{false, true} {
			if may(k, long) {
				do(plain(k, long))
			}
		}
	}
}

// otherSize is Size as somebody else has it.
func otherSize(k int, long bool) int {
	switch {
	case !may(k, long):
		return 0
	case long:
		return kinds[k].long
	}
	return kinds[k].short
}

// otherCheck is Check as somebody else has it: each error by itself, and then the one that is named first.
func otherCheck(h api.Head) api.Errno {
	if h.Kind < 0 || h.Kind > 9 {
		return api.ErrKind
	}
	if !may(h.Kind, h.Long) {
		return api.ErrForm
	}
	for _, f := range fields {
		if n := *f.at(&h); n < 0 || n > f.most(h.Long) {
			return api.ErrRange
		}
	}
	if h.Words*4 < otherSize(h.Kind, h.Long) {
		return api.ErrShort
	}
	return api.OK
}

// otherPut is Put as somebody else has it, of a beginning in which nothing is wrong: each byte by its place.
func otherPut(h api.Head) string {
	s := make([]byte, 12, 16)
	s[0], s[1] = byte(h.Src/256), byte(h.Src%256)
	s[2], s[3] = byte(h.Dst/256), byte(h.Dst%256)
	s[4] = byte(h.Words)
	s[5] = byte(h.CCVal<<4 | h.Cover)
	s[6], s[7] = byte(h.Sum/256), byte(h.Sum%256)
	s[8] = byte(h.Kind << 1)
	if !h.Long {
		s[9], s[10], s[11] = byte(h.Seq>>16), byte(h.Seq>>8), byte(h.Seq)
		return string(s)
	}
	s = s[:16]
	s[8]++
	for i := range 6 {
		s[15-i] = byte(h.Seq >> (8 * i))
	}
	return string(s)
}

// otherGet is Get as somebody else has it.
func otherGet(s string) (api.Head, string, api.Errno) {
	if len(s) < 12 || s[8]&1 == 1 && len(s) < 16 {
		return api.Head{}, "", api.ErrShort
	}
	at := func(i int) int { return int(s[i]) }
	h := api.Head{Src: at(0)<<8 | at(1), Dst: at(2)<<8 | at(3), Words: at(4), CCVal: at(5) >> 4, Cover: at(5) & 15, Sum: at(6)<<8 | at(7), Kind: at(8) >> 1 & 15, Long: at(8)&1 == 1}
	if at(8)&0xe0 != 0 || h.Long && at(9) != 0 {
		return api.Head{}, "", api.ErrForm
	}
	size := 12
	if h.Long {
		size = 16
	}
	for i := 9; i < size; i++ {
		h.Seq = h.Seq<<8 | at(i)
	}
	if e := otherCheck(h); e != api.OK {
		return api.Head{}, "", e
	}
	return h, s[size:], api.OK
}

// agrees tells whether Get says of bytes what somebody else's says.
func agrees(t *testing.T, what, s string) {
	t.Helper()
	h, rest, e := Get(s)
	wantH, wantRest, wantE := otherGet(s)
	if h != wantH || rest != wantRest || e != wantE {
		t.Errorf("%s % x: got %+v, %q, %d, want %+v, %q, %d", what, s, h, rest, e, wantH, wantRest, wantE)
	}
}

// Promise 9.1: the chapter's example.
func TestExample(t *testing.T) {
	same(t, "Size of a long Response", Size(api.Response, true), 28)
	same(t, "Size of a short Ack", Size(api.Ack, false), 16)
}

// Promise 9.1: what each kind bears, and how many bytes stand ahead of its options.
func TestKinds(t *testing.T) {
	names := []int{api.Request, api.Response, api.Data, api.Ack, api.DataAck, api.CloseReq, api.Close, api.Reset, api.Sync, api.SyncAck}
	for n, k := range kinds {
		same(t, "name", names[n], n)
		same(t, "Acks", Acks(n), k.acks, n)
		same(t, "Bears", Bears(n), k.bears, n)
		same(t, "Size, long", Size(n, true), k.long, n)
		same(t, "Size, short", Size(n, false), k.short, n)
	}
}

// Promise 9.1: the parts of a Size are those that the chapter names.
func TestSizeParts(t *testing.T) {
	each(func(h api.Head) {
		want, acked := 12, 4
		if h.Long {
			want, acked = 16, 8
		}
		if Acks(h.Kind) {
			want += acked
		}
		if h.Kind == api.Request || h.Kind == api.Response || h.Kind == api.Reset {
			want += 4
		}
		same(t, "Size", Size(h.Kind, h.Long), want, h.Kind, h.Long)
	})
}

// Promise 9.1: what is no kind bears nothing, and has no bytes.
func TestNoKinds(t *testing.T) {
	for _, n := range noKinds {
		same(t, "Acks", Acks(n), false, n)
		same(t, "Bears", Bears(n), false, n)
		same(t, "Size, long", Size(n, true), 0, n)
		same(t, "Size, short", Size(n, false), 0, n)
	}
}

// Promise 9.2: the beginnings of some packets, byte for byte.
func TestPut(t *testing.T) {
	put(t, "a long Response", api.Head{Src: 5001, Dst: 443, Words: 7, CCVal: 9, Cover: 2, Sum: 0xbeef, Kind: api.Response, Long: true, Seq: last48 - 1},
		b(0x13, 0x89, 1, 0xbb, 7, 0x92, 0xbe, 0xef, 3, 0, 255, 255, 255, 255, 255, 254))
	put(t, "a short Ack", api.Head{Src: 1, Dst: 256, Words: 4, CCVal: 1, Cover: 15, Sum: 513, Kind: api.Ack, Seq: 0x010203},
		b(0, 1, 1, 0, 4, 0x1f, 2, 1, 6, 1, 2, 3))
	put(t, "a short Data of zeros", api.Head{Words: 3, Kind: api.Data}, b(0, 0, 0, 0, 3, 0, 0, 0, 4, 0, 0, 0))
	put(t, "a long Request of zeros", api.Head{Words: 5, Long: true}, b(0, 0, 0, 0, 5, 0, 0, 0, 1, 0, 0, 0, 0, 0, 0, 0))
	put(t, "a long Data", api.Head{Src: 65535, Dst: 65535, Words: 255, CCVal: 15, Cover: 15, Sum: 65535, Kind: api.Data, Long: true, Seq: 0x010203040506},
		b(255, 255, 255, 255, 255, 255, 255, 255, 5, 0, 1, 2, 3, 4, 5, 6))
	put(t, "a long SyncAck", api.Head{Words: 6, CCVal: 15, Kind: api.SyncAck, Long: true, Seq: 1},
		b(0, 0, 0, 0, 6, 0xf0, 0, 0, 19, 0, 0, 0, 0, 0, 0, 1))
}

// Promise 9.2: each kind has its byte, long and short.
func TestPutKinds(t *testing.T) {
	each(func(h api.Head) {
		put(t, "kind", h, otherPut(h))
		s, _ := Put(h)
		want, size := 2*h.Kind, 12
		if h.Long {
			want, size = want+1, 16
		}
		same(t, "size", len(s), size, h)
		same(t, "ninth byte", int(s[8]), want, h)
	})
}

// Promise 9.2: each number at its edges, long and short, of each kind.
func TestRange(t *testing.T) {
	each(func(start api.Head) {
		start.Words = 20
		for _, f := range fields {
			most := f.most(start.Long)
			for _, n := range []int{7, 8, most / 2, most/2 + 1, most - 1, most} {
				h := start
				*f.at(&h) = n
				if otherCheck(h) == api.OK {
					put(t, "fits", h, otherPut(h), f.name, n)
				}
			}
			for _, n := range []int{-1, -2, -most, -most - 1, -most - 2, most + 1, most + 2, 2*most + 1, 2*most + 2, math.MinInt, math.MinInt + 1, math.MinInt + 20, math.MaxInt, math.MaxInt - 1} {
				h := start
				*f.at(&h) = n
				wrong(t, "does not fit", h, api.ErrRange, f.name, n)
			}
		}
	})
}

// Promise 9.2: 0 fits wherever it may stand, and 1 too.
func TestLeast(t *testing.T) {
	each(func(start api.Head) {
		for _, f := range fields {
			for n := range 2 {
				h := start
				*f.at(&h) = n
				if f.name == "Words" {
					wrong(t, "too few Words", h, api.ErrShort, f.name, n)
				} else {
					put(t, "least", h, otherPut(h), f.name, n)
				}
			}
		}
	})
}

// Promise 9.2: a number of 48 bits that a long one may have, and a short one may not.
func TestSeqOfBothSizes(t *testing.T) {
	for _, k := range []int{api.Data, api.Ack, api.DataAck} {
		for _, c := range []struct {
			seq         int
			long, short api.Errno
		}{
			{0, api.OK, api.OK},
			{1, api.OK, api.OK},
			{last24 - 1, api.OK, api.OK},
			{last24, api.OK, api.OK},
			{last24 + 1, api.OK, api.ErrRange},
			{1 << 32, api.OK, api.ErrRange},
			{1 << 47, api.OK, api.ErrRange},
			{last48 - 1, api.OK, api.ErrRange},
			{last48, api.OK, api.ErrRange},
			{last48 + 1, api.ErrRange, api.ErrRange},
			{1 << 56, api.ErrRange, api.ErrRange},
			{-1, api.ErrRange, api.ErrRange},
			{-last24 - 1, api.ErrRange, api.ErrRange},
			{-last48 - 1, api.ErrRange, api.ErrRange},
		} {
			h := plain(k, true)
			h.Seq = c.seq
			wrong(t, "long", h, c.long, k)
			h.Long = false
			wrong(t, "short", h, c.short, k)
		}
	}
}

// Promise 9.2: Words have to be as many as Size needs, and needn't be more.
func TestWords(t *testing.T) {
	each(func(h api.Head) {
		need := otherSize(h.Kind, h.Long) / 4
		for words := range 256 {
			h.Words = words
			if words < need {
				wrong(t, "too few Words", h, api.ErrShort)
				continue
			}
			put(t, "enough Words", h, otherPut(h))
		}
		h.Words = 256
		wrong(t, "too many Words", h, api.ErrRange)
	})
}

// Promise 9.2: a kind that has to be long is none that is short, and what is no kind is none of either.
func TestKindErrors(t *testing.T) {
	for k := range kinds {
		want := api.ErrForm
		if k == api.Data || k == api.Ack || k == api.DataAck {
			want = api.OK
		}
		wrong(t, "short", plain(k, false), want)
		wrong(t, "long", plain(k, true), api.OK)
	}
	for _, k := range noKinds {
		wrong(t, "no kind, short", plain(k, false), api.ErrKind)
		wrong(t, "no kind, long", plain(k, true), api.ErrKind)
	}
}

// Promise 9.2: of several errors of Check the one that is named first.
func TestCheckOrder(t *testing.T) {
	for _, f := range fields {
		for _, n := range []int{-1, f.most(true) + 1, math.MinInt, math.MaxInt} {
			for _, k := range []int{-1, 10, math.MinInt, math.MaxInt} {
				h := plain(k, false)
				*f.at(&h) = n
				wrong(t, "no kind, and a number out of range", h, api.ErrKind)
				h.Long = true
				wrong(t, "no kind, and a number out of range", h, api.ErrKind)
			}
			for _, k := range []int{0, 1, 5, 6, 7, 8, 9} {
				h := plain(k, false)
				h.Words = 1
				*f.at(&h) = n
				wrong(t, "not long, and a number out of range", h, api.ErrForm)
				h.Words = 0
				*f.at(&h) = n
				h.Long = true
				wrong(t, "a number out of range, and few Words", h, api.ErrRange)
			}
		}
	}
	wrong(t, "not long, and few Words", api.Head{Kind: api.Reset}, api.ErrForm)
	wrong(t, "no kind, and few Words", api.Head{Kind: 10}, api.ErrKind)
	wrong(t, "nothing said", api.Head{}, api.ErrForm)
}

// Promise 9.2: Check tells what somebody else's tells, of many beginnings.
func TestCheckAll(t *testing.T) {
	edges := func(most int) []int { return []int{-1, 0, most, most + 1} }
	for k := -1; k <= 10; k++ {
		for _, long := range []bool{false, true} {
			for _, words := range []int{-1, 0, 2, 3, 4, 5, 6, 7, 255, 256} {
				for _, seq := range []int{-1, 0, last24, last24 + 1, last48, last48 + 1} {
					for _, src := range edges(65535) {
						for _, cover := range edges(15) {
							h := api.Head{Src: src, Dst: 65535 - src, Words: words, CCVal: 15 - cover, Cover: cover, Kind: k, Long: long, Seq: seq}
							want := otherCheck(h)
							wrong(t, "all", h, want)
							if want == api.OK {
								put(t, "all", h, otherPut(h))
							}
						}
					}
				}
			}
		}
	}
}

// Promise 9.2: bytes are the beginning that they say, and what stands behind it, however much that is.
func TestGet(t *testing.T) {
	got(t, "long", b(0x13, 0x89, 1, 0xbb, 7, 0x92, 0xbe, 0xef, 3, 0, 255, 255, 255, 255, 255, 254),
		api.Head{Src: 5001, Dst: 443, Words: 7, CCVal: 9, Cover: 2, Sum: 0xbeef, Kind: api.Response, Long: true, Seq: last48 - 1}, "")
	got(t, "short", b(0, 1, 1, 0, 4, 0x1f, 2, 1, 6, 1, 2, 3),
		api.Head{Src: 1, Dst: 256, Words: 4, CCVal: 1, Cover: 15, Sum: 513, Kind: api.Ack, Seq: 0x010203}, "")
	for _, behind := range []string{"", "a", "\x00", "ab", "abc", "abcd", "\xff\xff\xff\xff", strings.Repeat("x", 684), strings.Repeat("\x00", 700), strings.Repeat("y", 1<<16+1)} {
		each(func(h api.Head) {
			got(t, "something behind", otherPut(h)+behind, h, behind, h.Kind, len(behind))
		})
	}
}

// Promise 9.2: 11 bytes are too few, 12 are enough of a short one, 15 too few of a long one, 16 enough.
func TestGetShort(t *testing.T) {
	each(func(h api.Head) {
		s := otherPut(h)
		for size := range len(s) {
			fails(t, "cut", s[:size], api.ErrShort, h.Kind, h.Long)
		}
		got(t, "whole", s, h, "")
	})
	for size := range 12 {
		fails(t, "zeros", strings.Repeat("\x00", size), api.ErrShort)
		fails(t, "ones", strings.Repeat("\xff", size), api.ErrShort)
	}
	for size := 12; size < 16; size++ {
		long := b(0, 0, 0, 0, 255, 0, 0, 0, 5, 0, 0, 0, 0, 0, 0, 0)
		fails(t, "long", long[:size], api.ErrShort)
		short := b(0, 0, 0, 0, 255, 0, 0, 0, 4, 9, 0, 0, 1, 2, 3, 4)
		got(t, "short", short[:size], api.Head{Words: 255, Kind: api.Data, Seq: 9 << 16}, short[12:size], size)
	}
}

// Promise 9.2: the ninth byte says the kind, whether it is long, and has three bits that are 0.
func TestGetNinthByte(t *testing.T) {
	for ninth := range 256 {
		for size := 11; size <= 17; size++ {
			s := b(1, 2, 3, 4, 50, 0x67, 8, 9, ninth, 0, 11, 12, 13, 14, 15, 16, 17)[:size]
			k, long := ninth>>1, ninth&1 == 1
			switch {
			case size == 11 || long && size < 16:
				fails(t, "too few bytes", s, api.ErrShort)
			case ninth >= 32:
				fails(t, "a bit that is kept back", s, api.ErrForm)
			case k > 9:
				fails(t, "no kind", s, api.ErrKind)
			case !may(k, long):
				fails(t, "short", s, api.ErrForm)
			case long:
				got(t, "long", s, api.Head{Src: 258, Dst: 772, Words: 50, CCVal: 6, Cover: 7, Sum: 2057, Kind: k, Long: true, Seq: 0x0b0c0d0e0f10}, s[16:], ninth, size)
			default:
				got(t, "short", s, api.Head{Src: 258, Dst: 772, Words: 50, CCVal: 6, Cover: 7, Sum: 2057, Kind: k, Seq: 0x0b0c}, s[12:], ninth, size)
			}
		}
	}
}

// Promise 9.2: each of the ninth byte's first three bits, alone, spoils all beginnings.
func TestGetKeptBits(t *testing.T) {
	each(func(h api.Head) {
		for _, bit := range []byte{0x20, 0x40, 0x80} {
			s := []byte(otherPut(h))
			s[8] |= bit
			fails(t, "a bit that is kept back", string(s), api.ErrForm, bit)
		}
	})
}

// Promise 9.2: the tenth byte of a long one is 0; of a short one it is the highest of its number.
func TestGetTenthByte(t *testing.T) {
	each(func(h api.Head) {
		for tenth := 1; tenth < 256; tenth++ {
			s := []byte(otherPut(h))
			s[9] = byte(tenth)
			if h.Long {
				fails(t, "tenth byte", string(s), api.ErrForm, tenth)
				continue
			}
			want := h
			want.Seq = tenth<<16 | h.Seq&0xffff
			got(t, "tenth byte", string(s), want, "", tenth)
		}
	})
}

// Promise 9.2: bytes that say too few Words are no beginning.
func TestGetWords(t *testing.T) {
	each(func(h api.Head) {
		need := otherSize(h.Kind, h.Long) / 4
		for words := range 256 {
			s := []byte(otherPut(h))
			s[4] = byte(words)
			if words < need {
				fails(t, "too few Words", string(s), api.ErrShort, words)
				continue
			}
			want := h
			want.Words = words
			got(t, "Words", string(s), want, "", words)
		}
	})
}

// Promise 9.2: of several errors of Get the one that is named first.
func TestGetOrder(t *testing.T) {
	fails(t, "few bytes, a kept bit, no kind, few Words", b(0, 0, 0, 0, 0, 0, 0, 0, 0xff, 1, 0, 0, 0, 0, 0), api.ErrShort)
	fails(t, "few bytes, a kept bit", b(0, 0, 0, 0, 0, 0, 0, 0, 0xfe, 1, 0), api.ErrShort)
	fails(t, "a kept bit, no kind, few Words", b(0, 0, 0, 0, 0, 0, 0, 0, 0x34, 0, 0, 0), api.ErrForm)
	fails(t, "a tenth byte, no kind, few Words", b(0, 0, 0, 0, 0, 0, 0, 0, 0x15, 1, 0, 0, 0, 0, 0, 0), api.ErrForm)
	fails(t, "no kind, few Words, long", b(0, 0, 0, 0, 0, 0, 0, 0, 0x15, 0, 0, 0, 0, 0, 0, 0), api.ErrKind)
	fails(t, "no kind, few Words, short", b(0, 0, 0, 0, 0, 0, 0, 0, 0x14, 1, 0, 0), api.ErrKind)
	fails(t, "not long, few Words", b(0, 0, 0, 0, 0, 0, 0, 0, 2, 1, 0, 0), api.ErrForm)
	fails(t, "few Words, long", b(0, 0, 0, 0, 6, 0, 0, 0, 3, 0, 0, 0, 0, 0, 0, 0), api.ErrShort)
	fails(t, "few Words, short", b(0, 0, 0, 0, 2, 0, 0, 0, 4, 0, 0, 0), api.ErrShort)
}

// Promise 9.3: what was put is got, at all edges of all numbers.
func TestThereAndBack(t *testing.T) {
	each(func(start api.Head) {
		for _, f := range fields {
			for _, g := range fields {
				for _, n := range []int{0, 1, 7, 8, f.most(start.Long) / 2, f.most(start.Long)} {
					for _, m := range []int{0, 1, 7, 8, g.most(start.Long) / 2, g.most(start.Long)} {
						h := start
						*f.at(&h) = n
						*g.at(&h) = m
						if Check(h) != api.OK {
							continue
						}
						s, e := Put(h)
						same(t, "error", e, api.OK, h)
						got(t, "there and back", s+"behind", h, "behind", h)
					}
				}
			}
		}
	})
}

// Promise 9.3: each bit of each number is got back alone.
func TestEachBit(t *testing.T) {
	each(func(start api.Head) {
		for _, f := range fields {
			for bit := 1; bit <= f.most(start.Long); bit *= 2 {
				h := api.Head{Kind: start.Kind, Long: start.Long, Words: 7}
				*f.at(&h) |= bit
				put(t, "one bit", h, otherPut(h), f.name, bit)
				got(t, "one bit", otherPut(h), h, "", f.name, bit)
			}
		}
	})
}

// Promises 9.2 and 9.3: bytes of all values, in any order: what is got is put as those bytes again.
func TestAnyBytes(t *testing.T) {
	for seed := range uint32(40000) {
		s := drawn(seed, int(seed%23))
		agrees(t, "drawn", string(s))
		if len(s) > 9 {
			s[8] &= 31
			agrees(t, "of a kind", string(s))
			s[4] |= 8
			s[9] = 0
			agrees(t, "often right", string(s))
		}
		h, rest, e := Get(string(s))
		if e != api.OK {
			continue
		}
		again, e := Put(h)
		same(t, "error of what was got", e, api.OK, h)
		same(t, "bytes of what was got", again+rest, string(s), h)
	}
}

// Promise 9.2: each byte at each place of a long and of a short beginning.
func TestEachByte(t *testing.T) {
	for _, h := range []api.Head{plain(api.Response, true), plain(api.DataAck, true), plain(api.DataAck, false)} {
		for at := range otherPut(h) {
			for value := range 256 {
				s := []byte(otherPut(h) + "behind")
				s[at] = byte(value)
				agrees(t, "one byte", string(s))
			}
		}
	}
}

// Rules: nothing of what is handed in is kept, and what is handed out is nobody else's.
func TestKeepsNothing(t *testing.T) {
	each(func(h api.Head) {
		memory := []byte(otherPut(h) + "behind")
		first, rest, e := Get(unsafe.String(&memory[0], len(memory)))
		same(t, "error", e, api.OK)
		for i := range memory {
			memory[i] = 'z'
		}
		same(t, "beginning", first, h)
		same(t, "behind it", rest, "behind")
	})
}

// Rules: nothing is kept from call to call, so that calls at once disturb none.
func TestAtOnce(t *testing.T) {
	var all sync.WaitGroup
	for range 8 {
		all.Go(func() {
			each(func(h api.Head) {
				for seq := range 200 {
					h.Seq = seq
					put(t, "at once", h, otherPut(h))
					got(t, "at once", otherPut(h)+"x", h, "x")
				}
			})
		})
	}
	all.Wait()
}
