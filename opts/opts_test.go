package opts

import (
	"math"
	"slices"
	"strings"
	"testing"
	"unsafe"

	"anabranch/api"
)

// The functions have the chapter's signatures.
var (
	_ func([]api.Opt) api.Errno                   = Check
	_ func([]api.Opt) (string, api.Errno)         = Put
	_ func([]api.Opt) int                         = Size
	_ func(string) ([]api.Opt, api.Errno)         = Get
	_ func(string) func(yield func(api.Opt) bool) = Each
	_ func([]api.Opt, int) (string, bool)         = Find
	_ func([]api.Opt, int) bool                   = Must
)

// noKinds are Kinds that no option has that is put.
var noKinds = []int{0, -1, -2, -31, -32, -46, -255, -256, 256, 257, 256 + 1, 256 + 36, 287, 288, 511, 512, 65536 + 36, 1<<32 + 36, -256 + 36, math.MinInt, math.MinInt + 1, math.MinInt + 36, math.MaxInt, math.MaxInt - 1}

func same[V comparable](t *testing.T, what string, got, want V, args ...any) {
	t.Helper()
	if got != want {
		t.Errorf("%s %v: got %#v, want %#v", what, args, got, want)
	}
}

// alike tells whether two lists have the same options.
func alike(t *testing.T, what string, got, want []api.Opt, args ...any) {
	t.Helper()
	if !slices.Equal(got, want) {
		t.Errorf("%s %v: got %#v, want %#v", what, args, got, want)
	}
}

// a is an option of a Kind and its own bytes, one behind the other.
func a(kind int, own ...string) api.Opt { return api.Opt{Kind: kind, Value: strings.Join(own, "")} }

// rep is so many bytes x.
func rep(many int) string { return strings.Repeat("x", many) }

// drawn is so many bytes, ever the same ones of one seed.
func drawn(seed uint32, many int) string {
	b := make([]byte, many)
	for i := range b {
		seed = seed*1664525 + 1013904223
		b[i] = byte(seed >> 24)
	}
	return string(b)
}

// singles are so many options of one byte.
func singles(many int) []api.Opt { return slices.Repeat([]api.Opt{a(2)}, many) }

// wrong tells whether Check and Put have that error, and whether Put has nothing beside one.
func wrong(t *testing.T, what string, l []api.Opt, want api.Errno, args ...any) {
	t.Helper()
	same(t, what+": Check", Check(l), want, args...)
	s, e := Put(l)
	same(t, what+": Put", e, want, args...)
	if want != api.OK {
		same(t, what+": bytes beside an error", s, "", args...)
	}
}

// put tells whether options are those bytes.
func put(t *testing.T, what string, l []api.Opt, want string, args ...any) {
	t.Helper()
	wrong(t, what, l, api.OK, args...)
	s, _ := Put(l)
	same(t, what+": bytes", s, want, args...)
}

// got tells whether bytes are those options.
func got(t *testing.T, what, s string, want []api.Opt, args ...any) {
	t.Helper()
	l, e := Get(s)
	same(t, what+": error", e, api.OK, args...)
	alike(t, what, l, want, args...)
}

// fails tells whether Get has that error, and nothing beside it.
func fails(t *testing.T, what, s string, want api.Errno, args ...any) {
	t.Helper()
	l, e := Get(s)
	same(t, what, e, want, args...)
	same(t, what+": options beside an error", len(l), 0, args...)
}

// each is all that Each tells of bytes.
func each(s string) []api.Opt {
	var l []api.Opt
	for o := range Each(s) {
		l = append(l, o)
	}
	return l
}

// otherCheck is Check as somebody else has it: each error by itself, and then the one that is named first.
func otherCheck(l []api.Opt) api.Errno {
	kinds, total := "", 0
	for _, o := range l {
		switch {
		case o.Kind < 1 || o.Kind > 255:
			return api.ErrKind
		case o.Kind < 32 && o.Value != "", len(o.Value) >= 254:
			return api.ErrLong
		case o.Kind < 32:
			total++
		default:
			total += 2 + len(o.Value)
		}
		kinds += string([]byte{byte(o.Kind)})
	}
	if strings.HasSuffix(kinds, "\x01") || strings.Contains(kinds, "\x01\x01") {
		return api.ErrForm
	}
	if total >= 401 {
		return api.ErrLong
	}
	return api.OK
}

// otherPut is Put as somebody else has it, of options in which nothing is wrong.
func otherPut(l []api.Opt) string {
	var b []byte
	for _, o := range l {
		b = append(b, byte(o.Kind))
		if o.Kind > 31 {
			b = append(append(b, byte(len(o.Value)+2)), o.Value...)
		}
	}
	return string(append(b, make([]byte, (4-len(b)%4)%4)...))
}

// otherEach is what Each tells, and what is wrong by itself behind that, as somebody else has it.
func otherEach(s string) ([]api.Opt, api.Errno) {
	var l []api.Opt
	for i := 0; i < len(s); i++ {
		kind := int(s[i])
		if kind < 32 {
			if kind > 0 {
				l = append(l, a(kind))
			}
			continue
		}
		if i+1 == len(s) {
			return l, api.ErrShort
		}
		more := int(s[i+1])
		if more == 0 || more == 1 {
			return l, api.ErrForm
		}
		if i+more > len(s) {
			return l, api.ErrShort
		}
		l = append(l, a(kind, s[i+2:i+more]))
		i += more - 1
	}
	return l, api.OK
}

// asOthers tells whether Get and Each of bytes are as somebody else has them, and whether what was got is put again.
func asOthers(t *testing.T, s string) {
	t.Helper()
	want, e := otherEach(s)
	alike(t, "Each", each(s), want, s)
	if e == api.OK {
		e = otherCheck(want)
	}
	if e != api.OK {
		fails(t, "Get", s, e, s)
		return
	}
	got(t, "Get", s, want, s)
	put(t, "Put of Get", want, otherPut(want), s)
}

// Promise 7.1: the chapter's example, ordinary options, and options in a row.
func TestPut(t *testing.T) {
	put(t, "the chapter's example", []api.Opt{a(38, "\x01\x02")}, "\x26\x04\x01\x02")
	put(t, "of both sorts", []api.Opt{a(1), a(36, "abc"), a(2)}, "\x01\x24\x05abc\x02\x00")
	put(t, "one byte", []api.Opt{a(2)}, "\x02\x00\x00\x00")
	put(t, "in order", []api.Opt{a(46, "z"), a(3), a(46, "a"), a(2), a(46)}, "\x2e\x03z\x03\x2e\x03a\x02\x2e\x02\x00\x00")
	put(t, "the same, twice", []api.Opt{a(38, "ab"), a(38, "ab")}, "\x26\x04ab\x26\x04ab")
	put(t, "own bytes 0", []api.Opt{a(38, "\x00\x00"), a(38, "\x00")}, "\x26\x04\x00\x00\x26\x03\x00\x00")
	put(t, "own bytes that are no text", []api.Opt{a(255, "\xff\xfe\x80\xc3")}, "\xff\x06\xff\xfe\x80\xc3\x00\x00")
	put(t, "own bytes like options", []api.Opt{a(32, "\x01\x01\x24\x01\x00")}, "\x20\x07\x01\x01\x24\x01\x00\x00")
}

// Promise 7.1: no option at all.
func TestNoOption(t *testing.T) {
	for _, l := range [][]api.Opt{nil, {}, singles(3)[:0]} {
		put(t, "none", l, "", l == nil)
		same(t, "Size", Size(l), 0, l == nil)
		s, ok := Find(l, 0)
		same(t, "Find", s, "", l == nil)
		same(t, "found", ok, false, l == nil)
		same(t, "Must", Must(l, 0), false, l == nil)
	}
	got(t, "none", "", nil)
	same(t, "Each", len(each("")), 0)
}

// Promise 7.1: each Kind that there is, without own bytes and with them.
func TestEachKind(t *testing.T) {
	for kind := 1; kind <= 255; kind++ {
		b := string([]byte{byte(kind)})
		switch {
		case kind == 1:
			put(t, "Kind 1", []api.Opt{a(1), a(2)}, "\x01\x02\x00\x00")
			wrong(t, "Kind 1, alone", []api.Opt{a(1)}, api.ErrForm)
			wrong(t, "Kind 1, with bytes", []api.Opt{a(1, "x"), a(2)}, api.ErrLong)
		case kind < 32:
			put(t, "of one byte", []api.Opt{a(kind)}, b+"\x00\x00\x00", kind)
			wrong(t, "of one byte, with bytes", []api.Opt{a(kind, "\x00")}, api.ErrLong, kind)
		default:
			put(t, "without own bytes", []api.Opt{a(kind)}, b+"\x02\x00\x00", kind)
			put(t, "with own bytes", []api.Opt{a(kind, "abcde")}, b+"\x07abcde\x00", kind)
			put(t, "with as many as may be", []api.Opt{a(kind, rep(253))}, b+"\xff"+rep(253)+"\x00", kind)
			wrong(t, "with one more", []api.Opt{a(kind, rep(254))}, api.ErrLong, kind)
		}
	}
}

// Promise 7.1: other Kinds are none, wherever they stand, and whatever bytes they have.
func TestNoKind(t *testing.T) {
	for _, kind := range noKinds {
		for _, own := range []string{"", "x", rep(253), rep(254), rep(1000)} {
			o := a(kind, own)
			for _, l := range [][]api.Opt{{o}, {a(2), o}, {o, a(2)}, {a(36, "abc"), o, a(2)}, {o, o}, {a(1), o}, {o, a(1)}} {
				wrong(t, "no Kind", l, api.ErrKind, kind, len(own), len(l))
			}
		}
	}
}

// Promise 7.1: how many own bytes an option may have, by its Kind.
func TestOwnBytes(t *testing.T) {
	for _, kind := range []int{2, 3, 30, 31} {
		wrong(t, "none", []api.Opt{a(kind)}, api.OK, kind)
		for _, many := range []int{1, 2, 253, 254, 255, 256, 400, 1000} {
			wrong(t, "some, of a Kind up to 31", []api.Opt{a(kind, rep(many))}, api.ErrLong, kind, many)
		}
	}
	for _, kind := range []int{32, 33, 36, 38, 46, 127, 128, 254, 255} {
		for many := range 254 {
			l := []api.Opt{a(kind, drawn(uint32(kind), many))}
			s, e := Put(l)
			same(t, "error", e, api.OK, kind, many)
			same(t, "bytes", s, otherPut(l), kind, many)
			same(t, "how many it says", int(s[1]), many+2, kind, many)
		}
		for _, many := range []int{254, 255, 256, 257, 258, 398, 399, 400, 508, 509, 510, 511, 512, 1000, 1 << 16} {
			wrong(t, "too many", []api.Opt{a(kind, rep(many))}, api.ErrLong, kind, many)
			wrong(t, "too many, behind others", []api.Opt{a(2), a(kind, "abc"), a(kind, rep(many))}, api.ErrLong, kind, many)
		}
	}
}

// Promise 7.1: one of Kind 1 isn't the last one, and has no other one of Kind 1 right behind it.
func TestMandatory(t *testing.T) {
	m, x, y := a(1), a(36, "x"), a(2)
	for i, l := range [][]api.Opt{
		{m}, {x, m}, {x, y, m}, {m, x, m}, {m, m}, {m, m, x}, {x, m, m}, {x, m, m, y}, {m, m, m}, {m, m, m, x}, {m, x, m, m, y}, {m, x, m, y, m},
		append(singles(399), m), append([]api.Opt{m, m}, singles(398)...),
	} {
		wrong(t, "Kind 1", l, api.ErrForm, i)
	}
	put(t, "ahead of one", []api.Opt{m, x}, "\x01\x24\x03x")
	put(t, "ahead of each", []api.Opt{m, x, m, y, m, x}, "\x01\x24\x03x\x01\x02\x01\x24\x03x\x00\x00")
	put(t, "between", []api.Opt{y, m, y}, "\x02\x01\x02\x00")
	put(t, "own bytes 1", []api.Opt{a(36, "\x01\x01"), a(36, "\x01")}, "\x24\x04\x01\x01\x24\x03\x01\x00")
}

// Promise 7.1: all options together have up to 400 bytes, and no more.
func TestMaxOpts(t *testing.T) {
	put(t, "400 of one byte", singles(400), strings.Repeat("\x02", 400))
	wrong(t, "401 of one byte", singles(401), api.ErrLong)
	wrong(t, "402 of one byte", singles(402), api.ErrLong)
	wrong(t, "very many", singles(1<<16), api.ErrLong)
	put(t, "399, filled up", singles(399), strings.Repeat("\x02", 399)+"\x00")
	put(t, "397, filled up", singles(397), strings.Repeat("\x02", 397)+"\x00\x00\x00")
	for own := range 254 {
		other := min(396-own, 253)
		l := append([]api.Opt{a(46, rep(own)), a(255, rep(other))}, singles(396-own-other)...)
		same(t, "Size", Size(l), 400, own)
		put(t, "400 in all", l, otherPut(l), own)
		wrong(t, "one more byte", append(slices.Clone(l), a(2)), api.ErrLong, own)
		wrong(t, "one more byte, ahead", append([]api.Opt{a(2)}, l...), api.ErrLong, own)
		wrong(t, "one more option", append(slices.Clone(l), a(32)), api.ErrLong, own)
	}
	wrong(t, "twice as many as may be", []api.Opt{a(46, rep(253)), a(46, rep(253))}, api.ErrLong)
	wrong(t, "200 without own bytes", slices.Repeat([]api.Opt{a(32)}, 200), api.OK)
	wrong(t, "201 without own bytes", slices.Repeat([]api.Opt{a(32)}, 201), api.ErrLong)
}

// Promise 7.1: of several errors option by option the first one's, then those of all, in the chapter's order.
func TestWhichError(t *testing.T) {
	kind, long, bytes, last := a(256), a(46, rep(254)), a(2, "x"), a(1)
	cases := []struct {
		what string
		l    []api.Opt
		want api.Errno
	}{
		{"both of one option", []api.Opt{a(0, "x")}, api.ErrKind},
		{"both of one option of a great Kind", []api.Opt{a(300, rep(300))}, api.ErrKind},
		{"Kind ahead", []api.Opt{kind, long}, api.ErrKind},
		{"too long ahead", []api.Opt{long, kind}, api.ErrLong},
		{"bytes of a short one ahead", []api.Opt{a(2), bytes, kind}, api.ErrLong},
		{"Kind ahead, others between", []api.Opt{a(2), kind, a(36, "abc"), bytes}, api.ErrKind},
		{"Kind 1 last, Kind ahead", []api.Opt{kind, last}, api.ErrKind},
		{"two of Kind 1, Kind behind", []api.Opt{last, last, kind}, api.ErrKind},
		{"two of Kind 1, a long one behind", []api.Opt{last, last, long}, api.ErrLong},
		{"two of Kind 1, one with bytes", []api.Opt{last, a(1, "x"), a(2)}, api.ErrLong},
		{"Kind 1 with bytes, last", []api.Opt{a(1, "x")}, api.ErrLong},
		{"Kind 1 last of too many", append(singles(400), last), api.ErrForm},
		{"two of Kind 1 ahead of too many", append([]api.Opt{last, last}, singles(400)...), api.ErrForm},
		{"a Kind behind too many", append(singles(401), kind), api.ErrKind},
		{"a Kind and Kind 1 behind too many", append(singles(401), kind, last), api.ErrKind},
		{"a long one ahead of a Kind, behind too many", append(singles(401), bytes, kind), api.ErrLong},
		{"Kind 1 ahead of one, of too many", append(singles(400), last, a(2)), api.ErrLong},
	}
	for _, c := range cases {
		wrong(t, c.what, c.l, c.want)
	}
}

// Promise 7.1: as many bytes as each option would have, whatever Check says.
func TestSize(t *testing.T) {
	cases := []struct {
		l    []api.Opt
		want int
	}{
		{[]api.Opt{a(38, "\x01\x02")}, 4}, {[]api.Opt{a(1), a(36, "abc"), a(2)}, 7}, {[]api.Opt{a(31)}, 1}, {[]api.Opt{a(32)}, 2},
		{[]api.Opt{a(255, rep(253))}, 255}, {[]api.Opt{a(255, rep(254))}, 256}, {[]api.Opt{a(46, rep(1000))}, 1002},
		{[]api.Opt{a(31, "abc")}, 1}, {[]api.Opt{a(1, rep(1000))}, 1}, {[]api.Opt{a(1), a(1)}, 2}, {[]api.Opt{a(0)}, 1}, {[]api.Opt{a(0, "abc")}, 1},
		{[]api.Opt{a(0), a(0), a(2), a(0)}, 4}, {[]api.Opt{a(256)}, 2}, {[]api.Opt{a(256, "abc")}, 5}, {[]api.Opt{a(-1), a(-36, "abc")}, 2},
		{[]api.Opt{a(math.MinInt, "abc"), a(math.MaxInt, "abc")}, 6}, {singles(401), 401}, {singles(1 << 16), 1 << 16},
		{slices.Repeat([]api.Opt{a(46, rep(253))}, 300), 300 * 255},
	}
	for i, c := range cases {
		same(t, "Size", Size(c.l), c.want, i)
	}
	for _, kind := range noKinds {
		want := 5
		if kind < 32 {
			want = 1
		}
		same(t, "Size", Size([]api.Opt{a(kind, "abc")}), want, kind)
		same(t, "Size, beside others", Size([]api.Opt{a(2), a(kind, "abc"), a(36, "x")}), want+4, kind)
	}
}

// Promise 7.1: as few bytes 0 behind all as make a number that 4 divides.
func TestFillsUp(t *testing.T) {
	for many := range 401 {
		for i, l := range [][]api.Opt{singles(many), append(singles(many%7), a(46, drawn(3, many*2/3)))} {
			if Check(l) != api.OK {
				continue
			}
			s, e := Put(l)
			size := Size(l)
			same(t, "error", e, api.OK, many, i)
			same(t, "divided", len(s)%4, 0, many, i)
			same(t, "as few", len(s)-size < 4 && len(s) >= size, true, many, i)
			same(t, "bytes 0", s[size:], strings.Repeat("\x00", len(s)-size), many, i)
			same(t, "ahead of them", s, otherPut(l), many, i)
		}
	}
	put(t, "none", []api.Opt{a(46, "ab"), a(46, "cd")}, "\x2e\x04ab\x2e\x04cd")
	put(t, "one", []api.Opt{a(46, "a")}, "\x2e\x03a\x00")
	put(t, "two", []api.Opt{a(46)}, "\x2e\x02\x00\x00")
	put(t, "three", []api.Opt{a(2)}, "\x02\x00\x00\x00")
	put(t, "no more than one, behind a byte 0", []api.Opt{a(46, "\x00")}, "\x2e\x03\x00\x00")
}

// Promise 7.1: of all lists of up to four of some options, Check, Put and Size are as somebody else has them.
func TestPutAsOthers(t *testing.T) {
	some := []api.Opt{a(1), a(2), a(31), a(32), a(36, "abc"), a(255, rep(253)), a(46, rep(254)), a(2, "x"), a(0), a(256), a(38, rep(140)), a(1, "\x01")}
	count := 0
	var grow func(l []api.Opt)
	grow = func(l []api.Opt) {
		count++
		want := otherCheck(l)
		wrong(t, "Check", l, want, l)
		if want == api.OK {
			put(t, "Put", l, otherPut(l), l)
			same(t, "Size", (Size(l)+3)/4*4, len(otherPut(l)), l)
		}
		if len(l) == 4 {
			return
		}
		for _, o := range some {
			grow(append(slices.Clone(l), o))
		}
	}
	grow(nil)
	same(t, "lists", count, 1+12+144+1728+20736)
}

// Promise 7.2: ordinary bytes, with bytes 0 ahead, between and behind, of any number.
func TestGet(t *testing.T) {
	l := []api.Opt{a(1), a(36, "abc"), a(2), a(46)}
	got(t, "the chapter's example", "\x26\x04\x01\x02", []api.Opt{a(38, "\x01\x02")})
	got(t, "without bytes 0", "\x01\x24\x05abc\x02\x2e\x02", l)
	got(t, "behind", "\x01\x24\x05abc\x02\x2e\x02\x00\x00\x00", l)
	got(t, "ahead", "\x00\x00\x00\x01\x24\x05abc\x02\x2e\x02", l)
	got(t, "between", "\x01\x24\x05abc\x00\x02\x00\x00\x2e\x02", l)
	got(t, "behind Kind 1", "\x01\x00\x00\x24\x05abc\x02\x2e\x02", l)
	got(t, "all over", "\x00\x01\x00\x24\x05abc\x00\x00\x02\x00\x00\x2e\x02\x00", l)
	got(t, "bytes 0 alone", "\x00", nil)
	got(t, "four bytes 0", "\x00\x00\x00\x00", nil)
	got(t, "very many bytes 0", strings.Repeat("\x00", 100000), nil)
	got(t, "very many bytes 0 ahead", strings.Repeat("\x00", 100000)+"\x02", []api.Opt{a(2)})
	got(t, "own bytes 0", "\x24\x05\x00\x00\x00\x00", []api.Opt{a(36, "\x00\x00\x00")})
	got(t, "own bytes like options", "\x24\x07\x01\x01\x24\x01\x24", []api.Opt{a(36, "\x01\x01\x24\x01\x24")})
	got(t, "no text", "\xff\x05\xff\xc3\x80\x1f", []api.Opt{a(255, "\xff\xc3\x80"), a(31)})
	got(t, "the same, twice", "\x26\x03a\x26\x03a", []api.Opt{a(38, "a"), a(38, "a")})
}

// Promise 7.2: each Kind that a byte may say.
func TestGetEachKind(t *testing.T) {
	for kind := range 256 {
		b := string([]byte{byte(kind)})
		switch {
		case kind == 0:
			got(t, "Kind 0", b+"\x02", []api.Opt{a(2)})
		case kind < 32:
			got(t, "of one byte", b+"\x02\x05", []api.Opt{a(kind), a(2), a(5)}, kind)
		default:
			got(t, "without own bytes", b+"\x02\x05", []api.Opt{a(kind), a(5)}, kind)
			got(t, "with as many as may be", b+"\xff"+rep(253)+"\x05", []api.Opt{a(kind, rep(253)), a(5)}, kind)
			for _, ahead := range []string{"", "\x00", "\x02", "\x24\x03x"} {
				fails(t, "as the very last byte", ahead+b, api.ErrShort, kind, ahead)
				fails(t, "says 0", ahead+b+"\x00", api.ErrForm, kind, ahead)
				fails(t, "says 1", ahead+b+"\x01", api.ErrForm, kind, ahead)
				fails(t, "says 0, others behind", ahead+b+"\x00\x02\x02", api.ErrForm, kind, ahead)
				fails(t, "says 1, others behind", ahead+b+"\x01\x02\x02", api.ErrForm, kind, ahead)
				fails(t, "says 3, where the bytes end", ahead+b+"\x03", api.ErrShort, kind, ahead)
			}
		}
	}
}

// Promise 7.2: an option of each size that ends where the bytes end, one byte early, one byte late, and anywhere ahead.
func TestGetEnds(t *testing.T) {
	for own := range 254 {
		value := drawn(uint32(own), own)
		s := "\x24" + string([]byte{byte(own + 2)}) + value
		for _, ahead := range []string{"", "\x02", "\x00", "\x21\x04ab"} {
			before := each(ahead)
			whole := append(slices.Clone(before), a(36, value))
			got(t, "whole", ahead+s, whole, own, ahead)
			got(t, "one byte late", ahead+s+"\x03", append(slices.Clone(whole), a(3)), own, ahead)
			got(t, "a byte 0 behind", ahead+s+"\x00", whole, own, ahead)
			for cut := 1; cut < len(s); cut++ {
				fails(t, "early", ahead+s[:cut], api.ErrShort, own, ahead, cut)
			}
			alike(t, "Each, one byte early", each(ahead+s[:len(s)-1]), before, own, ahead)
		}
	}
}

// Promise 7.2: Check's error of all, once each is right by itself, and those of Kind 0 are left out.
func TestGetChecks(t *testing.T) {
	for s, want := range map[string]api.Errno{
		"\x01": api.ErrForm, "\x02\x01": api.ErrForm, "\x01\x01\x02": api.ErrForm, "\x02\x01\x01\x24\x03x": api.ErrForm,
		"\x01\x00": api.ErrForm, "\x01\x00\x00\x00": api.ErrForm, "\x01\x00\x01\x02": api.ErrForm, "\x00\x01\x00\x00\x01\x00\x02\x00": api.ErrForm,
		"\x24\x03x\x01": api.ErrForm, "\x01\x24\x03x\x01": api.ErrForm,
		strings.Repeat("\x02", 401): api.ErrLong, strings.Repeat("\x02", 1<<16): api.ErrLong, strings.Repeat("\x2e\x02", 201): api.ErrLong,
		strings.Repeat("\x02", 400) + "\x01": api.ErrForm, "\x01\x01" + strings.Repeat("\x02", 400): api.ErrForm,
		strings.Repeat("\x02", 399) + "\x01\x02": api.ErrLong, strings.Repeat("\x02\x00", 401): api.ErrLong,
		strings.Repeat("\x02", 146) + "\x24\xff" + rep(253): api.ErrLong,
	} {
		fails(t, "Get", s, want, s)
	}
	got(t, "400 of one byte", strings.Repeat("\x02", 400), singles(400))
	got(t, "400 of one byte, and bytes 0", strings.Repeat("\x02\x00", 400)+"\x00\x00", singles(400))
	got(t, "400 of both", strings.Repeat("\x02", 145)+"\x24\xff"+rep(253), append(singles(145), a(36, rep(253))))
}

// Promise 7.2: what is wrong with an option by itself is told ahead of what is wrong with all, and the first such one ahead of others.
func TestGetWhichError(t *testing.T) {
	for s, want := range map[string]api.Errno{
		"\x01\x01\x24": api.ErrShort, "\x01\x24": api.ErrShort, "\x01\x01\x24\x05ab": api.ErrShort,
		"\x24\x01\x01\x01": api.ErrForm, "\x24\x00\x24": api.ErrForm, "\x24\x01\x24\x05": api.ErrForm, "\x02\x24\x01\x26": api.ErrForm,
		"\x24\x05\x24\x01": api.ErrShort, "\x24\x03\x24\x24\x00": api.ErrForm, "\x24\x04\x24\x01\x24": api.ErrShort,
		strings.Repeat("\x02", 401) + "\x24": api.ErrShort, strings.Repeat("\x02", 401) + "\x24\x01": api.ErrForm,
		strings.Repeat("\x02", 401) + "\x24\x04x": api.ErrShort, "\x01\x01" + strings.Repeat("\x02", 401) + "\x24": api.ErrShort,
	} {
		fails(t, "Get", s, want, s)
	}
}

// Promise 7.2: Each tells those ahead of the first one that is wrong by itself, whatever is wrong with all.
func TestEach(t *testing.T) {
	cases := []struct {
		s    string
		want []api.Opt
	}{
		{"\x02\x00\x26\x03x\x24", []api.Opt{a(2), a(38, "x")}},
		{"\x01\x24\x05abc\x02\x2e\x02\x00\x00", []api.Opt{a(1), a(36, "abc"), a(2), a(46)}},
		{"\x24", nil}, {"\x24\x01", nil}, {"\x24\x00\x02", nil}, {"\x24\x05ab", nil}, {"\x00\x00", nil}, {"\x00\x24", nil},
		{"\x02\x24\x01\x03", []api.Opt{a(2)}}, {"\x02\x24\x00\x03", []api.Opt{a(2)}}, {"\x02\x24\x04\x03", []api.Opt{a(2)}},
		{"\x24\x02\x24\x01\x24\x02", []api.Opt{a(36)}},
		{"\x01", []api.Opt{a(1)}}, {"\x01\x01", []api.Opt{a(1), a(1)}}, {"\x01\x00\x01\x24", []api.Opt{a(1), a(1)}},
		{strings.Repeat("\x02", 401), singles(401)}, {strings.Repeat("\x02", 5000) + "\x24", singles(5000)},
		{strings.Repeat("\x2e\x02", 300), slices.Repeat([]api.Opt{a(46)}, 300)},
	}
	for _, c := range cases {
		alike(t, "Each", each(c.s), c.want, c.s)
	}
}

// Promise 7.2: an iterator is stopped after the first option, after each one, and after the last one, and goes through all if it never is.
func TestEachStops(t *testing.T) {
	for _, s := range []string{"\x01\x24\x05abc\x02\x2e\x02\x02", "\x00\x01\x00\x00\x24\x05abc\x02\x00\x2e\x02\x02\x00", "\x01\x24\x05abc\x02\x2e\x02\x02\x24", "\x01\x24\x05abc\x02\x2e\x02\x02\x24\x01\x02"} {
		whole := []api.Opt{a(1), a(36, "abc"), a(2), a(46), a(2)}
		for stop := 1; stop <= len(whole)+1; stop++ {
			var l []api.Opt
			Each(s)(func(o api.Opt) bool {
				l = append(l, o)
				return len(l) < stop
			})
			alike(t, "stopped", l, whole[:min(stop, len(whole))], s, stop)
		}
		var l []api.Opt
		for o := range Each(s) {
			if o.Kind == 46 {
				break
			}
			if o.Kind == 2 {
				continue
			}
			l = append(l, o)
		}
		alike(t, "broken off", l, whole[:2], s)
	}
}

// Promise 7.2: an iterator that is gone through again, within itself, or behind one that was stopped, tells the same.
func TestEachAgain(t *testing.T) {
	s := "\x02\x00\x26\x03x\x03\x24"
	whole := []api.Opt{a(2), a(38, "x"), a(3)}
	it := Each(s)
	for o := range it {
		same(t, "the first one", o, whole[0])
		break
	}
	for range 2 {
		var l []api.Opt
		for outer := range it {
			l = append(l, outer)
			var inner []api.Opt
			for o := range it {
				inner = append(inner, o)
			}
			alike(t, "within", inner, whole)
		}
		alike(t, "again", l, whole)
	}
	other := Each("\x05")
	alike(t, "beside another one", slices.Collect(it), whole)
	alike(t, "another one", slices.Collect(other), []api.Opt{a(5)})
}

// Promise 7.2: what a yield panics with comes out, and the iterator may be gone through behind it.
func TestEachPanics(t *testing.T) {
	it := Each("\x02\x03")
	func() {
		defer func() { same(t, "panic", recover(), any("stop")) }()
		it(func(api.Opt) bool { panic("stop") })
	}()
	alike(t, "behind it", slices.Collect(it), []api.Opt{a(2), a(3)})
}

// Promise 7.2: of all bytes of up to six of some, Get and Each are as somebody else has them.
func TestGetAsOthers(t *testing.T) {
	some := []byte{0, 1, 2, 3, 4, 31, 32, 255}
	for size := range 7 {
		count := 1
		for range size {
			count *= len(some)
		}
		for n := range count {
			b := make([]byte, size)
			for i := range b {
				b[i] = some[n%len(some)]
				n /= len(some)
			}
			asOthers(t, string(b))
		}
	}
}

// Promise 7.2: of bytes of all values, in any order.
func TestGetDrawn(t *testing.T) {
	for b := range 256 {
		for c := range 256 {
			asOthers(t, string([]byte{byte(b), byte(c)}))
			asOthers(t, string([]byte{2, byte(b), byte(c), 0, 1, 5}))
		}
	}
	for seed := range uint32(3000) {
		s := drawn(seed, int(seed)%700)
		asOthers(t, s)
		// Bytes below 48, so that more options are whole.
		low := []byte(s)
		for i := range low {
			low[i] %= byte(33 + seed%16)
		}
		asOthers(t, string(low))
	}
}

// Promise 7.3: the bytes of the first option of the kind, and nothing where there is none.
func TestFind(t *testing.T) {
	l := []api.Opt{a(2), a(36, "abc"), a(46, "first"), a(38), a(46, "second"), a(36), a(2, "x"), a(0, "zero"), a(-5, "below"), a(300, "above"), a(math.MinInt, "least"), a(math.MaxInt, "greatest")}
	for kind, want := range map[int]string{2: "", 36: "abc", 46: "first", 38: "", 0: "zero", -5: "below", 300: "above", math.MinInt: "least", math.MaxInt: "greatest"} {
		s, ok := Find(l, kind)
		same(t, "bytes", s, want, kind)
		same(t, "found", ok, true, kind)
	}
	for _, kind := range []int{1, 3, 32, 35, 37, 45, 47, 255, 256, 256 + 36, -36, -1, 44, math.MinInt + 1, math.MaxInt - 1} {
		s, ok := Find(l, kind)
		same(t, "no bytes", s, "", kind)
		same(t, "not found", ok, false, kind)
	}
	for many := range 5 {
		l := append(singles(many), a(46, "x", rep(many)), a(46, "other"))
		s, ok := Find(l, 46)
		same(t, "behind others", s, "x"+rep(many), many)
		same(t, "behind others, found", ok, true, many)
		s, ok = Find(l[:many], 46)
		same(t, "cut off", s, "", many)
		same(t, "cut off, not found", ok, false, many)
	}
}

// Promise 7.3: is one of the kind right behind one of Kind 1, be it the first of its kind or a later one?
func TestMust(t *testing.T) {
	m, x, y := a(1), a(36, "x"), a(2)
	cases := []struct {
		what string
		l    []api.Opt
		kind int
		want bool
	}{
		{"right behind", []api.Opt{m, x}, 36, true},
		{"right behind, one of one byte", []api.Opt{m, y}, 2, true},
		{"behind others", []api.Opt{x, y, m, x, y}, 36, true},
		{"ahead of another one", []api.Opt{m, x, y}, 2, false},
		{"one between", []api.Opt{m, y, x}, 36, false},
		{"behind it", []api.Opt{x, m}, 36, false},
		{"behind it, another one ahead of it", []api.Opt{x, m, y}, 36, false},
		{"alone", []api.Opt{x}, 36, false},
		{"no Kind 1", []api.Opt{x, y, x}, 36, false},
		{"the second of its kind", []api.Opt{x, m, x}, 36, true},
		{"the second, the first behind another one", []api.Opt{m, y, x, y, m, x}, 36, true},
		{"the first of its kind", []api.Opt{m, x, x}, 36, true},
		{"neither of two", []api.Opt{m, y, x, x}, 36, false},
		{"not there", []api.Opt{m, y}, 36, false},
		{"Kind 1 alone", []api.Opt{m}, 1, false},
		{"Kind 1 last", []api.Opt{x, m}, 1, false},
		{"two of Kind 1", []api.Opt{m, m}, 1, true},
		{"two of Kind 1, and the one", []api.Opt{m, m, x}, 36, true},
		{"Kind 1 twice, apart", []api.Opt{m, x, m, y}, 1, false},
		{"Kind 0 between", []api.Opt{m, a(0), x}, 36, false},
		{"Kind 0", []api.Opt{m, a(0)}, 0, true},
		{"Kind 1 with bytes", []api.Opt{a(1, "abc"), x}, 36, true},
		{"a Kind of another byte", []api.Opt{a(257), x}, 36, false},
		{"a Kind above", []api.Opt{m, a(300)}, 300, true},
		{"a Kind above, asked by its byte", []api.Opt{m, a(256 + 36)}, 36, false},
		{"a Kind below 0", []api.Opt{m, a(-1)}, -1, true},
		{"the least Kind", []api.Opt{m, a(math.MinInt)}, math.MinInt, true},
		{"the greatest Kind", []api.Opt{m, a(math.MaxInt)}, math.MaxInt, true},
		{"the least Kind, not there", []api.Opt{m, x}, math.MinInt, false},
		{"the greatest Kind, not there", []api.Opt{m, x}, math.MaxInt, false},
		{"the last one wraps not round", []api.Opt{x, y, m}, 36, false},
	}
	for _, c := range cases {
		same(t, c.what, Must(c.l, c.kind), c.want, c.kind)
	}
}

// Promise 7.3: of what was got, bytes 0 between one of Kind 1 and the next one count for nothing.
func TestMustOfGot(t *testing.T) {
	l, e := Get("\x02\x01\x00\x00\x24\x03x\x26\x02\x00")
	same(t, "error", e, api.OK)
	same(t, "right behind", Must(l, 36), true)
	same(t, "one further", Must(l, 38), false)
	same(t, "ahead", Must(l, 2), false)
	s, ok := Find(l, 36)
	same(t, "bytes", s, "x")
	same(t, "found", ok, true)
	_, ok = Find(l, 0)
	same(t, "Kind 0", ok, false)
}

// Promise 7.4: Get of Put are the options.
func TestGetOfPut(t *testing.T) {
	own := []int{0, 1, 2, 3, 5, 20, 120, 250, 252, 253}
	count := 0
	for seed := range uint32(5000) {
		var l []api.Opt
		b := drawn(seed, 40)
		for i := 0; i < int(seed%20); i++ {
			o := a(max(int(b[2*i]), 1))
			if seed%3 == 0 {
				o.Kind = max(o.Kind%40, 1)
			}
			if o.Kind >= 32 {
				o.Value = drawn(seed+uint32(i), own[int(b[2*i+1])%(2+int(seed)%9)])
			}
			l = append(l, o)
		}
		s, e := Put(l)
		same(t, "error", e, otherCheck(l), seed)
		if e != api.OK {
			continue
		}
		count++
		got(t, "Get of Put", s, l, seed)
		alike(t, "Each of Put", each(s), l, seed)
		again, _ := Get(s)
		put(t, "Put of Get of Put", again, s, seed)
	}
	if count < 3000 {
		t.Errorf("only %d lists were put", count)
	}
}

// The rules: lists and texts that are handed in stay as they are, also behind where they end, and nothing of them is kept.
func TestKeepsNothing(t *testing.T) {
	own := []byte("abc")
	spare := []api.Opt{a(1), {Kind: 36, Value: unsafe.String(&own[0], 3)}, a(2), a(99, "behind")}
	l, before := spare[:3], []api.Opt{a(1), a(36, "abc"), a(2), a(99, "behind")}
	s, e := Put(l)
	found, ok := Find(l, 36)
	Check(l)
	Size(l)
	Must(l, 36)
	alike(t, "list", spare, before)
	clear(own)
	same(t, "bytes stay", s, "\x01\x24\x05abc\x02\x00")
	same(t, "what was found stays", found, "abc")
	same(t, "error", e, api.OK)
	same(t, "found", ok, true)

	bytes := []byte(s)
	text := unsafe.String(&bytes[0], len(bytes))
	first, _ := Get(text)
	second, _ := Get(text)
	it := Each(text)
	told := slices.Collect(it)
	same(t, "text", text, s)
	clear(bytes)
	first[0] = a(77)
	alike(t, "options stay", second, before[:3])
	alike(t, "options that were told stay", told, before[:3])
	alike(t, "an iterator stays", slices.Collect(it), before[:3])
}

// P1: whatever is asked, nothing panics, and all ends.
func TestWrongInputs(t *testing.T) {
	Each("\x02\x03")(nil)
	Each("")(nil)
	kinds := append(slices.Clone(noKinds), 1, 2, 31, 32, 36, 255)
	for _, kind := range kinds {
		for _, other := range kinds {
			for _, own := range []string{"", "x", rep(253), rep(254), rep(70000)} {
				l := []api.Opt{a(kind, own), a(other), a(other, own)}
				wrong(t, "Check", l, otherCheck(l), kind, other, len(own))
				same(t, "Must", Must(l, other), kind == 1 || other == 1, kind, other)
				s, ok := Find(l, other)
				same(t, "found", ok, true, kind, other)
				same(t, "bytes", s == own, kind == other || own == "", kind, other, len(own))
			}
		}
	}
}

// P1: answers hang on nothing but what was given, whoever asks at the same time.
func TestAtOnce(t *testing.T) {
	it := Each("\x02\x00\x26\x03x\x03\x24")
	done := make(chan bool)
	for i := range 8 {
		go func() {
			right := true
			for many := range 200 {
				l := []api.Opt{a(1), a(36, drawn(uint32(i), many)), a(2)}
				s, e := Put(l)
				again, f := Get(s)
				right = right && e == api.OK && f == api.OK && slices.Equal(again, l) && len(slices.Collect(it)) == 3
			}
			done <- right
		}()
	}
	for i := range 8 {
		same(t, "at once", <-done, true, i)
	}
}
