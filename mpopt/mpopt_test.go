package mpopt_test

import (
	"math"
	"slices"
	"strings"
	"sync"
	"testing"
	"unsafe"

	"anabranch/api"
	"anabranch/mpopt"
	"anabranch/opts"
)

// The functions have the chapter's signatures.
var (
	_ func(api.Multi) api.Errno                            = mpopt.Check
	_ func(api.Multi) (api.Opt, api.Errno)                 = mpopt.Put
	_ func(api.Opt) (api.Multi, api.Errno)                 = mpopt.Get
	_ func([]api.Opt) []api.Multi                          = mpopt.All
	_ func([]api.Opt, int) (api.Multi, bool)               = mpopt.Find
	_ func([]api.Opt, ...api.Multi) ([]api.Opt, api.Errno) = mpopt.Say
)

// part is a number that a kind has, and in how many bytes.
type part struct {
	name string
	size int
}

// row is a row of the chapter's table: a kind, its numbers in order, and how many Bytes it may have behind them.
type row struct {
	kind  int
	parts []part
	many  []int
}

var rows = []row{
	{0, []part{{"Num", 4}}, []int{32}},
	{1, []part{{"Addr", 1}, {"Token", 4}, {"Nonce", 4}}, nil},
	{3, nil, []int{8, 16}},
	{4, []part{{"Num", 6}}, nil},
	{5, nil, []int{32}},
	{6, []part{{"Num", 2}}, nil},
	{7, []part{{"Addr", 1}, {"Num", 4}}, nil},
	{8, []part{{"Addr", 1}, {"Num", 4}}, nil},
	{9, []part{{"Addr", 1}, {"Prio", 1}, {"Num", 4}}, nil},
	{10, []part{{"Num", 4}}, nil},
	{11, []part{{"Num", 1}}, nil},
}

// names are the numbers that any kind may have.
var names = []string{"Addr", "Prio", "Num", "Token", "Nonce"}

// noKinds are numbers that no kind has.
var noKinds = []int{2, 12, 13, 14, 15, 16, 32, 46, 127, 128, 254, 255, 256, 257, 256 + 3, 256 + 11, 65536, 65536 + 4, 1 << 32, 1<<32 + 5, 1<<48 + 10, -1, -2, -3, -11, -245, -255, -256, -256 + 4, math.MinInt, math.MinInt + 1, math.MinInt + 9, math.MaxInt, math.MaxInt - 1}

// last is the greatest number of so many bytes, written out: no test takes it from what it tests.
func last(size int) int {
	switch size {
	case 1:
		return 255
	case 2:
		return 65535
	case 4:
		return 4294967295
	}
	return 281474976710655
}

// fit are numbers of so many bytes.
func fit(size int) []int {
	return []int{0, 1, 2, 127, 128, last(size)/2 + 1, last(size)/2 + 2, last(size) - 1, last(size)}
}

// beyond are numbers that are none of so many bytes.
func beyond(size int) []int {
	n := last(size)
	return []int{n + 1, n + 2, 2*n + 1, 2*n + 2, 256 * (n + 1), -1, -2, -n, -n - 1, -n - 2, 1<<56 + 1, math.MaxInt - 1, math.MaxInt, math.MinInt, math.MinInt + 1}
}

// at is where a number of m stands.
func at(m *api.Multi, name string) *int {
	switch name {
	case "Addr":
		return &m.Addr
	case "Prio":
		return &m.Prio
	case "Num":
		return &m.Num
	case "Token":
		return &m.Token
	}
	return &m.Nonce
}

// with is m with another number.
func with(m api.Multi, name string, n int) api.Multi {
	*at(&m, name) = n
	return m
}

// has tells whether a kind has a number.
func (r row) has(name string) bool {
	return slices.ContainsFunc(r.parts, func(p part) bool { return p.name == name })
}

// sample is such an option of a kind in which nothing is wrong and no number is 0, with so many Bytes.
func (r row) sample(many int) api.Multi {
	m := api.Multi{Kind: r.kind, Bytes: drawn(uint32(r.kind), many)}
	for i, p := range r.parts {
		*at(&m, p.name) = last(p.size) - 5 - i
	}
	return m
}

// samples are some of each kind: one for each number of Bytes that it may have.
func samples() []api.Multi {
	var l []api.Multi
	for _, r := range rows {
		for _, many := range r.sizes() {
			l = append(l, r.sample(many))
		}
	}
	return l
}

// sizes are how many Bytes a kind may have, 0 of one that has none.
func (r row) sizes() []int {
	if r.many == nil {
		return []int{0}
	}
	return r.many
}

// rowOf is the row of a kind.
func rowOf(kind int) (row, bool) {
	for _, r := range rows {
		if r.kind == kind {
			return r, true
		}
	}
	return row{}, false
}

// drawn is so many bytes, ever the same ones of one seed.
func drawn(seed uint32, many int) string {
	b := make([]byte, many)
	for i := range b {
		seed = seed*1664525 + 1013904223
		b[i] = byte(seed >> 24)
	}
	return string(b)
}

// multi is an option of Kind 46.
func multi(own string) api.Opt { return api.Opt{Kind: 46, Value: own} }

func same[V comparable](t *testing.T, what string, got, want V, args ...any) {
	t.Helper()
	if got != want {
		t.Errorf("%s %#v: got %#v, want %#v", what, args, got, want)
	}
}

// alike tells whether two lists have the same members.
func alike[V comparable](t *testing.T, what string, got, want []V, args ...any) {
	t.Helper()
	if !slices.Equal(got, want) {
		t.Errorf("%s %#v: got %#v, want %#v", what, args, got, want)
	}
}

// checked tells whether Check and Put have that error, and whether Put has nothing beside one.
func checked(t *testing.T, what string, m api.Multi, want api.Errno, args ...any) {
	t.Helper()
	same(t, what+": Check", mpopt.Check(m), want, m, args)
	o, e := mpopt.Put(m)
	same(t, what+": Put", e, want, m, args)
	if want != api.OK {
		same(t, what+": option beside an error", o, api.Opt{}, m, args)
	}
}

// put tells whether m is put as those bytes, and got of them.
func put(t *testing.T, what string, m api.Multi, want string, args ...any) {
	t.Helper()
	checked(t, what, m, api.OK, args...)
	o, _ := mpopt.Put(m)
	same(t, what+": option", o, multi(want), m, args)
	got, e := mpopt.Get(multi(want))
	same(t, what+": got", got, m, args)
	same(t, what+": error of Get", e, api.OK, m, args)
}

// fails tells whether Get has that error, and nothing beside it.
func fails(t *testing.T, what string, o api.Opt, want api.Errno, args ...any) {
	t.Helper()
	m, e := mpopt.Get(o)
	same(t, what, e, want, o, args)
	same(t, what+": beside an error", m, api.Multi{}, o, args)
}

// said tells whether Say has that error, and nothing beside it.
func said(t *testing.T, what string, l []api.Opt, more []api.Multi, want api.Errno, args ...any) {
	t.Helper()
	got, e := mpopt.Say(l, more...)
	same(t, what, e, want, args...)
	if want != api.OK {
		same(t, what+": options beside an error", len(got), 0, args...)
	}
}

// otherCheck is Check as somebody else has it: each error by itself, and then the one that is named first.
func otherCheck(m api.Multi) api.Errno {
	r, known := rowOf(m.Kind)
	if !known {
		return api.ErrKind
	}
	for _, p := range r.parts {
		if n := *at(&m, p.name); n < 0 || n > last(p.size) {
			return api.ErrRange
		}
	}
	if r.many != nil && !slices.Contains(r.many, len(m.Bytes)) {
		return api.ErrLong
	}
	for _, name := range names {
		if !r.has(name) && *at(&m, name) != 0 {
			return api.ErrForm
		}
	}
	if r.many == nil && m.Bytes != "" {
		return api.ErrForm
	}
	return api.OK
}

// otherPut is Put as somebody else has it, of one in which nothing is wrong.
func otherPut(m api.Multi) api.Opt {
	r, _ := rowOf(m.Kind)
	b := []byte{byte(m.Kind)}
	for _, p := range r.parts {
		for i := p.size - 1; i >= 0; i-- {
			b = append(b, byte(*at(&m, p.name)>>(8*i)))
		}
	}
	return multi(string(b) + m.Bytes)
}

// otherGet is Get as somebody else has it.
func otherGet(o api.Opt) (api.Multi, api.Errno) {
	if o.Kind != 46 {
		return api.Multi{}, api.ErrKind
	}
	if len(o.Value) == 0 {
		return api.Multi{}, api.ErrShort
	}
	r, known := rowOf(int(o.Value[0]))
	if !known {
		return api.Multi{}, api.ErrKind
	}
	behind := o.Value[1:]
	many := r.sizes()[0]
	if r.kind == 3 && len(behind) > 15 {
		many = 16
	}
	need := many
	for _, p := range r.parts {
		need += p.size
	}
	if len(behind) < need {
		return api.Multi{}, api.ErrShort
	}
	if len(behind) > need {
		return api.Multi{}, api.ErrMore
	}
	m := api.Multi{Kind: r.kind, Bytes: behind[need-many:]}
	for i, p := range r.parts {
		from := 0
		for _, ahead := range r.parts[:i] {
			from += ahead.size
		}
		for _, b := range []byte(behind[from : from+p.size]) {
			*at(&m, p.name) = *at(&m, p.name)*256 + int(b)
		}
	}
	return m, api.OK
}

// otherAll is All as somebody else has it.
func otherAll(l []api.Opt) []api.Multi {
	var all []api.Multi
	for i := len(l) - 1; i >= 0; i-- {
		if m, e := otherGet(l[i]); e == api.OK {
			all = slices.Insert(all, 0, m)
		}
	}
	return all
}

// putAsOthers tells whether Check and Put are as somebody else has them, and whether what was put is got.
func putAsOthers(t *testing.T, m api.Multi) {
	t.Helper()
	if e := otherCheck(m); e != api.OK {
		checked(t, "as others", m, e)
		return
	}
	put(t, "as others", m, otherPut(m).Value)
}

// getAsOthers tells whether Get is as somebody else has it, and whether what was got is put as the option.
func getAsOthers(t *testing.T, o api.Opt) {
	t.Helper()
	want, e := otherGet(o)
	if e != api.OK {
		fails(t, "as others", o, e)
		return
	}
	put(t, "Put of Get", want, o.Value)
}

const (
	bytes8  = "abcdefg\x00"
	bytes16 = "\x00\x01\x02\x03\xff\xfe\xfd\xfchijklmno"
	bytes32 = "\x00\x10\x20\x30\x40\x50\x60\x70\x80\x90\xa0\xb0\xc0\xd0\xe0\xf0\x01\x12\x23\x34\x45\x56\x67\x78\x89\x9a\xab\xbc\xcd\xde\xef\xff"
)

// Promise 11.1: the chapter's example.
func TestExample(t *testing.T) {
	put(t, "MultiSeq of 258", api.Multi{Kind: api.MultiSeq, Num: 258}, "\x04\x00\x00\x00\x00\x01\x02")
}

// Promise 11.1: an option of each kind, byte for byte.
func TestPut(t *testing.T) {
	put(t, "MultiConfirm", api.Multi{Kind: api.MultiConfirm, Num: 0x01020304, Bytes: bytes32}, "\x00\x01\x02\x03\x04"+bytes32)
	put(t, "MultiJoin", api.Multi{Kind: api.MultiJoin, Addr: 3, Token: 0xa1a2a3a4, Nonce: 0xf1f2f3f4}, "\x01\x03\xa1\xa2\xa3\xa4\xf1\xf2\xf3\xf4")
	put(t, "MultiKey of 8", api.Multi{Kind: api.MultiKey, Bytes: bytes8}, "\x03"+bytes8)
	put(t, "MultiKey of 16", api.Multi{Kind: api.MultiKey, Bytes: bytes16}, "\x03"+bytes16)
	put(t, "MultiSeq", api.Multi{Kind: api.MultiSeq, Num: 0x8899aabbccdd}, "\x04\x88\x99\xaa\xbb\xcc\xdd")
	put(t, "MultiTag", api.Multi{Kind: api.MultiTag, Bytes: bytes32}, "\x05"+bytes32)
	put(t, "MultiRTT", api.Multi{Kind: api.MultiRTT, Num: 0xabcd}, "\x06\xab\xcd")
	put(t, "MultiAddAddr", api.Multi{Kind: api.MultiAddAddr, Addr: 2, Num: 0x0a0b0c0d}, "\x07\x02\x0a\x0b\x0c\x0d")
	put(t, "MultiDropAddr", api.Multi{Kind: api.MultiDropAddr, Addr: 255, Num: 0x0a0b0c0d}, "\x08\xff\x0a\x0b\x0c\x0d")
	put(t, "MultiPrio", api.Multi{Kind: api.MultiPrio, Addr: 1, Prio: 2, Num: 0xfcfdfeff}, "\x09\x01\x02\xfc\xfd\xfe\xff")
	put(t, "MultiClose", api.Multi{Kind: api.MultiClose, Num: 7}, "\x0a\x00\x00\x00\x07")
	put(t, "MultiCapable", api.Multi{Kind: api.MultiCapable, Num: 1}, "\x0b\x01")
}

// Promise 11.1: one of each kind whose numbers are all 0.
func TestPutZero(t *testing.T) {
	zeros := strings.Repeat("\x00", 32)
	for _, r := range rows {
		for _, many := range r.sizes() {
			m := api.Multi{Kind: r.kind, Bytes: zeros[:many]}
			put(t, "zeros", m, otherPut(m).Value)
		}
	}
	put(t, "a join", api.Multi{Kind: 1}, "\x01\x00\x00\x00\x00\x00\x00\x00\x00\x00")
	put(t, "a close", api.Multi{Kind: 10}, "\x0a\x00\x00\x00\x00")
	checked(t, "the zero value", api.Multi{}, api.ErrLong)
}

// Promise 11.1: each number of each kind, at its edges and beyond.
func TestNumbers(t *testing.T) {
	for _, r := range rows {
		for _, p := range r.parts {
			m := r.sample(r.sizes()[0])
			for _, n := range fit(p.size) {
				one := with(m, p.name, n)
				put(t, "fits in", one, otherPut(one).Value, p.name)
			}
			for _, n := range beyond(p.size) {
				checked(t, "does not fit in", with(m, p.name, n), api.ErrRange, p.name)
			}
		}
	}
}

// Promise 11.1: each bit of each number stands where it should, alone.
func TestEachBit(t *testing.T) {
	for _, r := range rows {
		for _, p := range r.parts {
			for bit := range 64 {
				m := with(api.Multi{Kind: r.kind, Bytes: strings.Repeat("b", r.sizes()[0])}, p.name, 1<<bit)
				if bit >= 8*p.size {
					checked(t, "a bit beyond", m, api.ErrRange, p.name, bit)
					continue
				}
				put(t, "a bit", m, otherPut(m).Value, p.name, bit)
			}
		}
	}
}

// Promise 11.1: Bytes are just as many as may be.
func TestBytes(t *testing.T) {
	for _, r := range rows {
		if r.many == nil {
			continue
		}
		for many := range 70 {
			m := r.sample(many)
			if slices.Contains(r.many, many) {
				put(t, "as many as may be", m, otherPut(m).Value, many)
			} else {
				checked(t, "not as many", m, api.ErrLong, many)
			}
		}
		for _, many := range []int{251, 252, 253, 254, 255, 256, 256 + 8, 256 + 16, 256 + 32, 65536 + 8, 65536 + 16, 65536 + 32} {
			checked(t, "far more", r.sample(many), api.ErrLong, many)
		}
	}
}

// Promise 11.1: Bytes may have any values.
func TestBytesOfAllValues(t *testing.T) {
	for _, r := range rows {
		for _, many := range r.many {
			for b := range 256 {
				m := r.sample(many)
				m.Bytes = strings.Repeat(string([]byte{byte(b)}), many)
				put(t, "all the same", m, otherPut(m).Value, b)
				m.Bytes = drawn(uint32(b), many)
				put(t, "drawn", m, otherPut(m).Value, b)
			}
		}
	}
}

// Promise 11.1: a number that no kind has is none, whatever else is wrong, or not.
func TestNoKind(t *testing.T) {
	for _, kind := range noKinds {
		checked(t, "alone", api.Multi{Kind: kind}, api.ErrKind)
		for _, m := range samples() {
			m.Kind = kind
			checked(t, "with fields", m, api.ErrKind)
			m.Num, m.Addr = -1, 256
			checked(t, "with wrong numbers", m, api.ErrKind)
			m.Bytes = "x"
			checked(t, "with wrong bytes", m, api.ErrKind)
		}
	}
	for kind := range 1000 {
		if _, known := rowOf(kind); !known {
			checked(t, "each up to 1000", api.Multi{Kind: kind}, api.ErrKind)
			checked(t, "each below 0", api.Multi{Kind: -kind}, api.ErrKind)
		}
	}
}

// Promise 11.1: a field that a kind has not is zero, and nothing else.
func TestFieldsThatKindsHaveNot(t *testing.T) {
	for _, m := range samples() {
		r, _ := rowOf(m.Kind)
		for _, name := range names {
			if r.has(name) {
				continue
			}
			for _, n := range []int{1, 2, 255, 256, 65536, 1 << 32, 1 << 48, -1, math.MinInt, math.MaxInt} {
				checked(t, "a number", with(m, name, n), api.ErrForm, name)
			}
		}
		if r.many != nil {
			continue
		}
		for _, own := range []string{"x", "\x00", bytes8, bytes16, bytes32, strings.Repeat("\x00", 300)} {
			one := m
			one.Bytes = own
			checked(t, "bytes", one, api.ErrForm)
		}
	}
}

// Promise 11.1: of several errors the one that is named first.
func TestWhichError(t *testing.T) {
	cases := []struct {
		what string
		m    api.Multi
		want api.Errno
	}{
		{"number and Bytes", api.Multi{Kind: 0, Num: 1 << 32, Bytes: "x"}, api.ErrRange},
		{"number and no Bytes", api.Multi{Kind: 0, Num: -1}, api.ErrRange},
		{"number and a field too many", api.Multi{Kind: 0, Num: -1, Addr: 1, Bytes: bytes32}, api.ErrRange},
		{"number, Bytes and a field too many", api.Multi{Kind: 0, Num: -1, Token: 1, Bytes: bytes16}, api.ErrRange},
		{"Bytes and a field too many", api.Multi{Kind: 0, Prio: 1, Bytes: bytes32 + "x"}, api.ErrLong},
		{"first number and others", api.Multi{Kind: 1, Addr: 256, Num: 1}, api.ErrRange},
		{"last number and others", api.Multi{Kind: 1, Nonce: 1 << 32, Bytes: "x"}, api.ErrRange},
		{"all numbers", api.Multi{Kind: 1, Addr: -1, Token: -1, Nonce: -1, Prio: -1, Num: -1}, api.ErrRange},
		{"only others", api.Multi{Kind: 1, Prio: -1, Num: 1 << 40, Bytes: bytes32}, api.ErrForm},
		{"Bytes and a number too many", api.Multi{Kind: 3, Num: -1, Bytes: bytes8 + "x"}, api.ErrLong},
		{"a number too many", api.Multi{Kind: 3, Num: -1, Bytes: bytes8}, api.ErrForm},
		{"a tag's Bytes and a number", api.Multi{Kind: 5, Nonce: 1, Bytes: bytes16}, api.ErrLong},
		{"number and Bytes too many", api.Multi{Kind: 6, Num: 65536, Bytes: bytes8}, api.ErrRange},
		{"Prio and Bytes too many", api.Multi{Kind: 9, Prio: 256, Bytes: bytes8}, api.ErrRange},
		{"Kind and all else", api.Multi{Kind: 2, Addr: -1, Prio: -1, Num: -1, Token: -1, Nonce: -1, Bytes: "x"}, api.ErrKind},
	}
	for _, c := range cases {
		checked(t, c.what, c.m, c.want)
	}
}

// Promise 11.1: Check and Put are as somebody else has them, of many.
func TestPutAsOthers(t *testing.T) {
	numbers := []int{0, 1, 256, -1}
	for kind := -1; kind <= 13; kind++ {
		for i := range 1 << 10 {
			m := api.Multi{Kind: kind, Addr: numbers[i&3], Prio: numbers[i>>2&3], Num: numbers[i>>4&3], Token: numbers[i>>6&3], Nonce: numbers[i>>8&3]}
			for _, many := range []int{0, 1, 7, 8, 15, 16, 31, 32, 33} {
				m.Bytes = bytes32[:min(many, 32)] + strings.Repeat("x", max(many-32, 0))
				putAsOthers(t, m)
			}
		}
	}
}

// Promise 11.1: an option of another Kind is none, whatever it has.
func TestGetOtherKinds(t *testing.T) {
	values := []string{"", "\x02", "\x0b\x01", "\x0b", "\x0b\x01\x01", "\x03" + bytes16, "\x04\x00\x00\x00\x00\x01\x02"}
	kinds := []int{-1, -46, -210, 256, 256 + 46, 65536 + 46, 1<<32 + 46, math.MinInt, math.MinInt + 46, math.MaxInt}
	for kind := range 256 {
		kinds = append(kinds, kind)
	}
	for _, kind := range kinds {
		for _, own := range values {
			if kind != 46 {
				fails(t, "another Kind", api.Opt{Kind: kind, Value: own}, api.ErrKind)
			}
		}
	}
}

// Promise 11.1: no byte is too few, and a kind that is none is told ahead of its fields.
func TestGetFirstByte(t *testing.T) {
	fails(t, "no byte", multi(""), api.ErrShort)
	for b := range 256 {
		own := string([]byte{byte(b)})
		if _, known := rowOf(b); known {
			fails(t, "the kind alone", multi(own), api.ErrShort)
			continue
		}
		for many := range 300 {
			fails(t, "no such kind", multi(own+drawn(uint32(b), many)), api.ErrKind)
		}
	}
}

// Promise 11.1: each kind but the key with no byte behind, with as many as its fields have, and with far more.
func TestGetSizes(t *testing.T) {
	enough := map[int]int{0: 36, 1: 9, 4: 6, 5: 32, 6: 2, 7: 5, 8: 5, 9: 6, 10: 4, 11: 1}
	for kind, need := range enough {
		for many := range 300 {
			o := multi(string([]byte{byte(kind)}) + drawn(uint32(many), many))
			if many < need {
				fails(t, "too few", o, api.ErrShort, kind, many)
			} else if many > need {
				fails(t, "bytes left", o, api.ErrMore, kind, many)
			}
			getAsOthers(t, o)
		}
		fails(t, "very many", multi(string([]byte{byte(kind)})+drawn(1, 1<<16)), api.ErrMore, kind)
	}
}

// Promise 11.1: a key has 16 bytes, if so many are there, else 8.
func TestGetKey(t *testing.T) {
	for many := range 40 {
		o := multi("\x03" + drawn(9, many))
		switch {
		case many < 8:
			fails(t, "too few", o, api.ErrShort, many)
		case many == 8 || many == 16:
			m, e := mpopt.Get(o)
			same(t, "key", m, api.Multi{Kind: 3, Bytes: drawn(9, many)}, many)
			same(t, "error", e, api.OK, many)
		default:
			fails(t, "bytes left", o, api.ErrMore, many)
		}
	}
}

// Promise 11.1: what an option says has no field that its kind has not.
func TestGetFields(t *testing.T) {
	for _, r := range rows {
		for _, many := range r.sizes() {
			want := r.sample(many)
			m, e := mpopt.Get(otherPut(want))
			same(t, "error", e, api.OK, r.kind)
			for _, name := range names {
				if !r.has(name) {
					same(t, "a number that it has not", *at(&m, name), 0, r.kind, name)
				} else {
					same(t, "a number", *at(&m, name), *at(&want, name), r.kind, name)
				}
			}
			same(t, "bytes", m.Bytes, want.Bytes, r.kind)
			same(t, "kind", m.Kind, want.Kind)
		}
	}
}

// Promises 11.1 and 11.3: Get of Put is what was put, at all edges of all fields.
func TestThereAndBack(t *testing.T) {
	for _, r := range rows {
		list := []api.Multi{}
		for _, many := range r.sizes() {
			list = append(list, r.sample(many), api.Multi{Kind: r.kind, Bytes: strings.Repeat("\x00", many)}, api.Multi{Kind: r.kind, Bytes: strings.Repeat("\xff", many)})
		}
		for _, p := range r.parts {
			for _, m := range slices.Clone(list) {
				for _, n := range fit(p.size) {
					list = append(list, with(m, p.name, n))
				}
			}
		}
		for _, m := range list {
			o, e := mpopt.Put(m)
			same(t, "put", e, api.OK, m)
			got, e := mpopt.Get(o)
			same(t, "got", got, m)
			same(t, "error", e, api.OK, m)
			again, e := mpopt.Put(got)
			same(t, "put again", again, o)
			same(t, "error again", e, api.OK, m)
		}
	}
}

// Promise 11.3: two that differ in one field are not put as the same option.
func TestApart(t *testing.T) {
	put := map[api.Opt]api.Multi{}
	for _, m := range samples() {
		r, _ := rowOf(m.Kind)
		all := []api.Multi{m}
		for _, p := range r.parts {
			all = append(all, with(m, p.name, 0), with(m, p.name, last(p.size)))
		}
		for i := range m.Bytes {
			one := m
			one.Bytes = m.Bytes[:i] + string([]byte{m.Bytes[i] ^ 1}) + m.Bytes[i+1:]
			all = append(all, one)
		}
		for _, one := range all {
			o, e := mpopt.Put(one)
			same(t, "error", e, api.OK, one)
			if other, twice := put[o]; twice {
				t.Errorf("%+v and %+v are the same option", one, other)
			}
			put[o] = one
		}
	}
}

// Promises 11.1 and 11.3: each byte at each place of one of each kind.
func TestEachByte(t *testing.T) {
	for _, m := range samples() {
		s := otherPut(m).Value
		for i := range len(s) {
			for b := range 256 {
				getAsOthers(t, multi(s[:i]+string([]byte{byte(b)})+s[i+1:]))
			}
		}
	}
}

// Promises 11.1 and 11.3: bytes of all values, of any length: what was got is put as the option.
func TestAnyBytes(t *testing.T) {
	for seed := range uint32(20000) {
		s := []byte(drawn(seed, int(seed%60)))
		getAsOthers(t, multi(string(s)))
		if len(s) > 0 {
			s[0] %= 13
			getAsOthers(t, multi(string(s)))
		}
	}
}

// Promise 11.2: what options of several paths say, in order, among others and among such as say nothing.
func TestAll(t *testing.T) {
	rtt, key, seq := api.Multi{Kind: 6, Num: 8}, api.Multi{Kind: 3, Bytes: bytes8}, api.Multi{Kind: 4, Num: 3}
	slow, own := api.Opt{Kind: 2}, api.Opt{Kind: 36, Value: "\x06\x00\x08"}
	a, b, c := otherPut(rtt), otherPut(key), otherPut(seq)
	none, unknown, short, more := multi(""), multi("\x02"), multi("\x06\x00"), multi("\x06\x00\x08\x00")
	cases := []struct {
		what string
		l    []api.Opt
		want []api.Multi
	}{
		{"nil", nil, nil},
		{"no option", []api.Opt{}, nil},
		{"none of several paths", []api.Opt{slow, own, {Kind: 1}, {Kind: 46 + 256, Value: "\x0b\x01"}}, nil},
		{"only wrong ones", []api.Opt{none, unknown, short, more}, nil},
		{"one", []api.Opt{a}, []api.Multi{rtt}},
		{"one among others", []api.Opt{slow, own, b, slow}, []api.Multi{key}},
		{"several in order", []api.Opt{a, b, c}, []api.Multi{rtt, key, seq}},
		{"several in another order", []api.Opt{c, slow, a, own, b}, []api.Multi{seq, rtt, key}},
		{"the same twice", []api.Opt{a, a, b, a}, []api.Multi{rtt, rtt, key, rtt}},
		{"wrong ones ahead, between and behind", []api.Opt{none, a, unknown, short, c, more}, []api.Multi{rtt, seq}},
		{"behind what no packet has", []api.Opt{{Kind: 0}, {Kind: 999, Value: "x"}, {Kind: 2, Value: "x"}, {Kind: 1}, {Kind: 1}, a, {Kind: 1}}, []api.Multi{rtt}},
		{"more than a packet has", slices.Repeat([]api.Opt{a}, 1000), slices.Repeat([]api.Multi{rtt}, 1000)},
	}
	for _, c := range cases {
		alike(t, c.what, mpopt.All(c.l), c.want)
	}
}

// found tells whether Find has that one, or none.
func found(t *testing.T, what string, l []api.Opt, kind int, want api.Multi, ok bool) {
	t.Helper()
	m, is := mpopt.Find(l, kind)
	same(t, what, m, want, kind)
	same(t, what+": found", is, ok, kind)
}

// Promise 11.2: the first one of a kind that can be read, and of others nothing.
func TestFind(t *testing.T) {
	var l []api.Opt
	for _, m := range samples() {
		l = append(l, otherPut(m))
	}
	for _, r := range rows {
		found(t, "of each kind", l, r.kind, r.sample(r.sizes()[0]), true)
		found(t, "of nil", nil, r.kind, api.Multi{}, false)
		found(t, "of no option", []api.Opt{}, r.kind, api.Multi{}, false)
		found(t, "of others", []api.Opt{{Kind: 2}, {Kind: 36, Value: otherPut(r.sample(r.sizes()[0])).Value}}, r.kind, api.Multi{}, false)
		for _, o := range l {
			m, _ := otherGet(o)
			if m.Kind == r.kind {
				found(t, "of one alone", []api.Opt{o}, r.kind, m, true)
			} else {
				found(t, "of one of another kind", []api.Opt{o}, r.kind, api.Multi{}, false)
			}
		}
	}
	for _, kind := range noKinds {
		found(t, "no kind", l, kind, api.Multi{}, false)
		found(t, "no kind, though a byte says it", []api.Opt{multi(string([]byte{byte(kind)})), {Kind: kind}}, kind, api.Multi{}, false)
	}
}

// Promise 11.2: of a kind that is there twice the first one, without those that can't be read.
func TestFindTwice(t *testing.T) {
	first, second := api.Multi{Kind: 7, Addr: 1, Num: 2}, api.Multi{Kind: 7, Addr: 2, Num: 3}
	a, b, other := otherPut(first), otherPut(second), otherPut(api.Multi{Kind: 8, Addr: 1, Num: 2})
	found(t, "first", []api.Opt{a, b}, 7, first, true)
	found(t, "turned round", []api.Opt{b, a}, 7, second, true)
	found(t, "among others", []api.Opt{{Kind: 2}, other, b, other, a, b}, 7, second, true)
	found(t, "behind wrong ones", []api.Opt{multi("\x07"), multi("\x07\x00\x00\x00\x00\x00\x00"), {Kind: 7, Value: a.Value}, a, b}, 7, first, true)
	found(t, "only wrong ones", []api.Opt{multi("\x07"), multi(""), multi(a.Value + "x"), {Kind: 45, Value: a.Value}}, 7, api.Multi{}, false)
	found(t, "wrong ones are no MultiConfirm", []api.Opt{multi(""), multi("\x00"), multi("\x02"), {}}, 0, api.Multi{}, false)
	long, short := api.Multi{Kind: 3, Bytes: bytes16}, api.Multi{Kind: 3, Bytes: bytes8}
	found(t, "a key", []api.Opt{multi("\x03" + bytes8 + "x"), otherPut(long), otherPut(short)}, 3, long, true)
	found(t, "a shorter key", []api.Opt{otherPut(short), otherPut(long)}, 3, short, true)
}

// Promise 11.2: options, and those of several paths behind, in order.
func TestSay(t *testing.T) {
	slow, own := api.Opt{Kind: 2}, api.Opt{Kind: 36, Value: "abc"}
	all := samples()
	for _, l := range [][]api.Opt{nil, {}, {slow}, {own, slow}, {{Kind: 1}, own}, {otherPut(all[2]), slow, multi(""), multi("\x02"), multi("\x0b")}} {
		for from := range all {
			for _, more := range [][]api.Multi{nil, all[from : from+1], {all[from], all[0]}, {all[0], all[from], all[from]}} {
				want := slices.Clone(l)
				for _, m := range more {
					want = append(want, otherPut(m))
				}
				got, e := mpopt.Say(l, more...)
				same(t, "error", e, api.OK, len(l), len(more))
				alike(t, "options", got, want, len(l), len(more))
				alike(t, "what they say", mpopt.All(got), append(otherAll(l), more...), len(l), len(more))
			}
		}
	}
}

// Promise 11.2: Say of nothing are the options, or what is wrong with them.
func TestSayNothing(t *testing.T) {
	for _, l := range [][]api.Opt{nil, {}} {
		got, e := mpopt.Say(l)
		same(t, "no option", len(got), 0)
		same(t, "error", e, api.OK)
		got, e = mpopt.Say(l, []api.Multi{}...)
		same(t, "no option", len(got), 0)
		same(t, "error", e, api.OK)
	}
	l := []api.Opt{{Kind: 1}, {Kind: 36, Value: "abc"}, {Kind: 2}}
	got, e := mpopt.Say(l)
	alike(t, "options", got, l)
	same(t, "error", e, api.OK)
}

// wrongLists are options that are wrong by themselves, each with what is wrong, whatever stands behind.
var wrongLists = []struct {
	l    []api.Opt
	want api.Errno
}{
	{[]api.Opt{{}}, api.ErrKind},
	{[]api.Opt{{Kind: -1}}, api.ErrKind},
	{[]api.Opt{{Kind: 2}, {Kind: 256}}, api.ErrKind},
	{[]api.Opt{{Kind: math.MinInt, Value: "x"}}, api.ErrKind},
	{[]api.Opt{{Kind: 2, Value: "x"}}, api.ErrLong},
	{[]api.Opt{{Kind: 46, Value: strings.Repeat("x", 254)}}, api.ErrLong},
	{[]api.Opt{{Kind: 1}, {Kind: 1}, {Kind: 2}}, api.ErrForm},
	{[]api.Opt{{Kind: 1}, {Kind: 1}}, api.ErrForm},
	{slices.Repeat([]api.Opt{{Kind: 2}}, 401), api.ErrLong},
	{slices.Repeat([]api.Opt{{Kind: 2}}, 1<<16), api.ErrLong},
}

// Promise 11.2: options that are wrong by themselves, with nothing behind and with some.
func TestSayOfWrongOptions(t *testing.T) {
	for i, w := range wrongLists {
		same(t, "as opts has it", opts.Check(w.l), w.want, i)
		said(t, "nothing behind", w.l, nil, w.want, i)
		for _, m := range samples() {
			said(t, "one behind", w.l, []api.Multi{m}, w.want, i, m)
			said(t, "two behind", w.l, []api.Multi{m, m}, w.want, i, m)
		}
	}
}

// Promise 11.2: one that must be known may stand ahead of the first one that is said, and not behind all.
func TestSayBehindMandatory(t *testing.T) {
	l := []api.Opt{{Kind: 2}, {Kind: 1}}
	said(t, "last", l, nil, api.ErrForm)
	m := api.Multi{Kind: 11, Num: 1}
	got, e := mpopt.Say(l, m, m)
	alike(t, "ahead of one", got, []api.Opt{{Kind: 2}, {Kind: 1}, multi("\x0b\x01"), multi("\x0b\x01")})
	same(t, "error", e, api.OK)
	same(t, "must be known", opts.Must(got, 46), true)
}

// Promise 11.2: the first one that can't be put tells what is wrong, ahead of what is wrong with all.
func TestSayWrong(t *testing.T) {
	right := api.Multi{Kind: 4, Num: 3}
	wrong := []struct {
		m    api.Multi
		want api.Errno
	}{
		{api.Multi{Kind: 2}, api.ErrKind},
		{api.Multi{Kind: 12}, api.ErrKind},
		{api.Multi{Kind: 4, Num: 1 << 48}, api.ErrRange},
		{api.Multi{Kind: 6, Num: -1}, api.ErrRange},
		{api.Multi{Kind: 3}, api.ErrLong},
		{api.Multi{}, api.ErrLong},
		{api.Multi{Kind: 10, Addr: 1}, api.ErrForm},
	}
	lists := [][]api.Opt{nil, {{Kind: 2}}, {otherPut(right)}, {{Kind: 1}}}
	for _, w := range wrongLists {
		lists = append(lists, w.l)
	}
	for i, l := range lists {
		for _, w := range wrong {
			said(t, "alone", l, []api.Multi{w.m}, w.want, i, w.m)
			said(t, "behind a right one", l, []api.Multi{right, w.m}, w.want, i, w.m)
			said(t, "ahead of a right one", l, []api.Multi{w.m, right}, w.want, i, w.m)
			said(t, "behind very many", l, append(slices.Repeat([]api.Multi{right}, 200), w.m), w.want, i, w.m)
			for _, v := range wrong {
				said(t, "the first of two", l, []api.Multi{right, w.m, v.m}, w.want, i, w.m, v.m)
			}
		}
	}
}

// Promise 11.2: all together have just 400 bytes, or one more.
func TestSayMaxOpts(t *testing.T) {
	for _, m := range samples() {
		size := 2 + len(otherPut(m).Value)
		for many := 1; many*size <= 401; many++ {
			more := slices.Repeat([]api.Multi{m}, many)
			left := 400 - many*size
			if left >= 0 {
				l := slices.Repeat([]api.Opt{{Kind: 2}}, left)
				said(t, "400", l, more, api.OK, m, many)
				got, _ := mpopt.Say(l, more...)
				same(t, "how many bytes", opts.Size(got), 400, m, many)
				same(t, "how many options", len(got), left+many, m, many)
			}
			said(t, "401", slices.Repeat([]api.Opt{{Kind: 2}}, left+1), more, api.ErrLong, m, many)
		}
		said(t, "very many", nil, slices.Repeat([]api.Multi{m}, 1000), api.ErrLong, m)
	}
	said(t, "one of 255 and others up to 400", []api.Opt{{Kind: 38, Value: strings.Repeat("x", 253)}}, slices.Repeat([]api.Multi{{Kind: 5, Bytes: bytes32}}, 4), api.OK)
	said(t, "one of 255 and others beyond", []api.Opt{{Kind: 38, Value: strings.Repeat("x", 253)}}, slices.Repeat([]api.Multi{{Kind: 5, Bytes: bytes32}}, 5), api.ErrLong)
}

// Promise 11.2: what is said is as bytes, and back again, what was said.
func TestSaidInPackets(t *testing.T) {
	for from, m := range samples() {
		more := append([]api.Multi{m}, samples()[from:min(from+3, len(samples()))]...)
		l, e := mpopt.Say([]api.Opt{{Kind: 2}, {Kind: 1}}, more...)
		same(t, "error", e, api.OK, m)
		s, e := opts.Put(l)
		same(t, "error of bytes", e, api.OK, m)
		back, e := opts.Get(s)
		same(t, "error back", e, api.OK, m)
		alike(t, "options", back, l)
		alike(t, "said", mpopt.All(back), more)
	}
}

// Promise 11.2: of drawn lists, All, Find and Say are as somebody else has them.
func TestListsDrawn(t *testing.T) {
	pool := []api.Opt{{Kind: 2}, {Kind: 1}, {Kind: 36, Value: "abc"}, {}, multi(""), multi("\x02"), multi("\x0b"), multi("\x0b\x01\x01"), {Kind: 47, Value: "\x0b\x01"}}
	for _, m := range samples() {
		pool = append(pool, otherPut(m))
	}
	for seed := range uint32(3000) {
		var l []api.Opt
		for _, b := range []byte(drawn(seed, int(seed%9))) {
			l = append(l, pool[int(b)%len(pool)])
		}
		want := otherAll(l)
		alike(t, "All", mpopt.All(l), want, l)
		for kind := -1; kind <= 12; kind++ {
			i := slices.IndexFunc(want, func(m api.Multi) bool { return m.Kind == kind })
			if i < 0 {
				found(t, "Find", l, kind, api.Multi{}, false)
			} else {
				found(t, "Find", l, kind, want[i], true)
			}
		}
		e := opts.Check(l)
		said(t, "Say", l, nil, e, l)
		if got, _ := mpopt.Say(l); e == api.OK {
			alike(t, "Say", got, l)
		}
	}
}

// The rules: lists and texts that are handed in stay as they are, also behind where they end, and nothing of them is kept.
func TestKeepsNothing(t *testing.T) {
	own := []byte("\x03" + bytes16)
	text := unsafe.String(&own[0], len(own))
	spare := []api.Opt{{Kind: 2}, multi(text), {Kind: 99, Value: "behind"}, {Kind: 98}}
	l, key := spare[:2], api.Multi{Kind: 3, Bytes: bytes16}
	got, _ := mpopt.Get(l[1])
	all := mpopt.All(l)
	one, _ := mpopt.Find(l, 3)
	first, e := mpopt.Say(l, api.Multi{Kind: 11, Num: 1})
	second, _ := mpopt.Say(l, api.Multi{Kind: 11, Num: 2})
	nothing, _ := mpopt.Say(l)
	same(t, "error", e, api.OK)
	alike(t, "list", spare, []api.Opt{{Kind: 2}, multi("\x03" + bytes16), {Kind: 99, Value: "behind"}, {Kind: 98}})
	clear(own)
	l[0] = api.Opt{Kind: 77}
	same(t, "got", got, key)
	alike(t, "all", all, []api.Multi{key})
	same(t, "found", one, key)
	alike(t, "first", first, []api.Opt{{Kind: 2}, multi("\x03" + bytes16), multi("\x0b\x01")})
	alike(t, "second", second, []api.Opt{{Kind: 2}, multi("\x03" + bytes16), multi("\x0b\x02")})
	alike(t, "nothing more", nothing, []api.Opt{{Kind: 2}, multi("\x03" + bytes16)})
	nothing[0] = api.Opt{Kind: 55}
	same(t, "the list", l[0], api.Opt{Kind: 77})
}

// The rules: of what is put nothing is kept, and what is handed in as more stays.
func TestPutKeepsNothing(t *testing.T) {
	for _, ahead := range []api.Multi{{Kind: 5}, {Kind: 0, Num: 7}} {
		own := []byte(bytes32)
		m := ahead
		m.Bytes = unsafe.String(&own[0], len(own))
		more := []api.Multi{m, {Kind: 11, Num: 1}, {Kind: 11, Num: 2}}[:2]
		mpopt.Check(m)
		o, e := mpopt.Put(m)
		l, said := mpopt.Say(nil, more...)
		ahead.Bytes = bytes32
		alike(t, "more", more[:3], []api.Multi{ahead, {Kind: 11, Num: 1}, {Kind: 11, Num: 2}})
		clear(own)
		more[1] = api.Multi{}
		same(t, "option", o, otherPut(ahead))
		same(t, "error", e, api.OK)
		alike(t, "said", l, []api.Opt{otherPut(ahead), multi("\x0b\x01")})
		same(t, "error of Say", said, api.OK)
	}
}

// P1: whatever is asked, nothing panics, and all ends.
func TestWrongInputs(t *testing.T) {
	numbers := []int{math.MinInt, math.MinInt + 1, -1 << 32, -256, -1, 0, 1, 255, 256, 1 << 32, 1 << 48, math.MaxInt - 1, math.MaxInt}
	for kind := -2; kind <= 14; kind++ {
		for i, n := range numbers {
			for j, other := range numbers {
				m := api.Multi{Kind: kind, Addr: n, Prio: other, Num: numbers[(i+j)%len(numbers)], Token: other, Nonce: n}
				putAsOthers(t, m)
				m.Bytes = strings.Repeat("w", 8*(i%5))
				putAsOthers(t, m)
				l := []api.Opt{{Kind: n, Value: m.Bytes}, {Kind: other}, {Kind: kind}, multi(m.Bytes)}
				alike(t, "All", mpopt.All(l), otherAll(l), l)
				_, e := mpopt.Say(l, m)
				if wrong := otherCheck(m); wrong != api.OK {
					same(t, "Say", e, wrong, m)
				} else {
					same(t, "Say", e, opts.Check(append(l, otherPut(m))), l)
				}
			}
		}
	}
}

// Rule: nothing is kept between calls, so calls side by side answer as calls one behind the other.
func TestAtOnce(t *testing.T) {
	var w sync.WaitGroup
	for range 8 {
		w.Go(func() {
			for _, m := range samples() {
				put(t, "at once", m, otherPut(m).Value)
				l, e := mpopt.Say([]api.Opt{{Kind: 2}}, m, m)
				same(t, "error", e, api.OK)
				alike(t, "said", mpopt.All(l), []api.Multi{m, m})
			}
		})
	}
	w.Wait()
}
