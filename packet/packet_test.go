package packet

import (
	"math"
	"slices"
	"strings"
	"sync"
	"testing"
	"unsafe"

	"anabranch/api"
	"anabranch/opts"
)

// The functions have the chapter's signatures.
var (
	_ func(api.Packet) api.Errno                      = Check
	_ func(api.Packet, api.Place) (string, api.Errno) = Put
	_ func(string, api.Place) bool                    = Right
	_ func(string, api.Place) (api.Packet, api.Errno) = Get
	_ func(a, b api.Packet) bool                      = Same
)

// The chapter's numbers, written out: no test takes them from what it tests.
const (
	last24 = 16777215        // 2^24 - 1
	last32 = 4294967295      // 2^32 - 1
	last48 = 281474976710655 // 2^48 - 1
)

// here is a path of two different places.
var here = api.Place{From: 0x0a000001, To: 0x0a0000fe}

// paths are others.
var paths = []api.Place{{}, {From: 1, To: 2}, {From: 2, To: 1}, {From: last32, To: last32}, {From: 65535, To: 0}, {From: -1, To: math.MinInt}, {From: math.MaxInt, To: 3}}

// kind is what the chapters say of a kind, told in a table.
type kind struct {
	acks, serves, resets, bears bool
	long, short                 int // bytes ahead of the options, 0 of what may not be
}

// kinds are all of them, from Request to SyncAck.
var kinds = []kind{
	{false, true, false, true, 20, 0},   // Request
	{true, true, false, true, 28, 0},    // Response
	{false, false, false, true, 16, 12}, // Data
	{true, false, false, false, 24, 16}, // Ack
	{true, false, false, true, 24, 16},  // DataAck
	{true, false, false, false, 24, 0},  // CloseReq
	{true, false, false, false, 24, 0},  // Close
	{true, false, true, false, 28, 0},   // Reset
	{true, false, false, false, 24, 0},  // Sync
	{true, false, false, false, 24, 0},  // SyncAck
}

// noKinds are numbers that no kind has.
var noKinds = []int{-1, -2, -6, -16, 10, 11, 15, 16, 17, 18, 19, 32, 128, 255, 256, 258, 263, 1<<32 + 7, math.MinInt, math.MinInt + 7, math.MaxInt}

// field is a number of a packet: its name, where it stands, the last one that fits in, and which kinds have it.
type field struct {
	name string
	at   func(p *api.Packet) *int
	most func(long bool) int
	of   func(k kind) bool
}

// upTo is the same last number, long or short.
func upTo(n int) func(bool) int { return func(bool) int { return n } }

// numberMost is the last number of a packet, long or short.
func numberMost(long bool) int {
	if long {
		return last48
	}
	return last24
}

func ofAll(kind) bool { return true }

// early are the numbers of the beginning, late those behind it.
var early = []field{
	{"Src", func(p *api.Packet) *int { return &p.Src }, upTo(65535), ofAll},
	{"Dst", func(p *api.Packet) *int { return &p.Dst }, upTo(65535), ofAll},
	{"CCVal", func(p *api.Packet) *int { return &p.CCVal }, upTo(15), ofAll},
	{"Cover", func(p *api.Packet) *int { return &p.Cover }, upTo(15), ofAll},
	{"Seq", func(p *api.Packet) *int { return &p.Seq }, numberMost, ofAll},
}

var late = []field{
	{"Ack", func(p *api.Packet) *int { return &p.Ack }, numberMost, func(k kind) bool { return k.acks }},
	{"Service", func(p *api.Packet) *int { return &p.Service }, upTo(last32), func(k kind) bool { return k.serves }},
	{"Code", func(p *api.Packet) *int { return &p.Code }, upTo(255), func(k kind) bool { return k.resets }},
	{"Detail", func(p *api.Packet) *int { return &p.Detail }, upTo(last24), func(k kind) bool { return k.resets }},
}

var fields = slices.Concat(early, late)

// beyond are numbers that don't fit in where the last one that fits is that.
func beyond(most int) []int {
	return []int{-1, -2, -most, -most - 1, -most - 2, most + 1, most + 2, 2*most + 1, 2*most + 2, math.MinInt, math.MinInt + 1, math.MaxInt, math.MaxInt - 1}
}

// lists are some options: none, those of one byte, and those that fill a number that 4 divides, and that don't.
var lists = [][]api.Opt{
	nil,
	{},
	{{Kind: 2}},
	{{Kind: 2}, {Kind: 3}, {Kind: 31}},
	{{Kind: 2}, {Kind: 3}, {Kind: 31}, {Kind: 9}},
	{{Kind: 38, Value: "\x03"}},
	{{Kind: 38, Value: "\x03\x04"}},
	{{Kind: 1}, {Kind: 36, Value: "a cookie"}, {Kind: 255}},
	{{Kind: 32, Value: strings.Repeat("v", 253)}, {Kind: 2}, {Kind: 1}, {Kind: 46, Value: strings.Repeat("\x00", 63)}},
}

// full are options of just so many bytes in all, from 258 on.
func full(size int) []api.Opt {
	return []api.Opt{{Kind: 38, Value: strings.Repeat("f", 253)}, {Kind: 39, Value: strings.Repeat("\xff", size-257)}}
}

// wrongLists are options that are none, each with what is wrong with it.
var wrongLists = []struct {
	list []api.Opt
	want api.Errno
}{
	{[]api.Opt{{Kind: 0}}, api.ErrKind},
	{[]api.Opt{{Kind: -1}}, api.ErrKind},
	{[]api.Opt{{Kind: 256}}, api.ErrKind},
	{[]api.Opt{{Kind: math.MinInt}}, api.ErrKind},
	{[]api.Opt{{Kind: math.MaxInt, Value: "x"}}, api.ErrKind},
	{[]api.Opt{{Kind: 2, Value: "x"}}, api.ErrLong},
	{[]api.Opt{{Kind: 32, Value: strings.Repeat("x", 254)}}, api.ErrLong},
	{[]api.Opt{{Kind: 1}}, api.ErrForm},
	{[]api.Opt{{Kind: 1}, {Kind: 1}, {Kind: 2}}, api.ErrForm},
	{full(401), api.ErrLong},
	{slices.Repeat([]api.Opt{{Kind: 2}}, 401), api.ErrLong},
	{slices.Repeat([]api.Opt{{Kind: 2}}, 993), api.ErrLong},
	{slices.Repeat([]api.Opt{{Kind: 2}}, 1005), api.ErrLong},
	{slices.Repeat([]api.Opt{{Kind: 2}}, 1021), api.ErrLong},
	{slices.Repeat([]api.Opt{{Kind: 38, Value: strings.Repeat("x", 253)}}, 300), api.ErrLong},
}

func same[V comparable](t *testing.T, what string, got, want V, args ...any) {
	t.Helper()
	if got != want {
		t.Errorf("%s %v: got %#v, want %#v", what, args, got, want)
	}
}

// sameAs tells whether a packet is another one, field by field, as somebody else has it.
func sameAs(t *testing.T, what string, got, want api.Packet, args ...any) {
	t.Helper()
	if !otherSame(got, want) {
		t.Errorf("%s %v: got %+v, want %+v", what, args, got, want)
	}
}

// b is numbers as bytes.
func b(numbers ...int) string {
	s := make([]byte, len(numbers))
	for i, n := range numbers {
		s[i] = byte(n)
	}
	return string(s)
}

// drawn is so many bytes, ever the same ones of one seed.
func drawn(seed uint32, many int) []byte {
	s := make([]byte, many)
	for i := range s {
		seed = seed*1664525 + 1013904223
		s[i] = byte(seed >> 24)
	}
	return s
}

// may tells whether a kind may have such a beginning.
func may(k int, long bool) bool {
	if k < 0 || k > 9 {
		return false
	}
	return long || kinds[k].short > 0
}

// startSize is how many bytes stand ahead of a packet's options.
func startSize(k int, long bool) int {
	if long {
		return kinds[k].long
	}
	return kinds[k].short
}

// plain is a packet of a kind in which nothing is wrong, if the kind may be so.
func plain(k int, long bool) api.Packet {
	p := api.Packet{Kind: k, Long: long, Src: 5001, Dst: 5002, CCVal: 3, Seq: 0xabcdef}
	if k < 0 || k > 9 {
		return p
	}
	if kinds[k].acks {
		p.Ack = 0x123456
	}
	if kinds[k].serves {
		p.Service = 0x89abcdef
	}
	if kinds[k].resets {
		p.Code, p.Detail = 11, 0xfedcba
	}
	if kinds[k].bears {
		p.Data = "hello"
	}
	return p
}

// each calls what is to be done for a packet of each kind, long and short where it may be.
func each(do func(p api.Packet)) {
	for k := range kinds {
		for _, long := range []bool{false, true} {
			if may(k, long) {
				do(plain(k, long))
			}
		}
	}
}

// otherSame is Same as somebody else has it.
func otherSame(a, b api.Packet) bool {
	if len(a.Opts) != len(b.Opts) {
		return false
	}
	for i := range a.Opts {
		if a.Opts[i] != b.Opts[i] {
			return false
		}
	}
	numbers := func(p api.Packet) [11]int {
		return [11]int{p.Kind, p.Src, p.Dst, p.CCVal, p.Cover, p.Seq, p.Ack, p.Service, p.Code, p.Detail}
	}
	return numbers(a) == numbers(b) && a.Long == b.Long && a.Data == b.Data
}

// otherCheck is Check as somebody else has it: the errors in their order.
func otherCheck(p api.Packet) api.Errno {
	if p.Kind < 0 || p.Kind > 9 {
		return api.ErrKind
	}
	if !may(p.Kind, p.Long) {
		return api.ErrForm
	}
	for _, f := range fields {
		if n := *f.at(&p); f.of(kinds[p.Kind]) && (n < 0 || n > f.most(p.Long)) {
			return api.ErrRange
		}
	}
	if e := opts.Check(p.Opts); e != api.OK {
		return e
	}
	if len(p.Data) > 200 {
		return api.ErrLong
	}
	for _, f := range fields {
		if !f.of(kinds[p.Kind]) && *f.at(&p) != 0 {
			return api.ErrForm
		}
	}
	if !kinds[p.Kind].bears && len(p.Data) > 0 {
		return api.ErrForm
	}
	if p.Cover > 0 && len(p.Data) < 4*(p.Cover-1) {
		return api.ErrRange
	}
	return api.OK
}

// otherSum is the sum of all that is covered, as it stands: with the place of the addresses, the size and the protocol's number ahead.
func otherSum(s string, ahead int, at api.Place) int {
	cover := int(s[5] & 15)
	part := s
	if cover > 0 {
		part = s[:ahead+4*(cover-1)]
	}
	whole := []byte(b(at.From>>24, at.From>>16, at.From>>8, at.From, at.To>>24, at.To>>16, at.To>>8, at.To, 0, 33, len(s)>>8, len(s)) + part)
	if len(whole)%2 == 1 {
		whole = append(whole, 0)
	}
	sum := 0
	for i := 0; i < len(whole); i += 2 {
		sum += int(whole[i])*256 + int(whole[i+1])
		if sum > 65535 {
			sum -= 65535
		}
	}
	return 65535 - sum
}

// otherPut is Put as somebody else has it, of a packet in which nothing is wrong: each byte by its place.
func otherPut(p api.Packet, at api.Place) string {
	var s []byte
	number := func(n, size int) {
		for i := size - 1; i >= 0; i-- {
			s = append(s, byte(n>>(8*i)))
		}
	}
	number(p.Src, 2)
	number(p.Dst, 2)
	s = append(s, 0, byte(p.CCVal*16+p.Cover), 0, 0)
	if p.Long {
		s = append(s, byte(p.Kind*2+1), 0)
		number(p.Seq, 6)
	} else {
		s = append(s, byte(p.Kind*2))
		number(p.Seq, 3)
	}
	if kinds[p.Kind].acks && p.Long {
		number(p.Ack, 8)
	} else if kinds[p.Kind].acks {
		number(p.Ack, 4)
	}
	if kinds[p.Kind].serves {
		number(p.Service, 4)
	}
	if kinds[p.Kind].resets {
		number(p.Code, 1)
		number(p.Detail, 3)
	}
	for _, o := range p.Opts {
		s = append(s, byte(o.Kind))
		if o.Kind > 31 {
			s = append(s, byte(len(o.Value)+2))
			s = append(s, o.Value...)
		}
	}
	for len(s)%4 > 0 {
		s = append(s, 0)
	}
	s[4] = byte(len(s) / 4)
	return summed(string(s)+p.Data, at)
}

// summed is bytes that say how many words they have, with the right sum in its place.
func summed(s string, at api.Place) string {
	w := []byte(s)
	w[6], w[7] = 0, 0
	sum := otherSum(string(w), 4*int(w[4]), at)
	w[6], w[7] = byte(sum/256), byte(sum%256)
	return string(w)
}

// headError is what is wrong with how bytes begin, as somebody else has it.
func headError(s string) api.Errno {
	if len(s) < 12 || s[8]&1 == 1 && len(s) < 16 {
		return api.ErrShort
	}
	k, long := int(s[8])/2, s[8]&1 == 1
	switch {
	case k > 15 || long && s[9] != 0:
		return api.ErrForm
	case k > 9:
		return api.ErrKind
	case !may(k, long):
		return api.ErrForm
	case 4*int(s[4]) < startSize(k, long):
		return api.ErrShort
	}
	return api.OK
}

// otherRight is Right as somebody else has it.
func otherRight(s string, at api.Place) bool {
	if headError(s) != api.OK {
		return false
	}
	ahead, cover := 4*int(s[4]), int(s[5]&15)
	if len(s) < ahead || cover > 0 && len(s) < ahead+4*(cover-1) {
		return false
	}
	return otherSum(s, ahead, at) == 0
}

// otherGet is Get as somebody else has it.
func otherGet(s string, at api.Place) (api.Packet, api.Errno) {
	none := api.Packet{}
	if len(s) > 700 {
		return none, api.ErrLong
	}
	if e := headError(s); e != api.OK {
		return none, e
	}
	ahead := 4 * int(s[4])
	if len(s) < ahead {
		return none, api.ErrShort
	}
	if !otherRight(s, at) {
		return none, api.ErrSum
	}
	number := func(from, to int) int {
		n := 0
		for _, c := range []byte(s[from:to]) {
			n = n*256 + int(c)
		}
		return n
	}
	p := api.Packet{Kind: int(s[8]) / 2, Long: s[8]&1 == 1, Src: number(0, 2), Dst: number(2, 4), CCVal: int(s[5] >> 4), Cover: int(s[5] & 15), Data: s[ahead:]}
	k, start := kinds[p.Kind], startSize(p.Kind, p.Long)
	kept := 0
	if p.Long {
		p.Seq = number(10, 16)
		if k.acks {
			kept, p.Ack = number(16, 18), number(18, 24)
		}
	} else {
		p.Seq = number(9, 12)
		if k.acks {
			kept, p.Ack = number(12, 13), number(13, 16)
		}
	}
	if k.serves {
		p.Service = number(start-4, start)
	}
	if k.resets {
		p.Code, p.Detail = number(start-4, start-3), number(start-3, start)
	}
	if kept != 0 {
		return none, api.ErrForm
	}
	list, e := opts.Get(s[start:ahead])
	if e != api.OK {
		return none, e
	}
	p.Opts = list
	if len(p.Data) > 200 {
		return none, api.ErrLong
	}
	if !k.bears && len(p.Data) > 0 {
		return none, api.ErrForm
	}
	return p, api.OK
}

// wrong tells whether Check and Put have that error, and whether Put has nothing beside one.
func wrong(t *testing.T, what string, p api.Packet, want api.Errno, args ...any) {
	t.Helper()
	args = append(args, p)
	same(t, what+": Check", Check(p), want, args...)
	s, e := Put(p, here)
	same(t, what+": Put", e, want, args...)
	if want != api.OK {
		same(t, what+": bytes beside an error", s, "", args...)
	}
}

// put tells whether a packet is those bytes on a path, and those bytes are it.
func put(t *testing.T, what string, p api.Packet, at api.Place, want string, args ...any) {
	t.Helper()
	args = append(args, p, at)
	same(t, what+": Check", Check(p), api.OK, args...)
	s, e := Put(p, at)
	same(t, what+": error", e, api.OK, args...)
	same(t, what+": bytes", s, want, args...)
	got(t, what, s, at, p, args...)
}

// got tells whether bytes are that packet.
func got(t *testing.T, what, s string, at api.Place, want api.Packet, args ...any) {
	t.Helper()
	same(t, what+": Right", Right(s, at), true, args...)
	p, e := Get(s, at)
	same(t, what+": error of Get", e, api.OK, args...)
	sameAs(t, what+": packet", p, want, args...)
}

// fails tells whether Get has that error, and nothing beside it, and whether Right says what it has to.
func fails(t *testing.T, what, s string, at api.Place, right bool, want api.Errno, args ...any) {
	t.Helper()
	args = append(args, []byte(s))
	same(t, what+": Right", Right(s, at), right, args...)
	p, e := Get(s, at)
	same(t, what+": Get", e, want, args...)
	sameAs(t, what+": packet beside an error", p, api.Packet{}, args...)
	same(t, what+": options beside an error", p.Opts == nil, true, args...)
}

// agrees tells whether Right and Get say of bytes what somebody else's say.
func agrees(t *testing.T, what, s string, at api.Place) api.Errno {
	t.Helper()
	same(t, what+": Right", Right(s, at), otherRight(s, at), []byte(s), at)
	p, e := Get(s, at)
	want, wantE := otherGet(s, at)
	same(t, what+": Get", e, wantE, []byte(s), at)
	sameAs(t, what+": packet", p, want, []byte(s), at)
	return e
}

// turned is bytes with one bit turned.
func turned(s string, bit int) string {
	w := []byte(s)
	w[bit/8] ^= 0x80 >> (bit % 8)
	return string(w)
}

// with is bytes with others at a place.
func with(s string, at int, others ...int) string {
	return s[:at] + b(others...) + s[at+len(others):]
}

// Promise 10.2: the chapter's example.
func TestExample(t *testing.T) {
	s, e := Put(api.Packet{Kind: api.Ack, Src: 1, Dst: 2, Seq: 3, Ack: 4}, here)
	same(t, "error", e, api.OK)
	same(t, "bytes", len(s), 16)
}

// Promise 10.2: some packets, byte for byte.
func TestPut(t *testing.T) {
	at := api.Place{From: 0x0a000001, To: 0x0a000002}
	// Summed: 0a00 + 0001 + 0a00 + 0002 + 0021 + 0010, and 1389 + 138a + 0420 + 0600 + 0007 + 0005, in all 4573.
	put(t, "a short Ack", api.Packet{Kind: api.Ack, Src: 5001, Dst: 5002, CCVal: 2, Seq: 7, Ack: 5}, at,
		b(0x13, 0x89, 0x13, 0x8a, 4, 0x20, 0xba, 0x8c, 6, 0, 0, 7, 0, 0, 0, 5))
	// Summed: 0021 + 0023; 0001 + 0002 + 08f0 + 0300 + 0102 + 0304 + 0506; 0708 + 090a + 0b0c; 0d0e + 0f10; 0226 + 0380; 6162 + 6300, in all 1688.
	put(t, "a long Response", api.Packet{Kind: api.Response, Long: true, Src: 1, Dst: 2, CCVal: 15, Seq: 0x010203040506, Ack: 0x0708090a0b0c, Service: 0x0d0e0f10,
		Opts: []api.Opt{{Kind: 2}, {Kind: 38, Value: "\x80"}}, Data: "abc"}, api.Place{},
		b(0, 1, 0, 2, 8, 0xf0, 0xe9, 0x77, 3, 0, 1, 2, 3, 4, 5, 6, 0, 0, 7, 8, 9, 10, 11, 12, 13, 14, 15, 16, 2, 38, 3, 0x80)+"abc")
	// Of a Reset the code stands ahead of the detail: 0021 + 001c + 0700 + 0f00 + 0102 + 0304.
	put(t, "a Reset", api.Packet{Kind: api.Reset, Long: true, Code: 1, Detail: 0x020304}, api.Place{},
		b(0, 0, 0, 0, 7, 0, 0xe5, 0xbc, 15, 0, 0, 0, 0, 0, 0, 0, 0, 0, 0, 0, 0, 0, 0, 0, 1, 2, 3, 4))
	// Of a Data that is covered by 2 the data's first 4 bytes: 0021 + 0011 + 0302 + 0400 + 0102 + 0304.
	put(t, "a covered Data", api.Packet{Kind: api.Data, Cover: 2, Data: "\x01\x02\x03\x04\x05"}, api.Place{},
		b(0, 0, 0, 0, 3, 2, 0xf4, 0xc5, 4, 0, 0, 0, 1, 2, 3, 4, 5))
	put(t, "a Data covered by 1", api.Packet{Kind: api.Data, Cover: 1, Data: "\x01\x02\x03\x04\x05"}, api.Place{},
		b(0, 0, 0, 0, 3, 1, 0xf8, 0xcc, 4, 0, 0, 0, 1, 2, 3, 4, 5))
}

// Promise 10.2: a packet of each kind, long and short, with and without options and data, on some paths.
func TestPutKinds(t *testing.T) {
	each(func(p api.Packet) {
		for _, at := range append([]api.Place{here}, paths...) {
			for _, list := range lists {
				p.Opts = list
				put(t, "kind", p, at, otherPut(p, at))
				q := p
				q.Data = ""
				put(t, "without data", q, at, otherPut(q, at))
			}
		}
	})
}

// Promise 10.2: Words counts all that stands ahead of the data.
func TestWords(t *testing.T) {
	each(func(p api.Packet) {
		for _, size := range []int{0, 1, 2, 3, 4, 5, 6, 7, 8, 9, 397, 398, 399, 400} {
			p.Opts = slices.Repeat([]api.Opt{{Kind: 2}}, size)
			s, e := Put(p, here)
			same(t, "error", e, api.OK, size)
			ahead := startSize(p.Kind, p.Long) + (size+3)/4*4
			same(t, "Words", int(s[4]), ahead/4, size, p.Kind, p.Long)
			same(t, "bytes", len(s), ahead+len(p.Data), size, p.Kind, p.Long)
			same(t, "data", s[ahead:], p.Data, size)
		}
	})
}

// Promise 10.1: each number that a kind has, at its edges, long and short.
func TestRange(t *testing.T) {
	each(func(start api.Packet) {
		if kinds[start.Kind].bears {
			start.Data = strings.Repeat("d", 60)
		}
		for _, f := range fields {
			if !f.of(kinds[start.Kind]) {
				continue
			}
			most := f.most(start.Long)
			for _, n := range []int{0, 1, 2, most / 2, most/2 + 1, most - 1, most} {
				p := start
				*f.at(&p) = n
				if f.name == "Cover" && n > 1 && !kinds[start.Kind].bears {
					wrong(t, "covers too much", p, api.ErrRange, f.name, n)
					continue
				}
				put(t, "fits", p, here, otherPut(p, here), f.name, n)
			}
			for _, n := range beyond(most) {
				p := start
				*f.at(&p) = n
				wrong(t, "does not fit", p, api.ErrRange, f.name, n)
			}
		}
	})
}

// Promise 10.1: the number of another packet, of long ones and of short ones.
func TestAckOfBothSizes(t *testing.T) {
	each(func(p api.Packet) {
		if !kinds[p.Kind].acks {
			return
		}
		for _, c := range []struct {
			ack         int
			long, short api.Errno
		}{
			{0, api.OK, api.OK},
			{last24 - 1, api.OK, api.OK},
			{last24, api.OK, api.OK},
			{last24 + 1, api.OK, api.ErrRange},
			{1 << 32, api.OK, api.ErrRange},
			{last48, api.OK, api.ErrRange},
			{last48 + 1, api.ErrRange, api.ErrRange},
			{-1, api.ErrRange, api.ErrRange},
			{math.MinInt, api.ErrRange, api.ErrRange},
			{math.MaxInt, api.ErrRange, api.ErrRange},
		} {
			p.Ack = c.ack
			want := c.short
			if p.Long {
				want = c.long
			}
			wrong(t, "Ack", p, want, c.ack)
		}
	})
}

// Promise 10.1: the service, and why one resets, at their edges.
func TestServiceCodeDetail(t *testing.T) {
	for _, k := range []int{api.Request, api.Response} {
		p := plain(k, true)
		for n, want := range map[int]api.Errno{0: api.OK, 1: api.OK, last32: api.OK, last32 + 1: api.ErrRange, -1: api.ErrRange, math.MinInt: api.ErrRange, math.MaxInt: api.ErrRange} {
			p.Service = n
			wrong(t, "Service", p, want, n)
		}
	}
	for n, want := range map[int]api.Errno{0: api.OK, 255: api.OK, 256: api.ErrRange, -1: api.ErrRange, math.MinInt: api.ErrRange, math.MaxInt: api.ErrRange} {
		p := plain(api.Reset, true)
		p.Code = n
		wrong(t, "Code", p, want, n)
	}
	for n, want := range map[int]api.Errno{0: api.OK, last24: api.OK, last24 + 1: api.ErrRange, -1: api.ErrRange, math.MinInt: api.ErrRange, math.MaxInt: api.ErrRange} {
		p := plain(api.Reset, true)
		p.Detail = n
		wrong(t, "Detail", p, want, n)
	}
}

// Promise 10.1: what is no kind, and a kind that has to be long.
func TestKindErrors(t *testing.T) {
	for k := range kinds {
		want := api.ErrForm
		if k == api.Data || k == api.Ack || k == api.DataAck {
			want = api.OK
		}
		wrong(t, "short", plain(k, false), want)
		wrong(t, "long", plain(k, true), api.OK)
	}
	for _, k := range noKinds {
		wrong(t, "no kind, short", plain(k, false), api.ErrKind)
		wrong(t, "no kind, long", plain(k, true), api.ErrKind)
	}
}

// Promise 10.1: options of just 400 bytes, of one more, of so many that no Words tell them, and options that are none.
func TestOptions(t *testing.T) {
	each(func(p api.Packet) {
		for _, size := range []int{258, 397, 398, 399, 400} {
			p.Opts = full(size)
			put(t, "options", p, here, otherPut(p, here), size)
		}
		for _, size := range []int{401, 402, 403, 404, 500, 510} {
			p.Opts = full(size)
			wrong(t, "more than 400 bytes", p, api.ErrLong, size)
		}
		for _, words := range []int{226, 227, 228, 229, 230, 240, 245, 246, 247, 248, 249, 250, 251, 252, 253, 254, 255, 256, 257, 300, 512, 1 << 15} {
			p.Opts = slices.Repeat([]api.Opt{{Kind: 31}}, 4*words)
			wrong(t, "more than 255 Words", p, api.ErrLong, words)
		}
		for i, c := range wrongLists {
			p.Opts = c.list
			wrong(t, "no options", p, c.want, i)
		}
	})
}

// Promise 10.1: data of 0, 1, 199, 200 and 201 bytes, and of far more.
func TestData(t *testing.T) {
	each(func(p api.Packet) {
		for _, size := range []int{0, 1, 2, 3, 4, 199, 200} {
			p.Data = strings.Repeat("d", size)
			if size > 0 && !kinds[p.Kind].bears {
				wrong(t, "data of what bears none", p, api.ErrForm, size)
				continue
			}
			put(t, "data", p, here, otherPut(p, here), size)
		}
		for _, size := range []int{201, 202, 255, 256, 700, 1 << 16} {
			p.Data = strings.Repeat("d", size)
			wrong(t, "more than 200 bytes", p, api.ErrLong, size)
		}
		p.Data = "\x00"
		if !kinds[p.Kind].bears {
			wrong(t, "a byte 0 of what bears none", p, api.ErrForm)
		}
	})
}

// Promise 10.1: each Cover, with just as much data as it covers, one byte more and one fewer.
func TestCover(t *testing.T) {
	each(func(p api.Packet) {
		for cover := range 16 {
			p.Cover = cover
			needs := max(0, 4*(cover-1))
			if !kinds[p.Kind].bears {
				want := api.OK
				if needs > 0 {
					want = api.ErrRange
				}
				wrong(t, "covers what bears none", p, want, cover)
				continue
			}
			for _, size := range []int{0, needs - 4, needs - 3, needs - 1, needs, needs + 1, needs + 2, 200} {
				if size < 0 {
					continue
				}
				p.Data = string(drawn(uint32(cover), size))
				if size < needs {
					wrong(t, "covers more than there is", p, api.ErrRange, cover, size)
					continue
				}
				put(t, "covers", p, here, otherPut(p, here), cover, size)
			}
		}
	})
}

// Promise 10.1: a field that a kind has not is zero, and nothing else.
func TestFieldsThatKindsHaveNot(t *testing.T) {
	each(func(start api.Packet) {
		for _, f := range late {
			if f.of(kinds[start.Kind]) {
				continue
			}
			for _, n := range append(beyond(f.most(start.Long)), 1, 2, 255, f.most(start.Long)) {
				p := start
				*f.at(&p) = n
				wrong(t, "a field that it has not", p, api.ErrForm, f.name, n)
			}
		}
	})
}

// Promise 10.1: of several errors the one that is named first.
func TestCheckOrder(t *testing.T) {
	p := api.Packet{Kind: -1, Src: -1, Ack: -1, Opts: []api.Opt{{Kind: 0}}, Data: strings.Repeat("d", 201), Service: -1, Cover: 15}
	wrong(t, "all", p, api.ErrKind)
	p.Kind = api.Reset
	wrong(t, "all but no kind", p, api.ErrForm)
	p.Long = true
	wrong(t, "all from ports on", p, api.ErrRange)
	p.Src = 1
	wrong(t, "all from Ack on", p, api.ErrRange)
	p.Ack = 1
	wrong(t, "all from options on", p, api.ErrKind)
	p.Opts = []api.Opt{{Kind: 1}}
	wrong(t, "all from other options on", p, api.ErrForm)
	p.Opts = nil
	wrong(t, "all from long data on", p, api.ErrLong)
	p.Data = "dat"
	wrong(t, "all from a field that it has not on", p, api.ErrForm)
	p.Service = 0
	wrong(t, "all from data that it has not on", p, api.ErrForm)
	p.Data = ""
	wrong(t, "covers too much", p, api.ErrRange)
	p.Cover = 1
	wrong(t, "nothing", p, api.OK)
	// The error of the number is ahead of that of options, with Ack, Service, Code and Detail alike.
	each(func(start api.Packet) {
		for _, f := range late {
			q := start
			*f.at(&q) = -1
			q.Opts = []api.Opt{{Kind: 2, Value: "x"}}
			want := api.ErrLong
			if f.of(kinds[q.Kind]) {
				want = api.ErrRange
			}
			wrong(t, "number and options", q, want, f.name)
			q.Opts = []api.Opt{{Kind: 300}}
			if !f.of(kinds[q.Kind]) {
				want = api.ErrKind
			}
			wrong(t, "number and options", q, want, f.name)
		}
	})
	wrong(t, "too much for Words, with a wrong number", api.Packet{Kind: api.Ack, Ack: -1, Opts: slices.Repeat([]api.Opt{{Kind: 2}}, 1021)}, api.ErrRange)
	wrong(t, "too much for Words, with a wrong port", api.Packet{Kind: api.Data, Dst: 65536, Opts: slices.Repeat([]api.Opt{{Kind: 2}}, 1021)}, api.ErrRange)
	wrong(t, "covers too much, with a field that it has not", api.Packet{Kind: api.Data, Ack: 1, Cover: 9}, api.ErrForm)
	wrong(t, "covers too much, with too much data", api.Packet{Kind: api.Data, Cover: 15, Data: strings.Repeat("d", 201)}, api.ErrLong)
	wrong(t, "nothing said", api.Packet{}, api.ErrForm)
}

// Promise 10.1: Check tells what somebody else's tells, of many packets.
func TestCheckAll(t *testing.T) {
	datas := []string{"", "abcd", strings.Repeat("d", 200), strings.Repeat("d", 201)}
	someLists := [][]api.Opt{nil, {{Kind: 2}}, {{Kind: 0}}, {{Kind: 1}}, full(400), full(401), slices.Repeat([]api.Opt{{Kind: 2}}, 1030)}
	for k := -1; k <= 10; k++ {
		for _, long := range []bool{false, true} {
			for _, ack := range []int{-1, 0, last24, last24 + 1, last48, last48 + 1} {
				for _, own := range []int{-1, 0, 255, 256, last24, last24 + 1, last32, last32 + 1} {
					for which := range 3 {
						for _, cover := range []int{-1, 0, 1, 2, 3, 15, 16} {
							for _, data := range datas {
								for _, list := range someLists {
									p := api.Packet{Kind: k, Long: long, Src: 1, Dst: 2, Ack: ack, Cover: cover, Data: data, Opts: list}
									*late[which+1].at(&p) = own
									same(t, "Check", Check(p), otherCheck(p), k, long, ack, own, which, cover, len(data), len(list))
								}
							}
						}
					}
				}
			}
		}
	}
}

// Promise 10.2: 700 bytes may be a packet, 701 are none.
func TestGetLong(t *testing.T) {
	// What fills up the options is no option: 500 bytes of it, and 200 of data, are still a packet.
	most := summed(b(0, 1, 0, 2, 125, 0, 0, 0, 4, 0, 0, 9)+strings.Repeat("\x00", 488)+strings.Repeat("d", 200), here)
	same(t, "size", len(most), 700)
	got(t, "700 bytes", most, here, api.Packet{Kind: api.Data, Src: 1, Dst: 2, Seq: 9, Data: strings.Repeat("d", 200)})
	fails(t, "701 bytes, right ones", summed(most[:12]+"\x00\x00\x00\x00"+most[12:], here), here, true, api.ErrLong)
	fails(t, "701 bytes, right ones of much data", summed(most+"d", here), here, true, api.ErrLong)
	fails(t, "701 bytes, wrong ones", most+"x", here, false, api.ErrLong)
	fails(t, "no beginning", strings.Repeat("\xff", 701), here, false, api.ErrLong)
	fails(t, "no beginning, 700 bytes", strings.Repeat("\xff", 700), here, false, api.ErrForm)
	for _, size := range []int{702, 1024, 65535, 65536, 1 << 20} {
		fails(t, "far more", summed(b(0, 1, 0, 2, 3, 0, 0, 0, 4, 0, 0, 9)+strings.Repeat("d", size-12), here), here, true, api.ErrLong)
	}
}

// Promise 10.2: what is no beginning has the error of the beginning, whatever its sum is.
func TestGetHeadError(t *testing.T) {
	each(func(p api.Packet) {
		s := otherPut(p, here)
		for size := range 12 {
			fails(t, "cut", s[:size], here, false, api.ErrShort, p.Kind, p.Long)
		}
		for ninth := range 256 {
			agrees(t, "ninth byte", summed(with(s, 8, ninth), here), here)
		}
		fails(t, "a bit that is kept back", summed(with(s, 8, int(s[8])|0x80), here), here, false, api.ErrForm)
		fails(t, "no kind", summed(with(s, 8, 20|int(s[8])&1), here), here, false, api.ErrKind)
		if p.Long {
			fails(t, "tenth byte", summed(with(s, 9, 1), here), here, false, api.ErrForm)
			fails(t, "cut", s[:15], here, false, api.ErrShort)
		}
	})
}

// Promise 10.2: Words as many as there are bytes, more, and fewer than the beginning needs.
func TestGetWords(t *testing.T) {
	each(func(p api.Packet) {
		p.Data = ""
		p.Opts = slices.Repeat([]api.Opt{{Kind: 2}}, 8)
		s := otherPut(p, here)
		words, need := len(s)/4, startSize(p.Kind, p.Long)/4
		got(t, "just as many", s, here, p)
		for more := words + 1; more < 256; more++ {
			// Summed with all that there is, so that the sum is right of what would be covered.
			w := with(with(s, 4, more), 6, 0, 0)
			sum := otherSum(w, len(w), here)
			fails(t, "more than there are", with(w, 6, sum>>8, sum), here, false, api.ErrShort, more)
		}
		for fewer := range need {
			w := with(with(s, 4, fewer), 6, 0, 0)
			sum := otherSum(w, len(w), here)
			fails(t, "fewer than needed", with(w, 6, sum>>8, sum), here, false, api.ErrShort, fewer)
		}
		for fewer := need; fewer < words; fewer++ {
			w := summed(with(s, 4, fewer), here)
			if !kinds[p.Kind].bears {
				fails(t, "the rest is data that it has not", w, here, true, api.ErrForm, fewer)
				continue
			}
			q := p
			q.Opts, q.Data = p.Opts[:4*(fewer-need)], strings.Repeat("\x02", 4*(words-fewer))
			got(t, "the rest is data", w, here, q, fewer)
		}
	})
	// One byte fewer than Words say, of each size.
	each(func(p api.Packet) {
		p.Data = ""
		s := otherPut(p, here)
		for size := 12; size < len(s); size++ {
			fails(t, "cut", s[:size], here, false, api.ErrShort, p.Kind, p.Long, size)
		}
	})
}

// Promise 10.2: a sum that is right, and all others of two bytes.
func TestGetSum(t *testing.T) {
	each(func(p api.Packet) {
		s := otherPut(p, here)
		right := int(s[6])*256 + int(s[7])
		got(t, "right", s, here, p)
		for _, by := range []int{1, -1, 2, 255, 256, -256, 257, 32768, 65534} {
			sum := (right + by) & 65535
			fails(t, "off", with(s, 6, sum>>8, sum), here, false, api.ErrSum, by)
		}
	})
	s := otherPut(plain(api.DataAck, true), here)
	right := int(s[6])*256 + int(s[7])
	for sum := range 65536 {
		same(t, "Right", Right(with(s, 6, sum>>8, sum), here), sum == right, sum, right)
	}
}

// Promise 10.2: where all that is summed is 65535, the sum is 0, and both 0 and 65535 are right.
func TestSumOfZero(t *testing.T) {
	p := api.Packet{Kind: api.Data, Data: "xy"}
	s := otherPut(p, api.Place{})
	// What was the sum is data now, so that the sum of all is 0.
	p.Data += s[6:8]
	was := otherSum(with(otherPut(p, api.Place{}), 6, 0, 0), 12, api.Place{})
	p.Src = was
	s = otherPut(p, api.Place{})
	same(t, "sum", s[6:8], "\x00\x00")
	put(t, "a sum of 0", p, api.Place{}, s)
	got(t, "a sum of 65535", with(s, 6, 255, 255), api.Place{}, p)
	fails(t, "a sum of 1", with(s, 6, 0, 1), api.Place{}, false, api.ErrSum)
}

// Promise 10.2: on a different path the sum is not right.
func TestOtherPath(t *testing.T) {
	each(func(p api.Packet) {
		for cover := range 2 {
			p.Cover = cover
			s, _ := Put(p, here)
			got(t, "the same path", s, here, p)
			for bit := range 32 {
				from, to := here, here
				from.From ^= 1 << bit
				to.To ^= 1 << bit
				fails(t, "from somewhere else", s, from, false, api.ErrSum, bit)
				fails(t, "to somewhere else", s, to, false, api.ErrSum, bit)
			}
			fails(t, "from nowhere", s, api.Place{}, false, api.ErrSum)
		}
	})
}

// Promise 10.2: a size that is another one spoils the sum, though only what is behind is more.
func TestSizeIsSummed(t *testing.T) {
	p := plain(api.DataAck, true)
	p.Cover = 1
	s, _ := Put(p, here)
	fails(t, "a byte more, not covered", s+"\x00", here, false, api.ErrSum)
	fails(t, "a byte fewer, not covered", s[:len(s)-1], here, false, api.ErrSum)
	p.Cover, p.Data = 0, "ab\x00"
	s, _ = Put(p, here)
	fails(t, "a byte 0 more", s+"\x00", here, false, api.ErrSum)
	fails(t, "a byte 0 fewer", s[:len(s)-1], here, false, api.ErrSum)
}

// Promise 10.2: data as Cover covers there has to be, or it is not right.
func TestGetCover(t *testing.T) {
	each(func(p api.Packet) {
		if !kinds[p.Kind].bears {
			return
		}
		for cover := 2; cover < 16; cover++ {
			p.Cover, p.Data = cover, strings.Repeat("c", 4*(cover-1))
			s := otherPut(p, here)
			got(t, "just enough", s, here, p, cover)
			for fewer := 1; fewer <= 4; fewer++ {
				// Summed with all that there is, so that the sum is right of what is there.
				w := with(with(s[:len(s)-fewer], 6, 0, 0), 5, int(s[5])&0xf0)
				sum := otherSum(w, len(w), here) - cover
				if sum < 0 {
					sum += 65535
				}
				fails(t, "fewer than are covered", with(with(w, 6, sum>>8, sum), 5, int(s[5])), here, false, api.ErrSum, cover, fewer)
			}
		}
	})
}

// Promise 10.2: what is ahead of Ack is 0, though the sum is right.
func TestGetKeptBytes(t *testing.T) {
	each(func(p api.Packet) {
		if !kinds[p.Kind].acks {
			return
		}
		places := []int{16, 17}
		if !p.Long {
			places = []int{12}
		}
		s := otherPut(p, here)
		for _, at := range places {
			for value := 1; value < 256; value++ {
				fails(t, "not 0", summed(with(s, at, value), here), here, true, api.ErrForm, at, value)
			}
		}
		// The next byte is the number's highest one.
		at := places[len(places)-1] + 1
		q := p
		q.Ack = p.Ack | 0x90<<16
		if p.Long {
			q.Ack = p.Ack | 0x90<<40
		}
		got(t, "of the number", summed(with(s, at, int(s[at])|0x90), here), here, q)
	})
}

// Promise 10.2: options that are none have the error of options.
func TestGetOptions(t *testing.T) {
	each(func(p api.Packet) {
		p.Opts = []api.Opt{{Kind: 38, Value: "ab"}, {Kind: 39, Value: "cd"}}
		s := otherPut(p, here)
		at := startSize(p.Kind, p.Long)
		fails(t, "says more than there is", summed(with(s, at+4, 39, 5), here), here, true, api.ErrShort)
		fails(t, "says nothing", summed(with(s, at+4, 2, 2, 2, 39), here), here, true, api.ErrShort)
		fails(t, "says too few", summed(with(s, at+1, 1), here), here, true, api.ErrForm)
		fails(t, "one that must be known is not there", summed(with(s, at+4, 2, 2, 2, 1), here), here, true, api.ErrForm)
		q := p
		q.Opts = []api.Opt{{Kind: 38, Value: "ab"}, {Kind: 2}}
		got(t, "zeros everywhere", summed(with(s, at+4, 0, 2, 0, 0), here), here, q)
		p.Opts = full(400)
		s = otherPut(p, here)
		got(t, "400 bytes", s, here, p)
		w := s[:at] + strings.Repeat("\x02", 404) + p.Data
		fails(t, "404 bytes", summed(with(w, 4, (at+404)/4), here), here, true, api.ErrLong)
		q.Opts = slices.Repeat([]api.Opt{{Kind: 2}}, 400)
		w = s[:at] + strings.Repeat("\x02", 400) + "\x00\x00\x00\x00" + p.Data
		got(t, "400 bytes, filled up with more than needed", summed(with(w, 4, (at+404)/4), here), here, q)
	})
}

// Promise 10.2: data of a kind that bears none, and too much of it.
func TestGetData(t *testing.T) {
	each(func(p api.Packet) {
		p.Data = ""
		s := otherPut(p, here)
		for _, size := range []int{1, 2, 3, 4, 199, 200, 201, 202, 300, 600} {
			w := summed(s+strings.Repeat("d", size), here)
			q := p
			q.Data = strings.Repeat("d", size)
			switch {
			case size > 200:
				fails(t, "too much", w, here, true, api.ErrLong, size)
			case kinds[p.Kind].bears:
				got(t, "data", w, here, q, size)
			default:
				fails(t, "bears none", w, here, true, api.ErrForm, size)
			}
		}
	})
}

// Promise 10.2: of several errors of Get the one that is named first.
func TestGetOrder(t *testing.T) {
	// A long Ack: its sum is wrong, its kept bytes aren't 0, its options are none, and it has too much data.
	s := b(0, 1, 0, 2, 7, 0, 0, 0, 7, 0, 0, 0, 0, 0, 0, 9, 1, 0, 0, 0, 0, 0, 0, 8, 38, 1, 0, 0)
	much := strings.Repeat("d", 201)
	w := s + much
	fails(t, "with Words beyond, of a kind that is none", with(with(w, 4, 255), 8, 21), here, false, api.ErrKind)
	fails(t, "with Words beyond", with(w, 4, 255), here, false, api.ErrShort)
	fails(t, "with a wrong sum", w, here, false, api.ErrSum)
	w = summed(w, here)
	fails(t, "with kept bytes", w, here, true, api.ErrForm)
	w = summed(with(w, 16, 0, 0), here)
	fails(t, "with options that say too few", w, here, true, api.ErrForm)
	w = summed(with(w, 25, 9), here)
	fails(t, "with options that are too few", w, here, true, api.ErrShort)
	fails(t, "with those, and kept bytes", summed(with(w, 17, 1), here), here, true, api.ErrForm)
	w = summed(with(w, 25, 4), here)
	fails(t, "with too much data", w, here, true, api.ErrLong)
	fails(t, "with data", summed(w[:len(w)-1], here), here, true, api.ErrForm)
	got(t, "with nothing wrong", summed(w[:28], here), here, api.Packet{Kind: api.Ack, Long: true, Src: 1, Dst: 2, Seq: 9, Ack: 8, Opts: []api.Opt{{Kind: 38, Value: "\x00\x00"}}})
	fails(t, "Cover beyond the data, and kept bytes", with(summed(s, here), 5, 5), here, false, api.ErrSum)
}

// Promise 10.3: packets are the same, field by field, whatever is wrong with them.
func TestSame(t *testing.T) {
	full := api.Packet{Kind: 1, Long: true, Src: 2, Dst: 3, CCVal: 4, Cover: 5, Seq: 6, Ack: 7, Service: 8, Code: 9, Detail: 10, Opts: []api.Opt{{Kind: 11, Value: "v"}, {Kind: 12}}, Data: "data"}
	others := []func(p *api.Packet){
		func(p *api.Packet) { p.Kind++ },
		func(p *api.Packet) { p.Kind = math.MinInt },
		func(p *api.Packet) { p.Long = !p.Long },
		func(p *api.Packet) { p.Src++ },
		func(p *api.Packet) { p.Src += 1 << 32 },
		func(p *api.Packet) { p.Dst-- },
		func(p *api.Packet) { p.Src, p.Dst = p.Dst+1, p.Src+1 },
		func(p *api.Packet) { p.CCVal += 16 },
		func(p *api.Packet) { p.Cover += 16 },
		func(p *api.Packet) { p.Seq += 1 << 48 },
		func(p *api.Packet) { p.Ack += 1 << 48 },
		func(p *api.Packet) { p.Service += 1 << 32 },
		func(p *api.Packet) { p.Code += 256 },
		func(p *api.Packet) { p.Detail += 1 << 24 },
		func(p *api.Packet) { p.Detail = math.MaxInt },
		func(p *api.Packet) { p.Opts = append(slices.Clone(p.Opts), api.Opt{}) },
		func(p *api.Packet) { p.Opts = append([]api.Opt{{Kind: 1000}}, p.Opts...) },
		func(p *api.Packet) { p.Opts = []api.Opt{{Kind: 13, Value: "w"}, {Kind: 14}} },
		func(p *api.Packet) {
			p.Opts = slices.Concat([]api.Opt{{Kind: 21}, {Kind: 22}}, p.Opts, []api.Opt{{Kind: 22}, {Kind: 21}})
		},
		func(p *api.Packet) {
			p.Opts = slices.Concat([]api.Opt{{Kind: 22}, {Kind: 21}}, p.Opts, []api.Opt{{Kind: 22}, {Kind: 21}})
		},
		func(p *api.Packet) { p.Opts = []api.Opt{{Kind: 38, Value: "v"}} },
		func(p *api.Packet) { p.Opts = []api.Opt{{Kind: 38, Value: "v\x00"}} },
		func(p *api.Packet) { p.Opts = []api.Opt{{Kind: 38 + 256, Value: "v"}} },
		func(p *api.Packet) { p.Data += "\x00" },
		func(p *api.Packet) { p.Data = "Data" + p.Data },
	}
	for _, start := range []api.Packet{{}, full} {
		packets := []api.Packet{start}
		for _, change := range others {
			p := start
			change(&p)
			packets = append(packets, p)
		}
		for i, p := range packets {
			for j, q := range packets {
				same(t, "Same", Same(p, q), i == j, i, j)
			}
		}
	}
	same(t, "no options, nil or not", Same(api.Packet{}, api.Packet{Opts: []api.Opt{}}), true)
	same(t, "options of other memory", Same(full, api.Packet{Kind: 1, Long: true, Src: 2, Dst: 3, CCVal: 4, Cover: 5, Seq: 6, Ack: 7, Service: 8, Code: 9, Detail: 10, Opts: []api.Opt{{Kind: 11, Value: "v"}, {Kind: 12}}, Data: "data"}), true)
}

// Promise 10.3: options in another order are others.
func TestSameOrder(t *testing.T) {
	a := api.Packet{Opts: []api.Opt{{Kind: 2}, {Kind: 3}, {Kind: 38, Value: "a"}}}
	for _, list := range [][]api.Opt{
		{{Kind: 3}, {Kind: 2}, {Kind: 38, Value: "a"}},
		{{Kind: 2}, {Kind: 38, Value: "a"}, {Kind: 3}},
		{{Kind: 2}, {Kind: 3}},
		{{Kind: 2}, {Kind: 3}, {Kind: 38, Value: "b"}},
		{{Kind: 2}, {Kind: 3}, {Kind: 38, Value: "a"}, {Kind: 2}},
	} {
		same(t, "Same", Same(a, api.Packet{Opts: list}), false, list)
		same(t, "Same", Same(api.Packet{Opts: list}, a), false, list)
	}
}

// Promise 10.4: what was put is got on the same path, at all edges of all fields.
func TestThereAndBack(t *testing.T) {
	each(func(start api.Packet) {
		for _, f := range fields {
			for _, g := range fields {
				for _, n := range []int{0, 1, 6, f.most(start.Long) / 2, f.most(start.Long)} {
					for _, m := range []int{0, 1, 6, g.most(start.Long) / 2, g.most(start.Long)} {
						p := start
						p.Opts = lists[(n+m)%len(lists)]
						if kinds[p.Kind].bears {
							p.Data = string(drawn(uint32(n), 56+m%3))
						}
						*f.at(&p) = n
						*g.at(&p) = m
						if otherCheck(p) == api.OK {
							put(t, "there and back", p, here, otherPut(p, here))
						}
					}
				}
			}
		}
	})
}

// Promise 10.4: with one bit turned that is covered there is no packet; of what is not covered another one.
func TestEachBit(t *testing.T) {
	each(func(p api.Packet) {
		for _, list := range lists {
			for _, cover := range []int{0, 1, 2, 3, 15} {
				p.Opts, p.Cover = list, cover
				if kinds[p.Kind].bears {
					p.Data = string(drawn(uint32(cover), 59))
				} else if cover > 1 {
					continue
				}
				s, e := Put(p, here)
				same(t, "error", e, api.OK, p)
				ahead := len(s) - len(p.Data)
				covered := len(s)
				if cover > 0 {
					covered = ahead + 4*(cover-1)
				}
				for bit := range 8 * len(s) {
					w := turned(s, bit)
					e := agrees(t, "one bit", w, here)
					if bit/8 == 5 && bit%8 >= 4 {
						continue
					}
					if bit/8 < covered {
						same(t, "a packet with one bit turned", e == api.OK, false, bit, p)
						continue
					}
					q := p
					q.Data = w[ahead:]
					got(t, "one bit that is not covered", w, here, q, bit)
				}
			}
		}
	})
}

// Promise 10.4: with the Cover turned the sum goes over other data, and is right if that hides it.
func TestTurnedCover(t *testing.T) {
	p := api.Packet{Kind: api.Data, Src: 1, Dst: 2, Data: strings.Repeat("\x00", 60)}
	for from := range 16 {
		p.Cover = from
		s, _ := Put(p, here)
		for to := range 16 {
			e := agrees(t, "another Cover", with(s, 5, to), here)
			want := api.ErrSum
			if to == from {
				want = api.OK
			}
			same(t, "another Cover", e, want, from, to)
		}
	}
	// The data that is covered no more says just what the Cover is less.
	p.Cover, p.Data = 3, "\x00\x00\x00\x00\xff\xff\xff\xfe"
	s, _ := Put(p, here)
	p.Cover = 2
	got(t, "a Cover that is less", with(s, 5, 2), here, p)
}

// Promise 10.2: with Words turned the sum goes over what was data that is not covered, and is right if that hides it.
func TestTurnedWords(t *testing.T) {
	hides := "\x26\x10\xd5\xef" + strings.Repeat("\x00", 12)
	p := api.Packet{Kind: api.Data, Src: 1, Dst: 2, Cover: 1, Data: hides}
	s, _ := Put(p, here)
	w := turned(s, 8*4+5)
	p.Opts, p.Data = []api.Opt{{Kind: 38, Value: hides[2:]}}, ""
	got(t, "more Words", w, here, p)
	p.Cover, p.Opts, p.Data = 0, nil, hides
	s, _ = Put(p, here)
	fails(t, "more Words, where all data is covered", turned(s, 8*4+5), here, false, api.ErrSum)
}

// Promises 10.2 and 10.4: bytes of all values, in any order: what is got is sound, and is got again when it is put.
func TestAnyBytes(t *testing.T) {
	right := 0
	for seed := range uint32(60000) {
		s := string(drawn(seed, int(seed%71)))
		agrees(t, "drawn", s, here)
		if len(s) < 16 {
			continue
		}
		// Few Words, a kind that may be, and a sum that is right, so that what stands behind is read.
		s = with(s, 4, int(s[4])%8+3)
		s = with(s, 5, int(s[5])&0xf3)
		s = with(s, 8, int(s[8])%20)
		s = with(s, 9, 0)
		ahead, cover := 4*int(s[4]), int(s[5]&15)
		if len(s) < ahead || cover > 0 && len(s) < ahead+4*(cover-1) {
			agrees(t, "too few", s, here)
			continue
		}
		agrees(t, "right", summed(s, here), here)
		for _, at := range []int{12, 16, 17} {
			if len(s) > at {
				s = with(s, at, 0)
			}
		}
		s = summed(s, here)
		if agrees(t, "often right", s, here) != api.OK {
			continue
		}
		right++
		p, _ := Get(s, here)
		same(t, "Check of what was got", Check(p), api.OK, []byte(s))
		put(t, "put again", p, here, otherPut(p, here))
	}
	if right < 1000 {
		t.Errorf("only %d were right", right)
	}
}

// Promise 10.2: each byte at each place.
func TestEachByte(t *testing.T) {
	for _, p := range []api.Packet{plain(api.Response, true), plain(api.DataAck, false), plain(api.Reset, true), plain(api.Data, true)} {
		p.Opts = lists[7]
		s := otherPut(p, here)
		for at := range s {
			for value := range 256 {
				w := with(s, at, value)
				agrees(t, "one byte", w, here)
				if 4*int(w[4]) <= len(w) && (w[5]&15 == 0 || 4*int(w[4])+4*int(w[5]&15)-4 <= len(w)) {
					agrees(t, "one byte, summed", summed(w, here), here)
				}
			}
		}
	}
}

// Promise 10.2: addresses stand in 4 bytes each, whatever they are beyond.
func TestFarAddresses(t *testing.T) {
	p := plain(api.Data, true)
	s, _ := Put(p, api.Place{From: 5, To: last32})
	far, _ := Put(p, api.Place{From: 5 + 1<<32, To: -1})
	same(t, "bytes", far, s)
	got(t, "far addresses", s, api.Place{From: 5 - 1<<40, To: math.MaxInt}, p)
}

// Rules: nothing of what is handed in is changed or kept, and what is handed out is nobody else's.
func TestKeepsNothing(t *testing.T) {
	each(func(p api.Packet) {
		p.Opts = []api.Opt{{Kind: 38, Value: "ab"}, {Kind: 39, Value: "cd"}}
		bytes, _ := Put(p, here)
		sameAs(t, "what was put", api.Packet{Opts: p.Opts}, api.Packet{Opts: []api.Opt{{Kind: 38, Value: "ab"}, {Kind: 39, Value: "cd"}}})
		memory := []byte(bytes)
		first, e := Get(unsafe.String(&memory[0], len(memory)), here)
		again, _ := Get(bytes, here)
		same(t, "error", e, api.OK)
		for i := range memory {
			memory[i] = 'z'
		}
		sameAs(t, "packet", first, p)
		first.Opts[0] = api.Opt{}
		sameAs(t, "packet that was got again", again, p)
	})
}

// Rules: a packet's bytes hold no piece of what was handed in.
func TestPutKeepsNothing(t *testing.T) {
	data, value := []byte("hello"), []byte("ab")
	p := plain(api.DataAck, true)
	p.Opts = []api.Opt{{Kind: 38, Value: unsafe.String(&value[0], len(value))}}
	p.Data = unsafe.String(&data[0], len(data))
	s, _ := Put(p, here)
	was := strings.Clone(s)
	data[0], value[0] = 'z', 'z'
	same(t, "bytes", s, was)
}

// Rules: nothing is kept from call to call, so that calls at once disturb none.
func TestAtOnce(t *testing.T) {
	var all sync.WaitGroup
	for i := range 8 {
		all.Go(func() {
			at := api.Place{From: i, To: 9}
			each(func(p api.Packet) {
				for seq := range 100 {
					p.Seq, p.Opts = seq, lists[seq%len(lists)]
					put(t, "at once", p, at, otherPut(p, at))
				}
			})
		})
	}
	all.Wait()
}
