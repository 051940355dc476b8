package avec

import (
	"math"
	"math/big"
	"slices"
	"strings"
	"testing"
	"unsafe"

	"anabranch/api"
)

// The functions have the chapter's signatures.
var (
	_ func([]api.Run) api.Errno                                  = Check
	_ func([]api.Run) (string, api.Errno)                        = Put
	_ func(string) ([]api.Run, api.Errno)                        = Get
	_ func([]int) []api.Run                                      = Of
	_ func([]api.Run) int                                        = Many
	_ func(int, []api.Run) func(yield func(seq, state int) bool) = Each
	_ func(int, []api.Run, int) int                              = At
)

// The states are constants without a type of their own: each is one byte, too.
var _ = [...]byte{Got, Marked, Not}

// The chapter's numbers, written out: no test takes them from what it tests.
const (
	all  = 281474976710656 // 2^48
	last = 281474976710655 // 2^48 - 1
)

var (
	// states are those that packets have.
	states = []int{0, 1, 3}
	// noStates are numbers that no packet has as its State.
	noStates = []int{2, 4, 5, 6, 7, -1, -2, -3, -4, 63, 64, 65, 127, 128, 129, 192, 255, 256, 257, 259, 1 << 32, 1<<32 + 1, 1<<32 + 3, math.MinInt, math.MinInt + 1, math.MinInt + 3, math.MaxInt, math.MaxInt - 1}
	// noManys are numbers that no run has as its Many.
	noManys = []int{0, -1, -2, -63, -64, -65, -255, -256, 65, 66, 127, 128, 129, 256, 257, 320, 1 << 32, 1<<32 + 1, 1<<32 + 64, math.MinInt, math.MinInt + 1, math.MinInt + 64, math.MaxInt, math.MaxInt - 1}
	// froms are numbers at which something turns, inside the round and out of it.
	froms = []int{0, 1, 2, 3, 63, 64, 127, 128, 129, 1<<24 - 1, 1 << 24, 1 << 47, last - 128, last - 1, last, all, all + 1, all + 64, 2*all - 1, 2 * all, -1, -2, -64, -128, -last, -all, -all - 1, math.MaxInt, math.MaxInt - 5, math.MinInt, math.MinInt + 1, math.MinInt + 64}
)

// packet is what is told of one packet.
type packet struct{ seq, state int }

func same[V comparable](t *testing.T, what string, got, want V, args ...any) {
	t.Helper()
	if got != want {
		t.Errorf("%s %v: got %#v, want %#v", what, args, got, want)
	}
}

// alike tells whether two lists have the same members.
func alike[V comparable](t *testing.T, what string, got, want []V, args ...any) {
	t.Helper()
	if !slices.Equal(got, want) {
		t.Errorf("%s %v: got %#v, want %#v", what, args, got, want)
	}
}

// r is a run.
func r(state, many int) api.Run { return api.Run{State: state, Many: many} }

// ones are so many runs of one packet.
func ones(many int) []api.Run { return slices.Repeat([]api.Run{r(0, 1)}, many) }

// row is so many equal states.
func row(state, many int) []int { return slices.Repeat([]int{state}, many) }

// join is lists, one behind the other, in new memory.
func join[V any](lists ...[]V) []V { return slices.Concat(lists...) }

// drawn is so many bytes, ever the same ones of one seed.
func drawn(seed uint32, many int) []byte {
	b := make([]byte, many)
	for i := range b {
		seed = seed*1664525 + 1013904223
		b[i] = byte(seed >> 24)
	}
	return b
}

// bytes are numbers as bytes.
func bytes(numbers ...int) string {
	b := make([]byte, len(numbers))
	for i, n := range numbers {
		b[i] = byte(n)
	}
	return string(b)
}

// in48 is a number modulo 2^48, reckoned without any bound.
func in48(n, less int) int {
	sum := new(big.Int).Sub(big.NewInt(int64(n)), big.NewInt(int64(less)))
	// Mod is never below 0, whatever the sum is.
	return int(sum.Mod(sum, big.NewInt(all)).Int64())
}

// wrong tells whether Check and Put have that error, and whether Put has nothing beside one.
func wrong(t *testing.T, what string, l []api.Run, want api.Errno, args ...any) {
	t.Helper()
	same(t, what+": Check", Check(l), want, args...)
	s, e := Put(l)
	same(t, what+": Put", e, want, args...)
	if want != api.OK {
		same(t, what+": bytes beside an error", s, "", args...)
	}
}

// put tells whether runs are those bytes.
func put(t *testing.T, what string, l []api.Run, want string, args ...any) {
	t.Helper()
	wrong(t, what, l, api.OK, args...)
	s, _ := Put(l)
	same(t, what+": bytes", s, want, args...)
}

// got tells whether bytes are those runs.
func got(t *testing.T, what, s string, want []api.Run, args ...any) {
	t.Helper()
	l, e := Get(s)
	same(t, what+": error", e, api.OK, args...)
	alike(t, what, l, want, args...)
}

// fails tells whether Get has that error, and nothing beside it.
func fails(t *testing.T, what, s string, want api.Errno, args ...any) {
	t.Helper()
	l, e := Get(s)
	same(t, what, e, want, args...)
	same(t, what+": runs beside an error", len(l), 0, args...)
}

// each is all that Each tells.
func each(from int, l []api.Run) []packet {
	var list []packet
	for seq, state := range Each(from, l) {
		list = append(list, packet{seq, state})
	}
	return list
}

// otherCheck is Check as somebody else has it.
func otherCheck(l []api.Run) api.Errno {
	total := 0
	for _, one := range l {
		if !slices.Contains(states, one.State) {
			return api.ErrKind
		}
		if one.Many <= 0 || one.Many >= 65 {
			return api.ErrRange
		}
		total += one.Many
	}
	if total >= 129 {
		return api.ErrLong
	}
	return api.OK
}

// otherPut is Put as somebody else has it, of runs in which nothing is wrong.
func otherPut(l []api.Run) string {
	s := ""
	for _, one := range l {
		s += bytes(one.State<<6 | (one.Many - 1))
	}
	return s
}

// otherGet is Get as somebody else has it.
func otherGet(s string) ([]api.Run, api.Errno) {
	var l []api.Run
	total := 0
	for _, b := range []byte(s) {
		if b&0xc0 == 0x80 {
			return nil, api.ErrKind
		}
		l = append(l, r(int(b>>6), int(b&0x3f)+1))
		total += int(b&0x3f) + 1
	}
	if total > 128 {
		return nil, api.ErrLong
	}
	return l, api.OK
}

// otherStates are the states that runs tell, as somebody else has them.
func otherStates(l []api.Run) []int {
	var list []int
	for _, one := range l {
		many := one.Many
		if many < 0 {
			many = 0
		}
		if many > 64 {
			many = 64
		}
		list = append(list, row(one.State, many)...)
	}
	return list
}

// otherEach is what Each tells, as somebody else has it.
func otherEach(from int, l []api.Run) []packet {
	var list []packet
	for i, state := range otherStates(l) {
		list = append(list, packet{in48(from, i), state})
	}
	return list
}

// otherOf is Of as somebody else has it: from each packet on as far as its run goes.
func otherOf(list []int) []api.Run {
	var l []api.Run
	plain := asNot(list)
	for i := 0; i < len(plain); {
		end := i
		for end < len(plain) && plain[end] == plain[i] && end-i < 64 {
			end++
		}
		l = append(l, r(plain[i], end-i))
		i = end
	}
	return l
}

// asNot are states, each that is none of the three being Not.
func asNot(list []int) []int {
	plain := slices.Clone(list)
	for i, state := range plain {
		if state != 0 && state != 1 && state != 3 {
			plain[i] = 3
		}
	}
	return plain
}

// whole tells whether all that may be asked of runs is as somebody else has it.
func whole(t *testing.T, l []api.Run, args ...any) {
	t.Helper()
	e := otherCheck(l)
	if e == api.OK {
		put(t, "Put", l, otherPut(l), args...)
		got(t, "Get of Put", otherPut(l), l, args...)
	} else {
		wrong(t, "Check", l, e, args...)
	}
	list := otherStates(l)
	same(t, "Many", Many(l), len(list), args...)
	for _, from := range []int{0, 5, last, -70} {
		alike(t, "Each", each(from, l), otherEach(from, l), args...)
	}
	alike(t, "Of the states", Of(list), otherOf(list), args...)
}

// Promise 8.1: the states count up, with one left out.
func TestStates(t *testing.T) {
	same(t, "Got", Got, 0)
	same(t, "Marked", Marked, 1)
	same(t, "Not", Not, 3)
}

// Promises 8.1 and 8.2: the chapter's example.
func TestExample(t *testing.T) {
	l := Of([]int{0, 0, 3})
	alike(t, "runs", l, []api.Run{r(0, 2), r(3, 1)})
	put(t, "bytes", l, "\x01\xc0")
	got(t, "runs again", "\x01\xc0", l)
}

// Promise 8.1: ordinary runs of all three states, in order.
func TestPut(t *testing.T) {
	put(t, "of each state one packet", []api.Run{r(0, 1), r(1, 1), r(3, 1)}, "\x00\x40\xc0")
	put(t, "of each state some", []api.Run{r(3, 7), r(0, 30), r(1, 2)}, "\xc6\x1d\x41")
	put(t, "ones that came", []api.Run{r(0, 64)}, "\x3f")
	put(t, "marked ones", []api.Run{r(1, 64)}, "\x7f")
	put(t, "ones that didn't come", []api.Run{r(3, 64)}, "\xff")
	put(t, "in order", []api.Run{r(0, 3), r(3, 2), r(0, 1), r(3, 64)}, "\x02\xc1\x00\xff")
	put(t, "equal ones, one behind the other", []api.Run{r(0, 3), r(0, 3), r(0, 1)}, "\x02\x02\x00")
	got(t, "of each state one packet", "\x00\x40\xc0", []api.Run{r(0, 1), r(1, 1), r(3, 1)})
	got(t, "of each state some", "\xc6\x1d\x41", []api.Run{r(3, 7), r(0, 30), r(1, 2)})
	got(t, "equal ones", "\x02\x02\x00", []api.Run{r(0, 3), r(0, 3), r(0, 1)})
}

// Promise 8.1, and the others: no run at all.
func TestNoRun(t *testing.T) {
	for i, l := range [][]api.Run{nil, {}, ones(3)[:0], ones(200)[:0]} {
		put(t, "none", l, "", i)
		same(t, "Many", Many(l), 0, i)
		for _, from := range froms {
			same(t, "Each", len(each(from, l)), 0, i, from)
			same(t, "At", At(from, l, from), 3, i, from)
			same(t, "At, another one", At(from, l, 0), 3, i, from)
		}
	}
	got(t, "none", "", nil)
	for i, list := range [][]int{nil, {}, row(0, 3)[:0]} {
		same(t, "Of", len(Of(list)), 0, i)
	}
}

// Promise 8.1: each State with each Many, as one byte, and each byte as one run.
func TestEachByte(t *testing.T) {
	for _, state := range states {
		for many := 1; many <= 64; many++ {
			b := bytes(64*state + many - 1)
			put(t, "one run", []api.Run{r(state, many)}, b, state, many)
			got(t, "one byte", b, []api.Run{r(state, many)}, state, many)
		}
	}
	for b := range 256 {
		s := bytes(b)
		if b >= 128 && b < 192 {
			fails(t, "of State 2", s, api.ErrKind, b)
			fails(t, "of State 2, ahead", s+"\x00", api.ErrKind, b)
			fails(t, "of State 2, behind", "\x00\xc1"+s, api.ErrKind, b)
			continue
		}
		l, e := Get(s)
		same(t, "error", e, api.OK, b)
		put(t, "again", l, s, b)
	}
}

// Promise 8.1: other states are none, wherever they stand, and however many packets are said to be of them.
func TestNoState(t *testing.T) {
	for _, state := range noStates {
		for _, many := range append([]int{1, 2, 63, 64}, noManys...) {
			o := r(state, many)
			for i, l := range [][]api.Run{{o}, {r(0, 1), o}, {o, r(0, 1)}, {r(3, 5), o, r(1, 2)}, {o, o}, {o, r(0, 65)}, append(ones(129), o)} {
				wrong(t, "no State", l, api.ErrKind, state, many, i)
			}
		}
	}
}

// Promise 8.1: a run has 1 to 64 packets.
func TestNoMany(t *testing.T) {
	for _, state := range states {
		for _, many := range noManys {
			o := r(state, many)
			for i, l := range [][]api.Run{{o}, {r(0, 1), o}, {o, r(0, 1)}, {r(3, 5), o, r(1, 2)}, {o, o}, {o, r(2, 1)}, append(ones(129), o)} {
				wrong(t, "no Many", l, api.ErrRange, state, many, i)
			}
		}
		wrong(t, "the least", []api.Run{r(state, 1)}, api.OK, state)
		wrong(t, "the greatest", []api.Run{r(state, 64)}, api.OK, state)
	}
}

// Promise 8.1: all runs together tell up to 128 packets, and no more.
func TestMaxVector(t *testing.T) {
	put(t, "128 runs", ones(128), strings.Repeat("\x00", 128))
	wrong(t, "129 runs", ones(129), api.ErrLong)
	wrong(t, "very many runs", ones(1<<16), api.ErrLong)
	wrong(t, "very many packets", slices.Repeat([]api.Run{r(3, 64)}, 1<<12), api.ErrLong)
	got(t, "128 bytes", strings.Repeat("\x00", 128), ones(128))
	fails(t, "129 bytes", strings.Repeat("\x00", 129), api.ErrLong)
	fails(t, "very many bytes", strings.Repeat("\xff", 1<<16), api.ErrLong)
	for _, state := range states {
		for many := 1; many < 64; many++ {
			l := []api.Run{r(state, many), r(0, 64), r(3, 64-many)}
			put(t, "128 in all", l, otherPut(l), state, many)
			got(t, "128 in all, got", otherPut(l), l, state, many)
			for i, more := range [][]api.Run{join(l, ones(1)), join(ones(1), l), {l[0], l[1], r(3, 65-many)}, {r(state, many+1), l[1], l[2]}} {
				wrong(t, "one more", more, api.ErrLong, state, many, i)
				fails(t, "one more, got", otherPut(more), api.ErrLong, state, many, i)
			}
		}
	}
	got(t, "two of 64", "\x3f\xff", []api.Run{r(0, 64), r(3, 64)})
	fails(t, "two of 64 and one", "\x3f\x3f\x00", api.ErrLong)
	fails(t, "three of 64", "\x7f\x7f\x7f", api.ErrLong)
}

// Promise 8.1: of several errors run by run the first one's, then that of all.
func TestWhichError(t *testing.T) {
	kind, many, both := r(2, 1), r(0, 65), r(4, 0)
	cases := []struct {
		what string
		l    []api.Run
		want api.Errno
	}{
		{"both of one run", []api.Run{both}, api.ErrKind},
		{"State 2 of Many 0", []api.Run{r(2, 0)}, api.ErrKind},
		{"State below 0 of Many below 0", []api.Run{r(-1, -1)}, api.ErrKind},
		{"State ahead", []api.Run{kind, many}, api.ErrKind},
		{"Many ahead", []api.Run{many, kind}, api.ErrRange},
		{"Many ahead of both", []api.Run{r(3, 0), both}, api.ErrRange},
		{"both ahead of Many", []api.Run{both, many}, api.ErrKind},
		{"State ahead, others between", []api.Run{r(0, 1), kind, r(1, 5), many}, api.ErrKind},
		{"Many ahead, others between", []api.Run{r(0, 1), many, r(1, 5), kind}, api.ErrRange},
		{"State behind too many", append(ones(129), kind), api.ErrKind},
		{"Many behind too many", append(ones(129), many), api.ErrRange},
		{"Many 0 behind too many", append(ones(129), r(1, 0)), api.ErrRange},
		{"Many ahead of State, behind too many", append(ones(129), many, kind), api.ErrRange},
		{"State ahead of Many, behind too many", append(ones(129), kind, many), api.ErrKind},
		{"State ahead of too many", append([]api.Run{kind}, ones(200)...), api.ErrKind},
		{"Many ahead of too many", append([]api.Run{many}, ones(200)...), api.ErrRange},
		{"a Many by which all are too many", []api.Run{r(0, 64), r(0, 129)}, api.ErrRange},
		{"a Many by which all are not too many", []api.Run{r(0, 64), r(0, 64), r(0, 64), r(0, -64)}, api.ErrRange},
		{"too many alone", []api.Run{r(0, 64), r(1, 64), r(3, 1)}, api.ErrLong},
	}
	for _, c := range cases {
		wrong(t, c.what, c.l, c.want)
	}
	fails(t, "State 2 behind too many", strings.Repeat("\x3f", 9)+"\x80", api.ErrKind)
	fails(t, "State 2 ahead of too many", "\xbf"+strings.Repeat("\x3f", 9), api.ErrKind)
	fails(t, "State 2 by which all are too many", "\x3f\x3f\x80", api.ErrKind)
	fails(t, "State 2 far behind too many", strings.Repeat("\xff", 5000)+"\x93", api.ErrKind)
}

// Promises 8.1, 8.2 and 8.3: of all lists of up to three of some runs, all is as somebody else has it.
func TestRunsAsOthers(t *testing.T) {
	some := []api.Run{r(0, 1), r(0, 2), r(1, 1), r(3, 3), r(0, 63), r(0, 64), r(3, 64), r(1, 65), r(3, 0), r(2, 1), r(0, -1), r(4, 70)}
	count := 0
	var grow func(l []api.Run)
	grow = func(l []api.Run) {
		count++
		whole(t, l, l)
		if len(l) < 3 {
			for _, one := range some {
				grow(append(slices.Clone(l), one))
			}
		}
	}
	grow(nil)
	same(t, "lists", count, 1+12+12*12+12*12*12)
}

// Promise 8.1: of bytes of all values, in any order.
func TestGetAsOthers(t *testing.T) {
	asOthers := func(s string) {
		t.Helper()
		want, e := otherGet(s)
		if e != api.OK {
			fails(t, "Get", s, e, s)
			return
		}
		got(t, "Get", s, want, s)
		put(t, "Put of Get", want, s, s)
	}
	for b := range 256 {
		for c := range 256 {
			asOthers(bytes(b, c))
			asOthers(bytes(b, 0x40, c))
		}
	}
	fine := 0
	for seed := range uint32(6000) {
		b := drawn(seed, int(seed)%60)
		asOthers(string(b))
		// Without State 2, and with fewer packets, so that more of them are runs.
		for i := range b {
			if b[i]&0xc0 == 0x80 {
				b[i] ^= 0x40
			}
		}
		asOthers(string(b))
		for i := range b {
			b[i] &= 0xc0 | byte(1<<(seed%7)-1)
		}
		asOthers(string(b))
		if _, e := otherGet(string(b)); e == api.OK {
			fine++
		}
	}
	if fine < 2000 {
		t.Errorf("only %d texts were runs", fine)
	}
}

// Promise 8.2: as few runs as may be, in order.
func TestOf(t *testing.T) {
	cases := []struct {
		list []int
		want []api.Run
	}{
		{[]int{0}, []api.Run{r(0, 1)}},
		{[]int{1}, []api.Run{r(1, 1)}},
		{[]int{3}, []api.Run{r(3, 1)}},
		{[]int{0, 0, 0}, []api.Run{r(0, 3)}},
		{[]int{0, 1, 3}, []api.Run{r(0, 1), r(1, 1), r(3, 1)}},
		{[]int{3, 1, 0}, []api.Run{r(3, 1), r(1, 1), r(0, 1)}},
		{[]int{0, 3, 0, 3, 3, 0}, []api.Run{r(0, 1), r(3, 1), r(0, 1), r(3, 2), r(0, 1)}},
		{[]int{1, 1, 3, 3, 3, 1}, []api.Run{r(1, 2), r(3, 3), r(1, 1)}},
		{join(row(3, 70), row(0, 2), row(3, 1)), []api.Run{r(3, 64), r(3, 6), r(0, 2), r(3, 1)}},
	}
	for _, c := range cases {
		alike(t, "Of", Of(c.list), c.want, c.list)
	}
}

// Promise 8.2: of equal states each run but the last has 64.
func TestOfMany(t *testing.T) {
	for _, state := range states {
		edges := map[int][]api.Run{
			63:  {r(state, 63)},
			64:  {r(state, 64)},
			65:  {r(state, 64), r(state, 1)},
			127: {r(state, 64), r(state, 63)},
			128: {r(state, 64), r(state, 64)},
			129: {r(state, 64), r(state, 64), r(state, 1)},
			192: {r(state, 64), r(state, 64), r(state, 64)},
			193: {r(state, 64), r(state, 64), r(state, 64), r(state, 1)},
		}
		for many, want := range edges {
			alike(t, "in a row", Of(row(state, many)), want, state, many)
			other := states[(slices.Index(states, state)+1)%3]
			list := join([]int{other}, row(state, many), row(other, 2))
			alike(t, "in a row, between others", Of(list), join([]api.Run{r(other, 1)}, want, []api.Run{r(other, 2)}), state, many)
		}
		for many := range 400 {
			l := Of(row(state, many))
			same(t, "as few as may be", len(l), (many+63)/64, state, many)
			same(t, "all of them", Many(l), many, state, many)
		}
	}
	same(t, "very many", len(Of(row(1, 1<<20))), 1<<14)
	alike(t, "64, another one, and 64", Of(join(row(0, 64), row(3, 1), row(0, 64))), []api.Run{r(0, 64), r(3, 1), r(0, 64)})
	alike(t, "64 and another one's 64", Of(join(row(0, 64), row(1, 64), row(3, 64))), []api.Run{r(0, 64), r(1, 64), r(3, 64)})
}

// Promise 8.2: each state that is none of the three is Not, also beside one that is.
func TestOfNoState(t *testing.T) {
	for _, state := range noStates {
		alike(t, "alone", Of([]int{state}), []api.Run{r(3, 1)}, state)
		alike(t, "between others", Of([]int{0, state, 1}), []api.Run{r(0, 1), r(3, 1), r(1, 1)}, state)
		alike(t, "beside Not", Of([]int{3, state, 3, state}), []api.Run{r(3, 4)}, state)
		alike(t, "ahead of Not", Of([]int{state, 3, 0}), []api.Run{r(3, 2), r(0, 1)}, state)
		alike(t, "in a row", Of(row(state, 65)), []api.Run{r(3, 64), r(3, 1)}, state)
		for _, other := range noStates {
			alike(t, "two of them", Of([]int{state, other}), []api.Run{r(3, 2)}, state, other)
		}
	}
	alike(t, "all of them", Of(noStates), []api.Run{r(3, len(noStates))})
}

// Promises 8.2 and 8.4: of all lists of up to six states, and of drawn ones, the runs are as somebody else has them, and tell these states.
func TestOfAsOthers(t *testing.T) {
	check := func(list []int) {
		t.Helper()
		before := slices.Clone(list)
		l := Of(list)
		alike(t, "runs", l, otherOf(list), list)
		alike(t, "states", otherStates(l), asNot(list), list)
		alike(t, "list", list, before)
		same(t, "Many", Many(l), len(list), list)
		i := 0
		for seq, state := range Each(7, l) {
			same(t, "told number", seq, in48(7, i), list)
			same(t, "told state", state, asNot(list)[i], list)
			i++
		}
		same(t, "told", i, len(list), list)
	}
	for size := range 7 {
		count := 1
		for range size {
			count *= 5
		}
		for n := range count {
			list := make([]int, size)
			for i := range list {
				list[i] = n % 5
				n /= 5
			}
			check(list)
		}
	}
	for seed := range uint32(2000) {
		var list []int
		for _, b := range drawn(seed, int(seed)%12) {
			// Rows of all lengths about 64 and 128, and short ones.
			many := int(b>>2) * (1 + int(seed)%3)
			if seed%2 == 0 {
				many %= 5
			}
			list = append(list, row(int(b&3), many)...)
		}
		check(list)
	}
}

// Promise 8.2: how many packets runs tell, each Many held from 0 to 64, whatever their states are.
func TestMany(t *testing.T) {
	cases := []struct {
		l    []api.Run
		want int
	}{
		{[]api.Run{r(0, 1)}, 1}, {[]api.Run{r(3, 64)}, 64}, {[]api.Run{r(0, 2), r(3, 1)}, 3}, {[]api.Run{r(0, 64), r(1, 64)}, 128},
		{[]api.Run{r(0, 64), r(1, 64), r(3, 64)}, 192}, {ones(129), 129}, {ones(1 << 16), 1 << 16}, {slices.Repeat([]api.Run{r(3, 65)}, 1<<16), 1 << 22},
		{[]api.Run{r(0, 0)}, 0}, {[]api.Run{r(0, -1)}, 0}, {[]api.Run{r(0, 65)}, 64}, {[]api.Run{r(0, 63)}, 63},
		{[]api.Run{r(0, 10), r(0, -10)}, 10}, {[]api.Run{r(0, -10), r(0, 10)}, 10}, {[]api.Run{r(0, 100), r(0, -36)}, 64}, {[]api.Run{r(0, 100), r(3, 100)}, 128},
		{[]api.Run{r(0, math.MinInt)}, 0}, {[]api.Run{r(0, math.MaxInt)}, 64}, {[]api.Run{r(0, math.MinInt), r(0, math.MaxInt), r(0, 5)}, 69},
		{[]api.Run{r(0, math.MaxInt), r(0, math.MaxInt)}, 128}, {[]api.Run{r(0, math.MinInt), r(0, math.MinInt)}, 0},
		{[]api.Run{r(2, 5), r(-1, 6), r(math.MinInt, 7), r(math.MaxInt, 8)}, 26},
	}
	for i, c := range cases {
		same(t, "Many", Many(c.l), c.want, i)
	}
	for many := -70; many < 140; many++ {
		for _, state := range append(slices.Clone(states), noStates...) {
			want := many
			if many < 0 {
				want = 0
			}
			if many > 64 {
				want = 64
			}
			same(t, "Many of one", Many([]api.Run{r(state, many)}), want, state, many)
			same(t, "Many of three", Many([]api.Run{r(0, 3), r(state, many), r(1, 80)}), want+67, state, many)
			same(t, "told", len(each(1, []api.Run{r(state, many)})), want, state, many)
		}
	}
}

// Promise 8.3: from first, then one less each, round.
func TestEach(t *testing.T) {
	l := []api.Run{r(0, 2), r(1, 1), r(3, 2)}
	cases := []struct {
		from int
		want []int
	}{
		{100, []int{100, 99, 98, 97, 96}},
		{4, []int{4, 3, 2, 1, 0}},
		{3, []int{3, 2, 1, 0, last}},
		{2, []int{2, 1, 0, last, last - 1}},
		{1, []int{1, 0, last, last - 1, last - 2}},
		{0, []int{0, last, last - 1, last - 2, last - 3}},
		{last, []int{last, last - 1, last - 2, last - 3, last - 4}},
		{all, []int{0, last, last - 1, last - 2, last - 3}},
		{all + 2, []int{2, 1, 0, last, last - 1}},
		{5*all + 9, []int{9, 8, 7, 6, 5}},
		{-1, []int{last, last - 1, last - 2, last - 3, last - 4}},
		{-all, []int{0, last, last - 1, last - 2, last - 3}},
		{-all + 3, []int{3, 2, 1, 0, last}},
		{math.MaxInt, []int{last, last - 1, last - 2, last - 3, last - 4}},
		{math.MinInt, []int{0, last, last - 1, last - 2, last - 3}},
		{math.MinInt + 1, []int{1, 0, last, last - 1, last - 2}},
	}
	for _, c := range cases {
		var want []packet
		for i, seq := range c.want {
			want = append(want, packet{seq, []int{0, 0, 1, 3, 3}[i]})
		}
		alike(t, "Each", each(c.from, l), want, c.from)
	}
}

// Promise 8.3: each packet of each run, wherever numbers begin, and whatever the runs are.
func TestEachAsOthers(t *testing.T) {
	lists := [][]api.Run{
		{r(0, 1)}, {r(3, 64)}, {r(0, 64), r(1, 64)}, {r(0, 65)}, {r(0, 0)}, {r(0, -1)}, {r(0, 0), r(1, 2)}, {r(1, 2), r(3, -5), r(0, 1)},
		{r(0, math.MinInt), r(1, 1), r(3, math.MaxInt), r(0, 2)}, {r(0, 3), r(0, 3)}, {r(2, 2), r(-1, 1), r(0, 1)}, {r(4, 3), r(math.MinInt, 1), r(math.MaxInt, 1)},
		ones(129), slices.Repeat([]api.Run{r(3, 64), r(0, 1)}, 100),
	}
	for i, l := range lists {
		for _, from := range froms {
			alike(t, "Each", each(from, l), otherEach(from, l), i, from)
		}
	}
}

// Promise 8.3: as long as yield answers true: stopped behind each packet, it tells no further one.
func TestEachStops(t *testing.T) {
	for i, l := range [][]api.Run{{r(0, 1)}, {r(0, 3)}, {r(0, 2), r(3, 2), r(1, 1)}, {r(0, 0), r(1, 1), r(3, -1), r(0, 2)}, {r(3, 64), r(0, 64)}, {r(3, 70), r(0, 1), r(2, 1)}} {
		for _, from := range []int{0, 1, 9, last, -3} {
			want := otherEach(from, l)
			for stop := 1; stop <= len(want)+1; stop++ {
				var list []packet
				Each(from, l)(func(seq, state int) bool {
					list = append(list, packet{seq, state})
					return len(list) != stop
				})
				alike(t, "stopped", list, want[:min(stop, len(want))], i, from, stop)
			}
			var list []packet
			for seq, state := range Each(from, l) {
				list = append(list, packet{seq, state})
				break
			}
			alike(t, "broken off", list, want[:1], i, from)
		}
	}
}

// Promise 8.3: an iterator may be gone through again, within itself, and beside others, from the beginning on each time.
func TestEachAgain(t *testing.T) {
	l := []api.Run{r(0, 2), r(3, 1)}
	it := Each(1, l)
	want := []packet{{1, 0}, {0, 0}, {last, 3}}
	gone := func() []packet {
		var list []packet
		for seq, state := range it {
			list = append(list, packet{seq, state})
		}
		return list
	}
	it(func(int, int) bool { return false })
	for range 3 {
		var list []packet
		for seq, state := range it {
			list = append(list, packet{seq, state})
			alike(t, "within", gone(), want)
		}
		alike(t, "again", list, want)
	}
	other := Each(50, []api.Run{r(1, 1)})
	for seq, state := range other {
		same(t, "another one", packet{seq, state}, packet{50, 1})
		alike(t, "beside another one", gone(), want)
	}
	func() {
		defer func() { same(t, "panic", recover(), any("stop")) }()
		it(func(int, int) bool { panic("stop") })
	}()
	alike(t, "behind a panic", gone(), want)
}

// Promise 8.3: the State of the packet of a number; Not, if it isn't told.
func TestAt(t *testing.T) {
	l := []api.Run{r(0, 2), r(1, 1), r(3, 1), r(0, 1)}
	want := map[int]int{11: 3, 10: 0, 9: 0, 8: 1, 7: 3, 6: 0, 5: 3, 4: 3, 0: 3, -1: 3, last: 3, all: 3, 10 + all/2: 3}
	for seq, state := range want {
		same(t, "At", At(10, l, seq), state, seq)
		for _, more := range []int{all, -all, 7 * all, -7 * all, 32767 * all, -32768 * all} {
			same(t, "At, a number out of 48 bits", At(10, l, seq+more), state, seq, more)
			same(t, "At, from out of 48 bits", At(10+more, l, seq), state, seq, more)
			same(t, "At, both", At(10+more, l, seq+more), state, seq, more)
			same(t, "At, apart", At(10+more, l, seq-more), state, seq, more)
		}
	}
	round := map[int]int{2: 3, 1: 0, 0: 0, last: 1, last - 1: 3, last - 2: 0, last - 3: 3, -1: 1, -2: 3, -3: 0, -4: 3, all: 0, all + 1: 0, all + 2: 3}
	for seq, state := range round {
		same(t, "At, round", At(1, l, seq), state, seq)
	}
	same(t, "from the greatest int", At(math.MaxInt, l, last-2), 1)
	same(t, "the greatest int", At(last, l, math.MaxInt-2), 1)
	same(t, "from the least int", At(math.MinInt, l, -2), 1)
	same(t, "the least int", At(2, l, math.MinInt), 1)
	same(t, "both of them", At(math.MinInt, l, math.MaxInt), 0)
	same(t, "both of them, not told", At(math.MaxInt, l, math.MinInt), 3)
}

// Promise 8.3: At is what Each tells, of each number about what is told.
func TestAtAsEach(t *testing.T) {
	for i, l := range [][]api.Run{
		{r(0, 1)}, {r(1, 64)}, {r(0, 64), r(1, 64)}, {r(1, 65)}, {r(1, 0)}, {r(1, -1), r(0, 1)}, {r(0, math.MaxInt), r(1, math.MinInt), r(1, 1)},
		{r(1, 3), r(3, 64), r(0, 2), r(3, 1), r(1, 70)}, {r(2, 2), r(0, 1), r(-1, 1), r(4, 1)}, slices.Repeat([]api.Run{r(0, 64), r(1, 64), r(3, 3)}, 5),
	} {
		for _, from := range froms {
			told := map[int]int{}
			for _, p := range otherEach(from, l) {
				told[p.seq] = p.state
			}
			for less := -70; less < 200; less++ {
				seq := in48(from, less)
				want, ok := told[seq]
				if !ok {
					want = 3
				}
				same(t, "At", At(from, l, seq), want, i, from, less)
				same(t, "At, below 0", At(from, l, seq-all), want, i, from, less)
			}
		}
	}
}

// Promise 8.4: Get of Put are the runs.
func TestGetOfPut(t *testing.T) {
	count := 0
	for seed := range uint32(5000) {
		var l []api.Run
		b := drawn(seed, 60)
		for i := 0; i < int(seed%30); i++ {
			l = append(l, r(states[int(b[2*i])%3], int(b[2*i+1])%(1+int(seed)%64)+1))
		}
		s, e := Put(l)
		same(t, "error", e, otherCheck(l), seed)
		if e != api.OK {
			continue
		}
		count++
		got(t, "Get of Put", s, l, seed)
		same(t, "one byte a run", len(s), len(l), seed)
		again, _ := Get(s)
		put(t, "Put of Get of Put", again, s, seed)
	}
	if count < 1000 {
		t.Errorf("only %d lists were put", count)
	}
}

// Promise 8.4: states go there and back, as runs and as bytes.
func TestStatesThereAndBack(t *testing.T) {
	for seed := range uint32(2000) {
		var list []int
		for _, b := range drawn(seed, int(seed)%129) {
			list = append(list, []int{0, 0, 0, 3, 3, 1, 0, 3}[b>>5])
		}
		if seed%2 == 0 {
			slices.Sort(list)
		}
		s, e := Put(Of(list))
		same(t, "error", e, api.OK, seed)
		l, e := Get(s)
		same(t, "error of Get", e, api.OK, seed)
		alike(t, "states", otherStates(l), list, seed)
		for i, state := range list {
			same(t, "At", At(40, l, 40-i), state, seed, i)
		}
	}
}

// The rules: lists and texts that are handed in stay as they are, also behind where they end, and nothing of them is kept.
func TestKeepsNothing(t *testing.T) {
	spare := []api.Run{r(0, 2), r(3, 70), r(2, -1), r(1, 9)}
	l, before := spare[:3], slices.Clone(spare)
	it := Each(5, l)
	want := otherEach(5, l)
	Check(l)
	Put(l)
	Many(l)
	At(5, l, 3)
	gone := func() []packet {
		var list []packet
		for seq, state := range it {
			list = append(list, packet{seq, state})
		}
		return list
	}
	alike(t, "told", gone(), want)
	alike(t, "list", spare, before)
	clear(spare)
	alike(t, "told, when the list is another one", gone(), want)
	first := gone()
	for i := range first {
		spare[i%4] = r(1, i)
		same(t, "told on", gone()[i], want[i], i)
	}

	list := []int{0, 2, 3, 1, 7}
	l = Of(list[:3])
	other := Of(list[:3])
	alike(t, "states", list, []int{0, 2, 3, 1, 7})
	clear(list)
	l[0] = r(1, 50)
	alike(t, "runs stay", other, []api.Run{r(0, 1), r(3, 2)})

	b := []byte("\x00\xc1\x40")
	text := unsafe.String(&b[0], len(b))
	l, _ = Get(text)
	other, _ = Get(text)
	same(t, "text", text, "\x00\xc1\x40")
	clear(b)
	l[0] = r(1, 50)
	alike(t, "runs that were got stay", other, []api.Run{r(0, 1), r(3, 2), r(1, 1)})
}

// The rules: while packets are told, what becomes of the caller's list changes nothing.
func TestEachWhileChanged(t *testing.T) {
	l := []api.Run{r(0, 2), r(3, 2), r(1, 1)}
	want := otherEach(8, l)
	var list []packet
	for seq, state := range Each(8, l) {
		list = append(list, packet{seq, state})
		clear(l)
	}
	alike(t, "told", list, want)
}

// P1: whatever is asked, nothing panics, and all ends.
func TestWrongInputs(t *testing.T) {
	Each(0, nil)(nil)
	Each(math.MinInt, []api.Run{r(0, 5)})(nil)
	numbers := append(append(slices.Clone(noStates), noManys...), 0, 1, 3, 64)
	for _, state := range numbers {
		for _, many := range numbers {
			l := []api.Run{r(state, many), r(0, 2), r(many, state)}
			whole(t, l, l)
			for _, from := range froms {
				want := 3
				if told := otherEach(from, l); len(told) > 0 {
					want = told[0].state
				}
				same(t, "At", At(from, l, from), want, from, l)
			}
		}
	}
	for _, from := range froms {
		for _, seq := range froms {
			want := 3
			if in48(from, 0) == in48(seq, 0) {
				want = 1
			}
			same(t, "At, alone", At(from, []api.Run{r(1, 1)}, seq), want, from, seq)
		}
	}
}

// P1: answers hang on nothing but what was given, whoever asks at the same time.
func TestAtOnce(t *testing.T) {
	it := Each(3, []api.Run{r(0, 3), r(3, 2)})
	done := make(chan bool)
	for i := range 8 {
		go func() {
			right := true
			for many := range 60 {
				list := join(row(states[i%3], many+1), row(states[(i+1)%3], 60))
				l := Of(list)
				s, e := Put(l)
				again, f := Get(s)
				told := 0
				for range it {
					told++
				}
				right = right && e == api.OK && f == api.OK && slices.Equal(again, l) && slices.Equal(otherStates(l), list) && told == 5
			}
			done <- right
		}()
	}
	for i := range 8 {
		same(t, "at once", <-done, true, i)
	}
}
