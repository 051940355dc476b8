package inet

import (
	"math"
	"math/big"
	"slices"
	"strings"
	"testing"
)

// all is the greatest number of 16 bits, written out: no test takes it from what it tests.
const all = 65535

// edges are numbers at which something turns, of 16 bits and of more, and below 0.
var edges = []int{
	0, 1, 2, 254, 255, 256, 257, 0x1234, 0x7ffe, 0x7fff, 0x8000, 0x8001, 0xabcd, all - 256, all - 2, all - 1, all,
	all + 1, all + 2, 2*all - 1, 2 * all, 2*all + 1, 2*all + 2, 1<<31 - 1, 1 << 31, 1<<32 - 1, 1 << 32, 1<<48 + 77,
	-1, -2, -255, -256, -all + 1, -all, -all - 1, -all - 2, -1 << 31, -1<<32 - 5,
	math.MaxInt, math.MaxInt - 1, math.MaxInt - all, math.MinInt, math.MinInt + 1, math.MinInt + all,
}

func same[V comparable](t *testing.T, what string, got, want V, args ...any) {
	t.Helper()
	if got != want {
		t.Errorf("%s %v: got %#v, want %#v", what, args, got, want)
	}
}

// modulo is a number modulo 65536, never below 0.
func modulo(n int) int {
	return int(new(big.Int).Mod(big.NewInt(int64(n)), big.NewInt(all+1)).Int64())
}

// added is what numbers of 16 bits come to with all carries added, found without any carry: it is 0 of nothing but 0, and 1 to 65535 of all else.
func added(total int) int {
	if total == 0 {
		return 0
	}
	return (total-1)%all + 1
}

// words are the numbers of two bytes that parts are, each part with a byte 0 behind it if it is odd.
func words(parts ...string) []int {
	var list []int
	for _, part := range parts {
		if len(part)%2 == 1 {
			part += "\x00"
		}
		for i := 0; i < len(part); i += 2 {
			list = append(list, 256*int(part[i])+int(part[i+1]))
		}
	}
	return list
}

// summed is what Sum ought to be of numbers.
func summed(numbers []int) int {
	total := 0
	for _, n := range numbers {
		total += n
	}
	return all - added(total)
}

// text is the bytes of numbers of 16 bits.
func text(numbers ...int) string {
	var b []byte
	for _, n := range numbers {
		b = append(b, byte(n/256), byte(n%256))
	}
	return string(b)
}

// drawn is so many bytes, ever the same ones of one seed.
func drawn(seed uint32, many int) string {
	b := make([]byte, many)
	for i := range b {
		seed = seed*1664525 + 1013904223
		b[i] = byte(seed >> 24)
	}
	return string(b)
}

// Promise 4.1: numbers of two bytes, the higher one ahead, are added, and all bits turned.
func TestSum(t *testing.T) {
	same(t, "the chapter's", Sum("\x00\x01\xf2\x03\xf4\xf5\xf6\xf7"), 0x220d)
	cases := []struct {
		part string
		sum  int
	}{
		{"", 65535}, {"\x00", 65535}, {"\x00\x00", 65535}, {"\x00\x01", 65534}, {"\x01\x00", 65279}, {"\x01", 65279},
		{"\xff\xff", 0}, {"\xff\xfe", 1}, {"\xff", 255}, {"\x00\xff", 65280}, {"\x12\x34", 0xedcb}, {"\x12\x34\x56", 0x97cb},
		{"\x12\x34\x56\x78", 0x9753}, {"\x00\x00\x00\x00\x00\x07", 65528}, {"\x80\x00\x7f\xff", 0}, {"\x80\x00\x7f\xfe", 1},
		{"\xc3\xa9", 0x3c56}, // bytes, and not the rune that they are
	}
	for _, c := range cases {
		same(t, "Sum", Sum(c.part), c.sum, c.part)
	}
}

// Promise 4.1: what is above 65535 is added at the lower end.
func TestSumCarries(t *testing.T) {
	same(t, "one carry", Sum("\xff\xff\x00\x01"), 65534)
	same(t, "one carry, of parts", Sum("\xff\xff", "\x00\x01"), 65534)
	same(t, "one carry of the highest bits", Sum("\x80\x00\x80\x00"), 65534)
	same(t, "one carry and more", Sum("\x80\x03\x80\x01"), 65530)
	same(t, "two carries", Sum("\xff\xff\xff\xff\x00\x02"), 65533)
	same(t, "a carry to just 65535", Sum("\xff\xff\xff\xff"), 0)
	same(t, "255 carries", Sum(strings.Repeat("\xff\xff", 256)), 0)
}

// Promise 4.1: carries are added till nothing is above 65535: those that carries leave, too.
func TestSumCarriesAgain(t *testing.T) {
	same(t, "1ffff, 10000, 1", Sum("\xff\xff\xff\xff\x00\x01"), 65534)
	same(t, "2fffe, 10000, 1", Sum("\xff\xff\xff\xff\xff\xff\x00\x01"), 65534)
	same(t, "2ffff, 10001, 2", Sum("\xff\xff\xff\xff\xff\xff\x00\x02"), 65533)
	// 2^32 and 65535 in all: what has no more than 32 bits loses it.
	long := strings.Repeat("\xff\xff", 65538) + "\x00\x01"
	same(t, "10000ffff, 1ffff, 10000, 1", Sum(long), 65534)
	same(t, "the same, in two parts", Sum(long[:70000], long[70000:]), 65534)
	same(t, "twice", Sum(long, long), 65533)
	// Parts that come to 65535 each, and not to it together.
	same(t, "carries of each part, and of all", Sum(strings.Repeat("\xff\xff", 300), strings.Repeat("\xff", 601), "\x00\xff\x00\x01"), 65534)
}

// Promise 4.1: of no part, and of parts that are empty, nothing is added.
func TestSumOfNothing(t *testing.T) {
	same(t, "no part", Sum(), 65535)
	same(t, "no list", Sum([]string(nil)...), 65535)
	same(t, "an empty list", Sum([]string{}...), 65535)
	same(t, "an empty part", Sum(""), 65535)
	same(t, "empty parts", Sum("", "", ""), 65535)
	same(t, "empty ones in front, between and behind", Sum("", "\x12\x34", "", "", "\x56\x78", ""), 0x9753)
	same(t, "an empty one behind an odd one", Sum("\x12", "", "\x34"), all-0x4600)
}

// Promise 4.1: each part of an odd number of bytes has a byte 0 behind it, wherever it stands.
func TestSumOddParts(t *testing.T) {
	cases := []struct {
		sum   int
		parts []string
	}{
		{all - 0x0304, []string{"\x01", "\x02\x04"}},                     // in front
		{all - 0x0604, []string{"\x02\x04", "\x01", "\x03\x00"}},         // in the middle
		{all - 0x0304, []string{"\x02\x04", "\x01"}},                     // last
		{all - 0x0300, []string{"\x01", "\x02"}},                         // each
		{all - 0x0600, []string{"\x01", "\x02", "\x03"}},                 // three of them
		{all - 0x0902, []string{"\x01\x02\x03", "\x05"}},                 // of three bytes
		{all - 0x0907, []string{"\x01\x02\x03", "\x05\x05"}},             // and an even one behind
		{all - 0x0402, []string{"\xff", "\xff", "\x05\xff", "\x00\x01"}}, // with carries: 0x20400 in all
	}
	for _, c := range cases {
		same(t, "Sum", Sum(c.parts...), c.sum, c.parts)
	}
}

// Promise 4.1: a cut at an even place changes nothing, and one at an odd place puts a byte 0 there.
func TestSumCutOtherwise(t *testing.T) {
	whole := drawn(7, 40)
	for i := 0; i <= len(whole); i++ {
		same(t, "in two", Sum(whole[:i], whole[i:]), summed(words(whole[:i], whole[i:])), i)
		if i%2 == 0 {
			same(t, "in two, as in one", Sum(whole[:i], whole[i:]), Sum(whole), i)
		} else {
			same(t, "in two, as with the byte 0", Sum(whole[:i], whole[i:]), Sum(whole[:i]+"\x00"+whole[i:]), i)
		}
		for j := i; j <= len(whole); j++ {
			same(t, "in three", Sum(whole[:i], whole[i:j], whole[j:]), summed(words(whole[:i], whole[i:j], whole[j:])), i, j)
		}
	}
	same(t, "by each byte", Sum(strings.Split("\x01\x02\x03\x04", "")...), all-0x0a00)
	same(t, "an odd cut is not the same", Sum("\x12", "\x34\x56\x78"), all-(0x1200+0x3456+0x7800))
}

// Promise 4.1: of bytes that are all 0 all bits are turned, and of ones that are all 255 none is left.
func TestSumOfAllAlike(t *testing.T) {
	for _, size := range []int{1, 2, 3, 4, 255, 256, 257, 65535, 65536, 131070, 131072, 131074, 200001} {
		same(t, "all 0", Sum(strings.Repeat("\x00", size)), 65535, size)
		full := strings.Repeat("\xff", size)
		if size%2 == 0 {
			same(t, "all 255", Sum(full), 0, size)
		}
		same(t, "all 255, as words", Sum(full), summed(words(full)), size)
	}
	same(t, "all 255, odd", Sum("\xff\xff\xff"), 255)
	same(t, "all 255, in parts", Sum("\xff\xff", "\xff\xff\xff\xff", "\xff\xff"), 0)
	same(t, "all 0, in parts", Sum("\x00", "\x00\x00\x00", "", "\x00\x00"), 65535)
}

// Promise 4.1: parts of all sizes, as many as there are.
func TestSumOfManyParts(t *testing.T) {
	var parts []string
	for many := range 70 {
		same(t, "many parts", Sum(parts...), summed(words(parts...)), many)
		parts = append(parts, drawn(uint32(many), many*many%23))
	}
	parts = nil
	for range 3000 {
		parts = append(parts, "\xfe\xff\xfd")
	}
	same(t, "3000 parts", Sum(parts...), summed(words(parts...)))
}

// Promise 4.1, and the rules: parts that are handed in stay as they are, and nothing is kept of them.
func TestSumKeepsNothing(t *testing.T) {
	parts := []string{"\x01", "", "\x02\x03\x04", "\xff\xff"}
	before := slices.Clone(parts)
	sum := Sum(parts...)
	if !slices.Equal(parts, before) {
		t.Errorf("parts: got %q, want %q", parts, before)
	}
	Sum("others")
	same(t, "once more", Sum(parts...), sum)
}

// Promise 4.2: both addresses in 4 bytes, 0, 33, and the size in 2.
func TestPseudo(t *testing.T) {
	cases := []struct {
		from, to, size int
		want           string
	}{
		{0, 0, 0, "\x00\x00\x00\x00\x00\x00\x00\x00\x00\x21\x00\x00"},
		{1, 2, 3, "\x00\x00\x00\x01\x00\x00\x00\x02\x00\x21\x00\x03"},
		{0x01020304, 0x05060708, 0x090a, "\x01\x02\x03\x04\x05\x06\x07\x08\x00\x21\x09\x0a"},
		{1<<32 - 1, 0, 700, "\xff\xff\xff\xff\x00\x00\x00\x00\x00\x21\x02\xbc"},
		{0, 1<<32 - 1, 65535, "\x00\x00\x00\x00\xff\xff\xff\xff\x00\x21\xff\xff"},
		{256, 3, 256, "\x00\x00\x01\x00\x00\x00\x00\x03\x00\x21\x01\x00"},
	}
	for _, c := range cases {
		same(t, "Pseudo", Pseudo(c.from, c.to, c.size), c.want, c.from, c.to, c.size)
	}
}

// Promise 4.2: of numbers that have more bytes the lowest are put, and those below 0 are themselves and 2^64.
func TestPseudoOutside(t *testing.T) {
	same(t, "-1", Pseudo(-1, 0, 0), "\xff\xff\xff\xff\x00\x00\x00\x00\x00\x21\x00\x00")
	same(t, "-2", Pseudo(0, -2, 0), "\x00\x00\x00\x00\xff\xff\xff\xfe\x00\x21\x00\x00")
	same(t, "-3", Pseudo(0, 0, -3), "\x00\x00\x00\x00\x00\x00\x00\x00\x00\x21\xff\xfd")
	same(t, "one more", Pseudo(1<<32, 1<<32+5, 1<<16), "\x00\x00\x00\x00\x00\x00\x00\x05\x00\x21\x00\x00")
	same(t, "more", Pseudo(0x0102030405, -1<<32-1, 65536+258), "\x02\x03\x04\x05\xff\xff\xff\xff\x00\x21\x01\x02")
	for _, far := range []struct {
		n           int
		four, twice string
	}{
		{math.MinInt, "\x00\x00\x00\x00", "\x00\x00"}, {math.MinInt + 1, "\x00\x00\x00\x01", "\x00\x01"},
		{math.MaxInt, "\xff\xff\xff\xff", "\xff\xff"}, {math.MaxInt - 1, "\xff\xff\xff\xfe", "\xff\xfe"},
	} {
		same(t, "from", Pseudo(far.n, 1, 2), far.four+"\x00\x00\x00\x01\x00\x21\x00\x02", far.n)
		same(t, "to", Pseudo(1, far.n, 2), "\x00\x00\x00\x01"+far.four+"\x00\x21\x00\x02", far.n)
		same(t, "size", Pseudo(1, 2, far.n), "\x00\x00\x00\x01\x00\x00\x00\x02\x00\x21"+far.twice, far.n)
	}
}

// Promise 4.2: of cover 0 all is covered, and of others the head and so many words of data less one.
func TestCovered(t *testing.T) {
	data := drawn(3, 60)
	for cover := 0; cover <= 15; cover++ {
		want := "head" + data
		if cover > 0 {
			want = "head" + data[:4*cover-4]
		}
		s, ok := Covered("head", data, cover)
		same(t, "text", s, want, cover)
		same(t, "covered", ok, true, cover)
	}
	cases := []struct {
		head, data string
		cover      int
		want       string
	}{
		{"h", "datada", 0, "hdatada"}, {"h", "datada", 1, "h"}, {"h", "datada", 2, "hdata"},
		{"", "", 0, ""}, {"", "", 1, ""}, {"h", "", 0, "h"}, {"h", "", 1, "h"}, {"", "d", 0, "d"}, {"", "d", 1, ""},
		{"", "data", 2, "data"}, {"\x00", "\xff\x00\xfe\x00\xfd", 2, "\x00\xff\x00\xfe\x00"},
	}
	for _, c := range cases {
		s, ok := Covered(c.head, c.data, c.cover)
		same(t, "text", s, c.want, c.head, c.data, c.cover)
		same(t, "covered", ok, true, c.head, c.data, c.cover)
	}
}

// Promise 4.2: of data with just as many bytes all are covered, and of fewer nothing.
func TestCoveredEdges(t *testing.T) {
	for cover := 1; cover <= 15; cover++ {
		size := 4 * (cover - 1)
		just := drawn(uint32(cover), size)
		s, ok := Covered("\x00head", just, cover)
		same(t, "just as many", s, "\x00head"+just, cover)
		same(t, "just as many", ok, true, cover)
		s, ok = Covered("\x00head", just+"x", cover)
		same(t, "one more", s, "\x00head"+just, cover)
		same(t, "one more", ok, true, cover)
		for fewer := 1; fewer <= size; fewer++ {
			s, ok = Covered("\x00head", just[fewer:], cover)
			same(t, "fewer", s, "", cover, fewer)
			same(t, "fewer", ok, false, cover, fewer)
		}
	}
	// A head is no data, however long it is.
	s, ok := Covered(drawn(1, 1000), "", 2)
	same(t, "a long head", s, "")
	same(t, "a long head", ok, false)
}

// Promise 4.2: a cover that is not 0 to 15 covers nothing, whatever the data is.
func TestCoveredOutside(t *testing.T) {
	for _, cover := range []int{-1, -2, -15, -16, 16, 17, 31, 32, 256, 1 << 16, 1<<62 + 1, 1<<62 + 2, -1<<62 + 1, math.MinInt, math.MinInt + 1, math.MaxInt, math.MaxInt - 1} {
		for _, data := range []string{"", "d", drawn(2, 60), drawn(2, 64), drawn(2, 2000)} {
			s, ok := Covered("head", data, cover)
			same(t, "text", s, "", cover, len(data))
			same(t, "covered", ok, false, cover, len(data))
		}
	}
}

// Promise 4.2: the sum's bits and old's turned, and now, with carries, and all turned.
func TestPatch(t *testing.T) {
	cases := []struct{ sum, old, now, want int }{
		{0x9753, 0x1234, 0xabcd, 0xfdb9}, // 0x68ac, 0xedcb and 0xabcd are 0x20244, and so 0x0246
		{65534, 1, 2, 65533}, {65533, 2, 1, 65534}, {65535, 0, 1, 65534}, {65534, 1, 0, 0},
		{100, 7, 9, 98}, {98, 9, 7, 100}, {0, 5, 4, 1}, {5, 0, 5, 0}, {0x8000, 0x8000, 0x7fff, 0x8001}, {3, 1, 5, 65534},
	}
	for _, c := range cases {
		same(t, "Patch", Patch(c.sum, c.old, c.now), c.want, c.sum, c.old, c.now)
	}
}

// Promise 4.2: at old and now alike, 0 and 65535 just what the words say: 65535 may become 0, and never the other way.
func TestPatchAlike(t *testing.T) {
	for _, n := range []int{0, 1, 0x1234, 0x7fff, 0x8000, all - 1, all} {
		for _, sum := range []int{0, 1, 2, 0x1234, 0x7fff, 0x8000, 0xabcd, all - 2, all - 1} {
			same(t, "alike", Patch(sum, n, n), sum, sum, n)
		}
		same(t, "alike, of 65535", Patch(all, n, n), 0, n)
	}
	for _, sum := range []int{0, 1, 0x1234, all - 1} {
		same(t, "0 for 65535", Patch(sum, all, 0), sum, sum)
		same(t, "65535 for 0", Patch(sum, 0, all), sum, sum)
	}
	same(t, "0 for 65535, of 65535", Patch(all, all, 0), all)
	same(t, "65535 for 0, of 65535", Patch(all, 0, all), 0)
	same(t, "0 for 65535, of 0", Patch(0, all, 0), 0)
	same(t, "65535 for 0, of 0", Patch(0, 0, all), 0)
}

// Promise 4.2: sum, old and now are each taken modulo 65536, those below 0 too.
func TestPatchOutside(t *testing.T) {
	same(t, "sum above", Patch(65536+100, 7, 9), 98)
	same(t, "old above", Patch(100, 65536+7, 9), 98)
	same(t, "now above", Patch(100, 7, 65536+9), 98)
	same(t, "sum below 0", Patch(100-65536, 7, 9), 98)
	same(t, "old below 0", Patch(100, 7-65536, 9), 98)
	same(t, "now below 0", Patch(100, 7, 9-65536), 98)
	same(t, "all -1", Patch(-1, -1, -1), 0)
	same(t, "the least sum", Patch(math.MinInt, 7, 9), 65533)
	same(t, "the least old", Patch(100, math.MinInt, 9), 91)
	same(t, "the least now", Patch(100, 7, math.MinInt), 107)
	same(t, "the greatest sum", Patch(math.MaxInt, 7, 9), 65533)
	same(t, "the greatest old", Patch(100, math.MaxInt, 9), 91)
	same(t, "the greatest now", Patch(100, 7, math.MaxInt), 107)
	same(t, "the least of all", Patch(math.MinInt, math.MinInt, math.MinInt), 0)
	same(t, "the greatest of all", Patch(math.MaxInt, math.MaxInt, math.MaxInt), 0)
}

// Promise 4.2: at all edges the answer is the one of the numbers modulo 65536, and has 16 bits.
func TestPatchOfEdges(t *testing.T) {
	for _, sum := range edges {
		for _, old := range edges {
			for _, now := range edges {
				want := all - added(all-modulo(sum)+all-modulo(old)+modulo(now))
				same(t, "Patch", Patch(sum, old, now), want, sum, old, now)
			}
		}
	}
}

// alike tells whether two sums are one, or one is 0 and the other one 65535.
func alike(a, b int) bool { return a == b || a+b == all && a*b == 0 }

// Promise 4.3: a patched sum is the Sum of what has now in the place of old, wherever that stands.
func TestPatchIsSumOfTheChanged(t *testing.T) {
	lists := [][]int{
		{0}, {all}, {1}, {0x1234, 0x5678}, {0, 0, 0}, {all, all}, {0x8000, 0x7fff, 0}, {all, 0, 1, 0xfffe},
		words(drawn(5, 24)), words(drawn(6, 700)),
	}
	for _, list := range lists {
		sum := Sum(text(list...))
		for place, old := range list {
			for _, now := range edges {
				changed := slices.Clone(list)
				changed[place] = modulo(now)
				want := Sum(text(changed...))
				if got := Patch(sum, old, now); !alike(got, want) {
					t.Errorf("%v, %d to %d: got %d, want %d", list, old, changed[place], got, want)
				}
			}
		}
	}
}

// Promise 4.3: of one number, changed to each one there is: beside one that is not 0 the patched sum is just the Sum.
func TestPatchToEachNumber(t *testing.T) {
	for _, old := range []int{0, 1, 0x7fff, 0xabcd, all} {
		sum := Sum(text(old, 0x1234))
		alone := Sum(text(old))
		for now := range all + 1 {
			same(t, "one of two", Patch(sum, old, now), Sum(text(now, 0x1234)), old, now)
			if got, want := Patch(alone, old, now), Sum(text(now)); !alike(got, want) {
				t.Errorf("%d to %d: got %d, want %d", old, now, got, want)
			}
		}
	}
}

// Promise 4.3: a sum that is patched there and back is what it was.
func TestPatchThereAndBack(t *testing.T) {
	for _, sum := range edges {
		for _, old := range edges {
			for _, now := range edges {
				back := Patch(Patch(sum, old, now), now, old)
				if !alike(back, modulo(sum)) {
					t.Errorf("%d, %d and %d: got %d", sum, old, now, back)
				}
			}
		}
	}
}

// Promise 4.3: of what was summed, and its Sum behind it, the Sum is 0.
func TestSumOfSummed(t *testing.T) {
	for size := range 300 {
		parts := []string{drawn(uint32(size), size), drawn(9, size%7), drawn(8, 2*size)}
		behind := text(Sum(parts...))
		same(t, "a part of its own", Sum(append(parts, behind)...), 0, size)
		same(t, "a part between", Sum(parts[0], behind, parts[1], parts[2]), 0, size)
		if size%2 == 0 {
			same(t, "in one part", Sum(parts[2]+text(Sum(parts[2]))), 0, size)
			same(t, "ahead of it", Sum(text(Sum(parts[2]))+parts[2]), 0, size)
		}
	}
	for _, s := range []string{"", "\x00\x00", "\xff\xff", "\x00\x01", "\xff\xfe", strings.Repeat("\x00", 500), strings.Repeat("\xff", 500)} {
		same(t, "all alike", Sum(s+text(Sum(s))), 0, s)
	}
	same(t, "of no part", Sum(text(Sum())), 0)
	same(t, "of a packet's way and all of it", Sum(Pseudo(1, 2, 6), "pa", text(Sum(Pseudo(1, 2, 6), "pa", "et")), "et"), 0)
}

// Promise 4.3: where one number is another one, the Sum is not 0, unless one is 0, the other one 65535, and not all are 0 then.
func TestSumOfChanged(t *testing.T) {
	lists := [][]int{
		{}, {0}, {all}, {0, 0, 0, 0}, {all, all}, {0x1234, 0x5678}, {0, all, 0x8000}, {all, 0, 0}, words(drawn(4, 20)),
	}
	for _, list := range lists {
		whole := append(slices.Clone(list), Sum(text(list...)))
		same(t, "as it was", Sum(text(whole...)), 0, whole)
		for place, old := range whole {
			for now := range all + 1 {
				if now == old {
					continue
				}
				changed := slices.Clone(whole)
				changed[place] = now
				zeros := slices.Max(changed) == 0
				unseen := old+now == all && old*now == 0 && !zeros
				same(t, "as it is", Sum(text(changed...)) == 0, unseen, whole, place, now)
			}
		}
	}
}

// P1: what is wrong in all ways at once is answered, too.
func TestWrongInputs(t *testing.T) {
	for _, n := range edges {
		for _, m := range edges {
			if sum := Patch(n, m, n); sum < 0 || sum > all {
				t.Errorf("Patch %d, %d: %d has more than 16 bits", n, m, sum)
			}
			same(t, "size", len(Pseudo(n, m, n)), 12, n, m)
			if s, ok := Covered("", "", n); ok != (n == 0 || n == 1) || s != "" {
				t.Errorf("Covered %d: %q, %v", n, s, ok)
			}
		}
	}
}
