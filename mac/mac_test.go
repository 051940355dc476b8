package mac

import (
	"crypto/hmac"
	"crypto/sha256"
	"encoding/binary"
	"encoding/hex"
	"math"
	"slices"
	"strings"
	"testing"
	"unsafe"
)

// keySizes are sizes of keys about those at which a key is filled, or its sum stands for it.
var keySizes = []int{0, 1, 2, 20, 31, 32, 33, 62, 63, 64, 65, 66, 127, 128, 129, 1000}

// places are ordinary places, great ones and negative ones.
var places = []int{
	0, 1, 2, 3, 7, 255, 256, 257, 65535, 65536, 1<<24 - 1, 1<<32 - 1, 1 << 32, 1 << 40, 1<<48 - 1, 1<<56 - 1, 1 << 56, 1<<62 + 5,
	math.MaxInt - 1, math.MaxInt, math.MinInt, math.MinInt + 1, -1, -2, -255, -256, -1 << 32, -1 << 40, -1 << 56,
}

func same[V comparable](t *testing.T, what string, got, want V, args ...any) {
	t.Helper()
	if got != want {
		t.Errorf("%s %v: got %#v, want %#v", what, args, got, want)
	}
}

// sums tells whether a sum is the one that is written.
func sums(t *testing.T, what, sum, want string, args ...any) {
	t.Helper()
	same(t, what, hex.EncodeToString([]byte(sum)), strings.ReplaceAll(want, " ", ""), args...)
}

// other is the sum with a key as somebody else has it.
func other(key, s string) string {
	h := hmac.New(sha256.New, []byte(key))
	h.Write([]byte(s))
	return string(h.Sum(nil))
}

// otherSum is the sum without a key as somebody else has it.
func otherSum(s string) string {
	sum := sha256.Sum256([]byte(s))
	return string(sum[:])
}

// eight is a number in 8 bytes as somebody else has it.
func eight(n int) string { return string(binary.BigEndian.AppendUint64(nil, uint64(n))) }

// number is what bytes are, at most 8 of them, as somebody else has it.
func number(s string) int {
	return int(binary.BigEndian.Uint64([]byte(strings.Repeat("\x00", 8-len(s)) + s)))
}

// drawn is so many bytes, ever the same ones of one seed.
func drawn(seed uint32, many int) string {
	b := make([]byte, many)
	for i := range b {
		seed = seed*1664525 + 1013904223
		b[i] = byte(seed >> 24)
	}
	return string(b)
}

// allBytes is each byte there is, once.
func allBytes() string {
	b := make([]byte, 256)
	for i := range b {
		b[i] = byte(i)
	}
	return string(b)
}

// Promise 6.1: sums with a key that are known.
func TestOf(t *testing.T) {
	cases := []struct{ key, s, want string }{
		{strings.Repeat("\x0b", 20), "Hi There", "b0344c61 d8db3853 5ca8afce af0bf12b 881dc200 c9833da7 26e9376c 2e32cff7"}, // the chapter's
		{"Jefe", "what do ya want for nothing?", "5bdcc146 bf60754e 6a042426 089575c7 5a003f08 9d273983 9dec58b9 64ec3843"},
		{strings.Repeat("\xaa", 20), strings.Repeat("\xdd", 50), "773ea91e 36800e46 854db8eb d09181a7 2959098b 3ef8c122 d9635514 ced565fe"},
		{allBytes()[1:26], strings.Repeat("\xcd", 50), "82558a38 9a443c0e a4cc8198 99f2083a 85f0faa3 e578f807 7a2e3ff4 6729665b"},
		{strings.Repeat("\x0c", 20), "Test With Truncation", "a3b61674 73100ee0 6e0c796c 2955552b fa6f7c0a 6a8aef8b 93f860aa b0cd20c5"},
		{strings.Repeat("\xaa", 131), "Test Using Larger Than Block-Size Key - Hash Key First",
			"60e43159 1ee0b67f 0d8a26aa cbf5b77f 8e0bc621 3728c514 0546040f 0ee37f54"},
		{strings.Repeat("\xaa", 131),
			"This is a test using a larger than block-size key and a larger than block-size data. The key needs to be hashed before being used by the HMAC algorithm.",
			"9b09ffa7 1b942fcb 27635fbc d5b0e944 bfdc6364 4f071393 8a7f5153 5c3a35e2"},
		{"key", "The quick brown fox jumps over the lazy dog", "f7bc83f4 30538424 b13298e6 aa6fb143 ef4d59a1 49461759 97479dbc 2d1a3cd8"},
	}
	for _, c := range cases {
		sums(t, "Of", Of(c.key, c.s), c.want, c.key, c.s)
	}
}

// Promise 6.1: sums that are known, of keys of no byte, and about 64 bytes, with parts and without.
func TestOfKnownKeys(t *testing.T) {
	sums(t, "no key, and no part", Of(""), "b613679a 0814d9ec 772f95d7 78c35fc5 ff1697c4 93715653 c6c71214 4292c5ad")
	cases := []struct {
		size       int
		none, some string
	}{
		{1, "8bb990c40a7d61cb97597a942125025be50ac8beb74436e3735b98893a7f6620", "342e519ce0ad6c03a36b98eeb3f1d130db4813b9df4d1160eda488d712dc78ee"},
		{63, "a73e4ae46b2a9f2402fff056e156c0a25551e3db5097f9367522239bfbc2d02e", "23670528b6b8c55d2f8ef2f36c1f000cec7c23ec76881c485f2e89b5fe705cca"},
		{64, "83026a325aaee70e36cfe607536aa1054104ad1077c36134810d4ccded1ccd3b", "ae0c0e4a2340cf50185eb46aaa8723f4769153661612e212fb0d1fa3170c6202"},
		{65, "41f1c4cc3107cd5b8d92460f61032902bfdb06484eef17e861b83a5012d3b7f3", "ed378e5dfa30dc98814ba09b2e610d9b6af66054922ceef9480da094a3f11b2d"},
		{1000, "3a65925edb2217e97f45073614e390c7c1480d9a94796f0ae8d7fcd2ed37ff92", "33806e0bfe17c133aedcf42b77685088252949e41732fcb3ca5c043704330444"},
	}
	for _, c := range cases {
		key := strings.Repeat("k", c.size)
		sums(t, "no part", Of(key), c.none, c.size)
		sums(t, "one part", Of(key, "abc"), c.some, c.size)
	}
}

// Promise 6.1: of keys of each size, and of parts of sizes about a block's end.
func TestOfEachKeySize(t *testing.T) {
	for size := range 200 {
		for _, key := range []string{drawn(uint32(size), size), strings.Repeat("\x00", size), strings.Repeat("\xff", size)} {
			for _, many := range []int{0, 1, 8, 55, 56, 63, 64, 65, 200} {
				s := drawn(7, many)
				same(t, "Of", Of(key, s), other(key, s), size, many)
			}
			same(t, "size", len(Of(key)), 32, size)
		}
	}
}

// Promise 6.1: it is the sum of o, and the sum of i and all parts, one behind the other.
func TestOfByItsWords(t *testing.T) {
	for _, size := range keySizes {
		key := drawn(21, size)
		used := key
		if size > 64 {
			used = otherSum(key)
		}
		used += strings.Repeat("\x00", 64-len(used))
		i, o := "", ""
		for _, b := range []byte(used) {
			i += string([]byte{b ^ 54})
			o += string([]byte{b ^ 92})
		}
		same(t, "no part", Of(key), otherSum(o+otherSum(i)), size)
		same(t, "parts", Of(key, "a", "bc", "d"), otherSum(o+otherSum(i+"abcd")), size)
	}
}

// Promise 6.1: a key with bytes 0 behind it, up to 64, gives the same; ahead of it, or beyond 64, they give another one.
func TestOfZerosBehindKey(t *testing.T) {
	for _, size := range []int{0, 1, 20, 32, 63} {
		key := drawn(22, size)
		for zeros := 1; size+zeros <= 64; zeros++ {
			same(t, "behind", Of(key+strings.Repeat("\x00", zeros), "abc"), Of(key, "abc"), size, zeros)
		}
		same(t, "beyond 64", Of(key+strings.Repeat("\x00", 65-size), "abc") == Of(key, "abc"), false, size)
		if size > 0 {
			same(t, "ahead", Of("\x00"+key, "abc") == Of(key, "abc"), false, size)
		}
	}
	full := drawn(22, 64)
	same(t, "behind 64", Of(full+"\x00", "abc") == Of(full, "abc"), false)
}

// Promise 6.1: a key of more than 64 bytes is as good as its sum; one of 64 is not.
func TestOfKeyAndItsSum(t *testing.T) {
	for _, size := range keySizes {
		key := drawn(23, size)
		same(t, "its sum", Of(otherSum(key), "abc") == Of(key, "abc"), size > 64, size)
		same(t, "its sum, and no part", Of(otherSum(key)) == Of(key), size > 64, size)
		same(t, "its sum, with bytes 0 behind", Of(otherSum(key)+"\x00\x00", "abc") == Of(key, "abc"), size > 64, size)
	}
}

// Promise 6.1: where one bit of the key, or of a part, is another one, the sum is.
func TestOfEachBit(t *testing.T) {
	for _, size := range []int{1, 63, 64, 65, 100} {
		key, s := drawn(24, size), drawn(25, 10)
		for bit := range 8 * size {
			turned := []byte(key)
			turned[bit/8] ^= 1 << (bit % 8)
			same(t, "key", Of(string(turned), s), other(string(turned), s), size, bit)
			same(t, "as it was", Of(string(turned), s) == Of(key, s), false, size, bit)
		}
		for bit := range 8 * len(s) {
			turned := []byte(s)
			turned[bit/8] ^= 1 << (bit % 8)
			same(t, "part", Of(key, string(turned)), other(key, string(turned)), size, bit)
			same(t, "as it was", Of(key, string(turned)) == Of(key, s), false, size, bit)
		}
	}
}

// Promise 6.1: each byte is one in a key and in a part, whatever it is: those that are no text, too.
func TestOfEachByte(t *testing.T) {
	for b := range 256 {
		s := string([]byte{byte(b)})
		same(t, "key", Of(s, "abc"), other(s, "abc"), b)
		same(t, "key of 64", Of(strings.Repeat(s, 64), "abc"), other(strings.Repeat(s, 64), "abc"), b)
		same(t, "key of 65", Of(strings.Repeat(s, 65), "abc"), other(strings.Repeat(s, 65), "abc"), b)
		same(t, "part", Of("key", s), other("key", s), b)
		same(t, "both", Of(s, s, s), other(s, s+s), b)
	}
	for _, key := range []string{"\xff\xfe\x00\x80", "\xc3", "\xc3\xa9", "\xed\xa0\x80", allBytes(), allBytes()[:64], allBytes()[192:]} {
		same(t, "no text", Of(key, key), other(key, key), key)
	}
}

// Promise 6.1: key and parts are each their own: a byte that goes over from one to the other gives another sum.
func TestOfKeyIsNoPart(t *testing.T) {
	seen := map[string]int{}
	s := drawn(26, 60)
	for i := range len(s) + 1 {
		sum := Of(s[:i], s[i:])
		if before, ok := seen[sum]; ok {
			t.Errorf("keys of %d and of %d bytes give one sum", before, i)
		}
		seen[sum] = i
	}
}

// Promise 6.2: Same tells whether both have the same bytes.
func TestSame(t *testing.T) {
	texts := []string{"", "a", "b", "A", "ab", "ba", "abc", "\x00", "\x00\x00", "\xff", "\xff\xfe", "\xc3", "\xc3\xa9", "e\xcc\x81", "\xef\xbf\xbd", "\x80", " ", "a ", " a"}
	for i, a := range texts {
		for j, b := range texts {
			same(t, "Same", Same(a, b), i == j, a, b)
		}
	}
	sum := Of("key", "abc")
	same(t, "two sums", Same(sum, Of("key", "ab", "c")), true)
	same(t, "other sums", Same(sum, Of("key", "abd")), false)
}

// Promise 6.2: of other lengths, and those that differ in one byte, first, last or between.
func TestSameEdges(t *testing.T) {
	for _, size := range []int{1, 2, 6, 8, 20, 32, 33, 64, 65, 1000} {
		s := drawn(27, size)
		same(t, "itself", Same(s, strings.Clone(s)), true, size)
		for i := range size {
			turned := []byte(s)
			turned[i] ^= 1 << (i % 8)
			same(t, "one bit", Same(s, string(turned)), false, size, i)
			same(t, "one bit, turned round", Same(string(turned), s), false, size, i)
			same(t, "the first bytes", Same(s[:i], s), false, size, i)
			same(t, "the first bytes, turned round", Same(s, s[:i]), false, size, i)
		}
		same(t, "one byte more", Same(s, s+"\x00"), false, size)
		same(t, "one byte ahead", Same("\x00"+s, s), false, size)
	}
}

// Promise 6.2: Token is the first 4 bytes of the key's sum as a number.
func TestToken(t *testing.T) {
	same(t, "abc", Token("abc"), 0xba7816bf)
	same(t, "no byte", Token(""), 0xe3b0c442)
	same(t, "k", Token("k"), 0x8254c329)
	same(t, "64 bytes k", Token(strings.Repeat("k", 64)), 0x2519b49b)
	same(t, "65 bytes k", Token(strings.Repeat("k", 65)), 0xf39cdc25)
	same(t, "no text", Token("\xff\xfe\x00\x80"), 0x5a741968)
	for size := range 300 {
		key := drawn(28+uint32(size), size)
		token := Token(key)
		same(t, "Token", token, number(otherSum(key)[:4]), size)
		same(t, "bounds", token >= 0 && token < 1<<32, true, size)
	}
	for b := range 256 {
		same(t, "each byte", Token(string([]byte{byte(b)})), number(otherSum(string([]byte{byte(b)}))[:4]), b)
	}
}

// Promise 6.2: Token is of the key as it is: bytes 0 behind it make it another one.
func TestTokenOfZeros(t *testing.T) {
	same(t, "behind", Token("key\x00") == Token("key"), false)
	long := drawn(29, 100)
	same(t, "a long key's sum", Token(otherSum(long)) == Token(long), false)
}

// Promise 6.2: numbers that are known.
func TestDraw(t *testing.T) {
	for place, want := range map[int]int{
		0: 0xeb4854a13279f1, 1: 0xa02d18027969b5, 2: 0xdb5a0ea4bfe7f8, 255: 0xd9c38ad0d811ca, 256: 0x6d1c3914e856ac, 1 << 40: 0x5aced2e3a93709,
		math.MaxInt: 0x6bc4f23094356a, -1: 0x1ac8b1fccea588, math.MinInt: 0x115ac14dfaa6d5,
	} {
		for size := 1; size <= 7; size++ {
			same(t, "Draw", Draw("k", place, size), want>>(8*(7-size)), place, size)
		}
	}
}

// Promise 6.2: of all keys, at all places and sizes it is the first bytes of Of, as a number.
func TestDrawIsOf(t *testing.T) {
	for _, size := range keySizes {
		key := drawn(30, size)
		for _, place := range places {
			for many := 1; many <= 7; many++ {
				n := Draw(key, place, many)
				same(t, "of Of", n, number(Of(key, eight(place))[:many]), size, place, many)
				same(t, "as others have it", n, number(other(key, eight(place))[:many]), size, place, many)
				same(t, "bounds", n >= 0 && n < 1<<(8*many), true, size, place, many)
			}
		}
	}
}

// Promise 6.2: sizes out of 1 to 7 are held.
func TestDrawHeld(t *testing.T) {
	for _, key := range []string{"", "k", drawn(31, 65), "\xff\x00"} {
		for _, place := range places {
			for _, size := range []int{0, -1, -7, -8, -256, math.MinInt, math.MinInt + 1, -1 << 32} {
				same(t, "below", Draw(key, place, size), Draw(key, place, 1), key, place, size)
				same(t, "one byte", Draw(key, place, size), number(other(key, eight(place))[:1]), key, place, size)
			}
			for _, size := range []int{8, 9, 16, 32, 33, 255, 256, 1 << 32, 1<<32 + 1, math.MaxInt - 1, math.MaxInt} {
				same(t, "above", Draw(key, place, size), Draw(key, place, 7), key, place, size)
				same(t, "seven bytes", Draw(key, place, size), number(other(key, eight(place))[:7]), key, place, size)
			}
		}
	}
}

// Promise 6.2: other places, and other keys, give other numbers: all 8 bytes of a place count.
func TestDrawOfOthers(t *testing.T) {
	seen := map[int]int{}
	for bit := range 64 {
		n := Draw("k", 1<<bit, 7)
		if before, ok := seen[n]; ok {
			t.Errorf("places of the bits %d and %d give one number", before, bit)
		}
		seen[n] = bit
	}
	same(t, "other keys", Draw("k", 1, 7) == Draw("l", 1, 7), false)
	same(t, "again", Draw("k", 1, 7), Draw("k", 1, 7))
}

// Promise 6.3: cut in two and in three anywhere, and in single bytes.
func TestPartsAreCutAnywhere(t *testing.T) {
	for _, key := range []string{"", "key", drawn(32, 64), drawn(33, 65)} {
		s := drawn(34, 80)
		want := other(key, s)
		for i := 0; i <= len(s); i++ {
			same(t, "in two", Of(key, s[:i], s[i:]), want, len(key), i)
			for j := i; j <= len(s); j += 3 {
				same(t, "in three", Of(key, s[:i], s[i:j], s[j:]), want, len(key), i, j)
			}
		}
		var singles []string
		for i := range len(s) {
			singles = append(singles, s[i:i+1])
		}
		same(t, "in single bytes", Of(key, singles...), want, len(key))
	}
}

// Promise 6.3: of short texts, cut in every way, with parts of no byte between.
func TestPartsAreCutInEveryWay(t *testing.T) {
	for size := range 9 {
		s := drawn(35, size)
		want := other("key", s)
		for cuts := range 1 << max(size-1, 0) {
			parts := []string{}
			from := 0
			for i := 1; i < size; i++ {
				if cuts>>(i-1)&1 == 1 {
					parts = append(parts, s[from:i])
					from = i
				}
			}
			parts = append(parts, s[from:])
			same(t, "cut", Of("key", parts...), want, size, cuts)
			spaced := []string{""}
			for _, part := range parts {
				spaced = append(spaced, part, "", "")
			}
			same(t, "with parts of no byte", Of("key", spaced...), want, size, cuts)
		}
	}
}

// Promise 6.3: no part, a nil list of them and parts of no byte are the same.
func TestPartsOfNoByte(t *testing.T) {
	for _, size := range keySizes {
		key := drawn(36, size)
		want := other(key, "")
		same(t, "no part", Of(key), want, size)
		same(t, "nil", Of(key, nil...), want, size)
		same(t, "an empty list", Of(key, []string{}...), want, size)
		for many := range 5 {
			same(t, "parts of no byte", Of(key, make([]string, many)...), want, size, many)
		}
	}
}

// Promise 6.3: in drawn parts, many of them, about blocks' ends, too.
func TestDrawnParts(t *testing.T) {
	for seed := range uint32(200) {
		s, sizes, key := drawn(seed, 700), drawn(seed+5000, 700), drawn(seed+9000, int(seed))
		var parts []string
		from := 0
		for i := 0; from < len(s); i++ {
			to := min(from+int(sizes[i])%(2+int(seed)), len(s))
			if i == len(sizes)-1 {
				to = len(s)
			}
			parts = append(parts, s[from:to])
			from = to
		}
		same(t, "Of", Of(key, parts...), other(key, s), seed, len(parts))
	}
}

// The rules: parts that are handed in stay as they are.
func TestChangesNoPart(t *testing.T) {
	for _, size := range keySizes[1:] {
		key := []byte(drawn(37, size))
		parts := []string{"a", "", drawn(38, size), "\xff"}
		before, keyBefore := slices.Clone(parts), string(key)
		spare := append(slices.Clone(parts), "behind")
		sum := Of(unsafe.String(&key[0], size), spare[:4]...)
		Token(unsafe.String(&key[0], size))
		Draw(unsafe.String(&key[0], size), 3, 4)
		same(t, "key", string(key), keyBefore, size)
		same(t, "parts", slices.Equal(spare[:4], before), true, size)
		same(t, "behind them", spare[4], "behind", size)
		clear(key)
		same(t, "sum stays", sum, other(keyBefore, strings.Join(before, "")), size)
	}
}

// P1: answers hang on nothing but what was given, whoever asks at the same time.
func TestSumsAtOnce(t *testing.T) {
	done := make(chan bool)
	for i := range 8 {
		go func() {
			key, s := drawn(uint32(i), 60+i), drawn(uint32(i), 100)
			right := true
			for cut := range len(s) {
				right = right && Of(key, s[:cut], s[cut:]) == other(key, s) && Draw(key, cut, 5) == number(other(key, eight(cut))[:5])
			}
			done <- right
		}()
	}
	for i := range 8 {
		same(t, "at once", <-done, true, i)
	}
}
