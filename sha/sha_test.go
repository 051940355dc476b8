package sha

import (
	"crypto/sha256"
	"encoding/hex"
	"math/big"
	"strings"
	"testing"
	"unsafe"
)

// edges are sizes at which a block ends, or its end no longer fits in it, with those beside them.
var edges = []int{0, 1, 2, 54, 55, 56, 57, 62, 63, 64, 65, 66, 118, 119, 120, 121, 126, 127, 128, 129, 183, 184, 191, 192, 193}

func same[V comparable](t *testing.T, what string, got, want V, args ...any) {
	t.Helper()
	if got != want {
		t.Errorf("%s %v: got %#v, want %#v", what, args, got, want)
	}
}

// sums tells whether a sum is the one that is written.
func sums(t *testing.T, what, sum, want string, args ...any) {
	t.Helper()
	same(t, what, hex.EncodeToString([]byte(sum)), strings.ReplaceAll(want, " ", ""), args...)
}

// other is the sum as somebody else has it.
func other(s string) string {
	sum := sha256.Sum256([]byte(s))
	return string(sum[:])
}

// drawn is so many bytes, ever the same ones of one seed.
func drawn(seed uint32, many int) string {
	b := make([]byte, many)
	for i := range b {
		seed = seed*1664525 + 1013904223
		b[i] = byte(seed >> 24)
	}
	return string(b)
}

// allBytes is each byte there is, once.
func allBytes() string {
	b := make([]byte, 256)
	for i := range b {
		b[i] = byte(i)
	}
	return string(b)
}

// of is a State that New made, with pieces added.
func of(pieces ...string) *State {
	t := New()
	for _, piece := range pieces {
		t.Add(piece)
	}
	return t
}

// Promise 5.1: sums that are known.
func TestOf(t *testing.T) {
	cases := []struct{ s, want string }{
		{"abc", "ba7816bf 8f01cfea 414140de 5dae2223 b00361a3 96177a9c b410ff61 f20015ad"}, // the chapter's
		{"", "e3b0c442 98fc1c14 9afbf4c8 996fb924 27ae41e4 649b934c a495991b 7852b855"},
		{"a", "ca978112 ca1bbdca fac231b3 9a23dc4d a786eff8 147c4e72 b9807785 afee48bb"},
		{"aaa", "9834876d cfb05cb1 67a5c249 53eba58c 4ac89b1a df57f28f 2f9d09af 107ee8f0"},
		{"abcdbcdecdefdefgefghfghighijhijkijkljklmklmnlmnomnopnopq", "248d6a61 d20638b8 e5c02693 0c3e6039 a33ce459 64ff2167 f6ecedd4 19db06c1"},
		{"abcdefghbcdefghicdefghijdefghijkefghijklfghijklmghijklmnhijklmnoijklmnopjklmnopqklmnopqrlmnopqrsmnopqrstnopqrstu", "cf5b16a7 78af8380 036ce59e 7b049237 0b249b11 e8f07a51 afac4503 7afee9d1"},
	}
	for _, c := range cases {
		sums(t, "Of", Of(c.s), c.want, c.s)
	}
}

// Promise 5.1: sums that are known, about the ends of blocks.
func TestOfEdges(t *testing.T) {
	for size, want := range map[int]string{
		31:   "61c60b487d1a921e0bcc9bf853dda0fb159b30bf57b2e2d2c753b00be15b5a09",
		32:   "3ba3f5f43b92602683c19aee62a20342b084dd5971ddd33808d81a328879a547",
		54:   "a3f01b6939256127582ac8ae9fb47a382a244680806a3f613a118851c1ca1d47",
		55:   "9f4390f8d30c2dd92ec9f095b65e2b9ae9b0a925a5258e241c9f1e910f734318",
		56:   "b35439a4ac6f0948b6d6f9e3c6af0f5f590ce20f1bde7090ef7970686ec6738a",
		57:   "f13b2d724659eb3bf47f2dd6af1accc87b81f09f59f2b75e5c0bed6589dfe8c6",
		62:   "f506898cc7c2e092f9eb9fadae7ba50383f5b46a2a4fe5597dbb553a78981268",
		63:   "7d3e74a05d7db15bce4ad9ec0658ea98e3f06eeecf16b4c6fff2da457ddc2f34",
		64:   "ffe054fe7ae0cb6dc65c3af9b61d5209f439851db43d0ba5997337df154668eb",
		65:   "635361c48bb9eab14198e76ea8ab7f1a41685d6ad62aa9146d301d4f17eb0ae0",
		118:  "879dc4f05b19ebc3b037f4683633df1332b054cf52fa372d323c421cb893a2aa",
		119:  "31eba51c313a5c08226adf18d4a359cfdfd8d2e816b13f4af952f7ea6584dcfb",
		120:  "2f3d335432c70b580af0e8e1b3674a7c020d683aa5f73aaaedfdc55af904c21c",
		121:  "e9615320128cc7a3d6078e9af05603188e5ccbf0d07d8b735d3df5e8e0c1281f",
		126:  "36bcf9292589fe6ea3e82fefe3aab1b8ca8b8347ea5a14b23e470ecb3ad7c57b",
		127:  "c57e9278af78fa3cab38667bef4ce29d783787a2f731d4e12200270f0c32320a",
		128:  "6836cf13bac400e9105071cd6af47084dfacad4e5e302c94bfed24e013afb73e",
		129:  "c12cb024a2e5551cca0e08fce8f1c5e314555cc3fef6329ee994a3db752166ae",
		8191: "d691798dcd3bab9099e84b4cbc484caef67262d1ef5dca83330d07f5ce4740dd", // 2^16 bits less 8
		8192: "dd4e6730520932767ec0a9e33fe19c4ce24399d6eba4ff62f13013c9ed30ef87",
	} {
		sums(t, "Of so many a", Of(strings.Repeat("a", size)), want, size)
	}
	sums(t, "Of 55 zeros", Of(strings.Repeat("\x00", 55)), "02779466cdec163811d078815c633f21901413081449002f24aa3e80f0b88ef7")
	sums(t, "Of 56 zeros", Of(strings.Repeat("\x00", 56)), "d4817aa5497628e7c77e6b606107042bbba3130888c5f47a375e6179be789fbb")
	sums(t, "Of 64 zeros", Of(strings.Repeat("\x00", 64)), "f5a5fd42d16a20302798ef6ed309979b43003d2320d9f0e8ea9831a92759fb4b")
	sums(t, "Of 64 bytes 255", Of(strings.Repeat("\xff", 64)), "8667e718294e9e0df1d30600ba3eeb201f764aad2dad72748643e4a285e1d1f7")
}

// Promise 5.1: of each size, up to some blocks, and of bytes of all kinds.
func TestOfEachSize(t *testing.T) {
	for size := range 520 {
		for _, s := range []string{
			drawn(uint32(size), size), strings.Repeat("\x00", size), strings.Repeat("\xff", size), strings.Repeat("\x80", size),
		} {
			same(t, "Of", Of(s), other(s), size, s)
			same(t, "size", len(Of(s)), 32, size)
		}
	}
}

// Promise 5.1: of long texts, and of those whose bits are just as many as fill two or three bytes.
func TestOfLong(t *testing.T) {
	sums(t, "Of a million a", Of(strings.Repeat("a", 1000000)), "cdc76e5c 9914fb92 81a1c7e2 84d73e67 f1809a48 a497200e 046d39cc c7112cd0")
	for _, size := range []int{1000, 8190, 8191, 8192, 8193, 65535, 65536, 1<<21 - 1, 1 << 21, 1<<21 + 1} {
		s := drawn(11, size)
		same(t, "Of", Of(s), other(s), size)
		same(t, "in two pieces", of(s[:size/3], s[size/3:]).Sum(), other(s), size)
	}
}

// Promise 5.1: how many bits there are is told in 8 bytes: 2^32 of them, too.
func TestMoreBitsThan32(t *testing.T) {
	piece := strings.Repeat("a", 1<<22)
	state := New()
	for range 127 {
		state.Add(piece)
	}
	state.Add(piece[1:])
	sums(t, "2^32 bits less 8", state.Sum(), "1f97811a3a059e582b3753e94d8852bd89740248c5f35911f8e70afdd57f9842")
	state.Add("a")
	sums(t, "2^32 bits", state.Sum(), "b9045a713caed5dff3d3b783e98d1ce5778d8bc331ee4119d707072312af06a7")
	state.Add("b")
	sums(t, "2^32 bits and 8", state.Sum(), "91d4098afec4bb6731e4dba873b3c9a9c581cd4800086ac2fbb4175c21992375")
}

// Promise 5.1: each byte is one, whatever it is: those that are no text, and those of a rune, too.
func TestOfEachByte(t *testing.T) {
	for b := range 256 {
		s := string([]byte{byte(b)})
		same(t, "alone", Of(s), other(s), b)
		for _, many := range []int{3, 55, 63, 64, 100} {
			long := strings.Repeat(s, many)
			same(t, "many", Of(long), other(long), b, many)
			same(t, "among others", Of(long+"xyz"+s), other(long+"xyz"+s), b, many)
		}
	}
	sums(t, "all bytes", Of(allBytes()), "40aff2e9d2d8922e47afd4648e6967497158785fbd1da870e7110266bf944880")
	sums(t, "a rune of two bytes", Of("\xc3\xa9"), "4a99557e4033c3539de2eb65472017cad5f9557f7a0625a09f1c3f6e2ba69c4c")
	sums(t, "half a rune", Of("\xc3"), "ae3f4619b0413d70d3004b9131c3752153074e45725be13b9a148978895e359e")
	sums(t, "no runes", Of("\xff\xfe\x00\x80"), "5a741968f40e57485ed6e1a1af381adeb2714223c35acedf1ad0670e42df2eb5")
}

// Promise 5.1: what stands behind a text is not its own: texts that are alike but for it have other sums.
func TestOfWhatLooksLikeAnEnd(t *testing.T) {
	seen := map[string]string{}
	for _, size := range edges {
		text := drawn(5, size)
		zeros := strings.Repeat("\x00", (119-size%64)%64)
		bits := string([]byte{0, 0, 0, 0, 0, 0, byte(size / 32), byte(8 * size)})
		end := "\x80" + zeros + bits
		same(t, "blocks are whole", (size+len(end))%64, 0, size)
		for _, s := range []string{text, text + "\x00", text + "\x80", text + "\x80" + zeros, text + end, strings.Repeat("\x00", size)} {
			sum := Of(s)
			same(t, "Of", sum, other(s), s)
			if before, ok := seen[sum]; ok && before != s {
				t.Errorf("%q and %q have one sum", before, s)
			}
			seen[sum] = s
		}
	}
}

// Promise 5.1: where one bit is another one, the sum is.
func TestOfEachBit(t *testing.T) {
	for _, size := range []int{1, 55, 56, 64, 65, 130} {
		s := drawn(6, size)
		for bit := range 8 * size {
			turned := []byte(s)
			turned[bit/8] ^= 1 << (bit % 8)
			same(t, "Of", Of(string(turned)), other(string(turned)), size, bit)
			same(t, "as it was", Of(string(turned)) == Of(s), false, size, bit)
		}
	}
}

// primes are the first primes, so many.
func primes(many int) []int64 {
	var list []int64
	for n := int64(2); len(list) < many; n++ {
		if big.NewInt(n).ProbablyPrime(20) {
			list = append(list, n)
		}
	}
	return list
}

// power is a number times itself, so often.
func power(n *big.Int, often int64) *big.Int { return new(big.Int).Exp(n, big.NewInt(often), nil) }

// fraction are the first 32 bits of the fractional part of a number's root: of its square root (2) or its cube root (3).
func fraction(n, which int64) uint32 {
	moved := new(big.Int).Lsh(big.NewInt(n), uint(32*which))
	root := new(big.Int)
	for bit := 40; bit >= 0; bit-- {
		root.SetBit(root, bit, 1)
		if power(root, which).Cmp(moved) > 0 {
			root.SetBit(root, bit, 0)
		}
	}
	return uint32(root.Uint64())
}

// Promise 5.1 (Words): each of the constants is the one that its prime has, and each number at the beginning.
func TestConstants(t *testing.T) {
	list := primes(64)
	same(t, "the last prime", list[63], 311)
	same(t, "how many constants", len(constants), 64)
	for i, prime := range list {
		same(t, "K", constants[i], fraction(prime, 3), i, prime)
	}
	written := []uint32{0x6a09e667, 0xbb67ae85, 0x3c6ef372, 0xa54ff53a, 0x510e527f, 0x9b05688c, 0x1f83d9ab, 0x5be0cd19}
	same(t, "how many numbers at the beginning", len(beginning), len(written))
	for i, want := range written {
		same(t, "H", beginning[i], want, i)
		same(t, "H of its prime", beginning[i], fraction(list[i], 2), i)
	}
}

// Promise 5.2: New is of no bytes.
func TestNew(t *testing.T) {
	same(t, "Sum", New().Sum(), Of(""))
	sums(t, "Sum", New().Sum(), "e3b0c442 98fc1c14 9afbf4c8 996fb924 27ae41e4 649b934c a495991b 7852b855")
	same(t, "with nothing added", of("").Sum(), Of(""))
	same(t, "with nothing added often", of("", "", "").Sum(), Of(""))
	if New() == New() {
		t.Error("one State is two")
	}
}

// Promise 5.2: Add puts bytes behind all those so far, and Sum is Of all of them.
func TestAdd(t *testing.T) {
	state, all := New(), ""
	for i := range 200 {
		piece := drawn(uint32(i), i*i%71)
		state.Add(piece)
		all += piece
		same(t, "Sum", state.Sum(), other(all), i, len(all))
		same(t, "Of", Of(all), other(all), i, len(all))
	}
	sums(t, "abc", of("ab", "c").Sum(), "ba7816bf 8f01cfea 414140de 5dae2223 b00361a3 96177a9c b410ff61 f20015ad")
	same(t, "behind, and not ahead", of("c", "ab").Sum() == Of("abc"), false)
}

// Promise 5.2: a Sum that is asked again is the same, and changes nothing.
func TestSumAskedAgain(t *testing.T) {
	for _, size := range edges {
		s := drawn(7, size)
		state := of(s)
		for range 3 {
			same(t, "again", state.Sum(), other(s), size)
		}
		state.Add("")
		same(t, "with nothing more", state.Sum(), other(s), size)
	}
}

// Promise 5.2: more may be added behind a Sum.
func TestMoreBehindSum(t *testing.T) {
	for _, first := range edges {
		for _, second := range edges {
			a, b := drawn(8, first), drawn(9, second)
			state := of(a)
			sum := state.Sum()
			state.Add(b)
			same(t, "behind", state.Sum(), other(a+b), first, second)
			same(t, "the one ahead", sum, other(a), first, second)
			state.Add("end")
			same(t, "behind that", state.Sum(), other(a+b+"end"), first, second)
		}
	}
}

// Promise 5.2: States side by side have nothing of each other's.
func TestStatesSideBySide(t *testing.T) {
	one, two, none := New(), New(), New()
	allOne, allTwo := "", ""
	for i := range 100 {
		a, b := drawn(uint32(i), i%67), drawn(uint32(1000+i), (i*7)%130)
		one.Add(a)
		two.Add(b)
		allOne, allTwo = allOne+a, allTwo+b
		same(t, "one", one.Sum(), other(allOne), i)
		same(t, "Of between them", Of("abc"), other("abc"), i)
		same(t, "two", two.Sum(), other(allTwo), i)
		same(t, "none", none.Sum(), other(""), i)
	}
}

// Promise 5.2: of nil nothing is added, and the Sum is an empty text.
func TestOfNil(t *testing.T) {
	var none *State
	same(t, "Sum", none.Sum(), "")
	for _, s := range []string{"", "abc", drawn(1, 64), drawn(1, 1000), "\xff"} {
		none.Add(s)
		same(t, "Sum behind Add", none.Sum(), "", s)
		same(t, "still nil", none == nil, true, s)
	}
}

// Promise 5.2: a State that New did not make has no bytes so far, either.
func TestStateNotOfNew(t *testing.T) {
	var zero State
	same(t, "Sum", zero.Sum(), Of(""))
	same(t, "Sum of a literal", (&State{}).Sum(), Of(""))
	same(t, "Sum of new", new(State).Sum(), Of(""))
	zero.Add("")
	same(t, "Sum with nothing added", zero.Sum(), Of(""))
	zero.Add("ab")
	zero.Add("c")
	same(t, "Sum with bytes added", zero.Sum(), other("abc"))
	for _, size := range edges {
		s := drawn(10, size)
		var state State
		same(t, "Sum ahead", state.Sum(), other(""), size)
		state.Add(s)
		same(t, "Sum", state.Sum(), other(s), size)
		state.Add(s)
		same(t, "Sum of more", state.Sum(), other(s+s), size)
	}
}

// Promise 5.3: cut in two anywhere, with a Sum asked between or not.
func TestTwoPieces(t *testing.T) {
	for _, size := range append([]int{100, 140, 256, 300}, edges...) {
		s := drawn(12, size)
		want := other(s)
		for i := 0; i <= size; i++ {
			same(t, "in two", of(s[:i], s[i:]).Sum(), want, size, i)
			state := of(s[:i])
			same(t, "the first piece", state.Sum(), other(s[:i]), size, i)
			state.Add(s[i:])
			same(t, "in two, asked between", state.Sum(), want, size, i)
		}
	}
}

// Promise 5.3: cut in three anywhere.
func TestThreePieces(t *testing.T) {
	s := drawn(13, 150)
	want := other(s)
	for i := 0; i <= len(s); i++ {
		for j := i; j <= len(s); j++ {
			same(t, "in three", of(s[:i], s[i:j], s[j:]).Sum(), want, i, j)
		}
	}
}

// Promise 5.3: pieces all of one size, from one byte on, with pieces of no byte between them.
func TestPiecesOfOneSize(t *testing.T) {
	s := drawn(14, 700)
	want := other(s)
	for size := 1; size <= 200; size++ {
		whole, spaced := New(), of("", "")
		for from := 0; from < len(s); from += size {
			piece := s[from:min(from+size, len(s))]
			whole.Add(piece)
			spaced.Add(piece)
			spaced.Add("")
			same(t, "so far", spaced.Sum(), other(s[:from+len(piece)]), size, from)
		}
		same(t, "whole", whole.Sum(), want, size)
		same(t, "with pieces of no byte", spaced.Sum(), want, size)
	}
}

// Promise 5.3: pieces that end just at a block's end, one byte ahead of it and one behind.
func TestPiecesAtBlocks(t *testing.T) {
	sizes := []int{0, 1, 2, 55, 56, 62, 63, 64, 65, 66, 127, 128, 129}
	for _, a := range sizes {
		for _, b := range sizes {
			for _, c := range sizes {
				one, two, three := drawn(15, a), drawn(16, b), drawn(17, c)
				same(t, "three", of(one, two, three).Sum(), other(one+two+three), a, b, c)
				same(t, "three, with none between", of("", one, "", two, "", three, "").Sum(), other(one+two+three), a, b, c)
			}
		}
	}
}

// Promise 5.3: in drawn pieces, many of them.
func TestDrawnPieces(t *testing.T) {
	for seed := range uint32(300) {
		s := drawn(seed, 900)
		sizes := drawn(seed+7000, 900)
		state, from := New(), 0
		for i := 0; from < len(s); i++ {
			to := min(from+int(sizes[i])%(1+int(seed)), len(s))
			if i == 300 {
				to = len(s)
			}
			state.Add(s[from:to])
			from = to
		}
		same(t, "Sum", state.Sum(), other(s), seed)
	}
}

// The rules: what is handed in isn't kept in the caller's memory.
func TestKeepsNoText(t *testing.T) {
	for _, size := range edges[1:] {
		s := drawn(18, size)
		bytes := []byte(s)
		state := New()
		state.Add(unsafe.String(&bytes[0], size))
		clear(bytes)
		same(t, "the first piece", state.Sum(), other(s), size)
		copy(bytes, s)
		state.Add(unsafe.String(&bytes[0], size))
		same(t, "stays", string(bytes), s, size)
		clear(bytes)
		same(t, "the second piece", state.Sum(), other(s+s), size)
	}
}

// The rules: no more is kept than the promises need, however much was added.
func TestKeepsNoMore(t *testing.T) {
	state := New()
	for size := range 300 {
		state.Add(drawn(19, size))
		if len(state.rest) >= 64 {
			t.Fatalf("%d bytes are kept", len(state.rest))
		}
	}
}

// P1: answers hang on nothing but what was added, whoever asks at the same time.
func TestSumsAtOnce(t *testing.T) {
	done := make(chan bool)
	for i := range 8 {
		go func() {
			s := drawn(uint32(i), 1000+i)
			right := true
			for cut := range 200 {
				right = right && of(s[:cut], s[cut:]).Sum() == other(s) && Of(s) == other(s)
			}
			done <- right
		}()
	}
	for i := range 8 {
		same(t, "at once", <-done, true, i)
	}
}
