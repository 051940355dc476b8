package stretch

import (
	"math"
	"math/big"
	"slices"
	"testing"
)

// The chapter's numbers, written out: no test takes them from what it tests.
const (
	all    = 281474976710656 // 2^48
	last   = 281474976710655 // 2^48 - 1
	block  = 16777216        // 2^24
	low    = 16777215        // 2^24 - 1
	middle = 8388608         // 2^23
)

// edges are numbers at which something turns, inside the round and out of it.
var edges = []int{
	0, 1, 2, middle - 1, middle, middle + 1, low - 1, low, block, block + 1, block + 5,
	block + middle - 1, block + middle, block + middle + 1, 2*block - 1, 2 * block, 123456789012,
	all/2 - 1, all / 2, all/2 + 1, all/2 + middle, all - block - 1, all - block, all - block + 1,
	all - middle - 1, all - middle, all - middle + 1, last - 1, last,
	all, all + 1, all + middle, all + low, all + block, 2*all - 1, 2*all + 7,
	-1, -2, -middle + 1, -middle, -middle - 1, -low, -block, -block - 1, -last, -all, -all - 1, -2*all - 3,
	1<<62 + 11, -1<<62 + 11, math.MaxInt, math.MaxInt - 1, math.MaxInt - middle, math.MinInt, math.MinInt + 1, math.MinInt + middle,
}

// steps are ways between numbers at which what is got back turns.
var steps = []int{
	0, 1, -1, 5, -5, 1000, -1000, middle - 1, middle, middle + 1, -middle + 1, -middle, -middle - 1,
	low, block, block + 1, -low, -block, -block - 1, block + middle, -block - middle, all/2 - 1, all / 2, -all/2 + 1,
}

func same[V comparable](t *testing.T, what string, got, want V, args ...int) {
	t.Helper()
	if got != want {
		t.Errorf("%s %v: got %v, want %v", what, args, got, want)
	}
}

func sameList(t *testing.T, what string, got, want []int, args ...int) {
	t.Helper()
	if !slices.Equal(got, want) {
		t.Errorf("%s %v: got %v, want %v", what, args, got, want)
	}
}

// modulo is the sum of numbers, modulo another one, reckoned without any bound.
func modulo(by int, numbers ...int) int {
	sum := new(big.Int)
	for _, n := range numbers {
		sum.Add(sum, big.NewInt(int64(n)))
	}
	// Mod is never below 0, whatever the sum is.
	return int(sum.Mod(sum, big.NewInt(int64(by))).Int64())
}

// apart is how far a number is from another one, round, from -2^47 + 1 to 2^47.
func apart(n, from int) int {
	far := modulo(all, modulo(all, n), -modulo(all, from))
	if far > all/2 {
		far -= all
	}
	return far
}

// Promise 3.1: a number of 24 bits is itself, and of others the lowest 24 bits are taken.
func TestShort(t *testing.T) {
	for _, n := range []int{0, 1, 5, middle - 1, middle, middle + 1, low - 1, low} {
		same(t, "of 24 bits", Short(n), n, n)
	}
	same(t, "one more", Short(block), 0)
	same(t, "two more", Short(block+1), 1)
	same(t, "ordinary", Short(7*block+12345), 12345)
	same(t, "the last of 48 bits", Short(last), low)
	same(t, "behind the last of 48 bits", Short(all), 0)
	same(t, "once round", Short(all+block+9), 9)
	same(t, "bytes", Short(0x123456789abc), 0x789abc)
	same(t, "all bytes", Short(0x1122334455667788), 0x667788)
}

// Promise 3.1: numbers below 0 are taken modulo 2^24, too, and the least and the greatest.
func TestShortOutside(t *testing.T) {
	same(t, "-1", Short(-1), low)
	same(t, "-5", Short(-5), low-4)
	same(t, "-2^23", Short(-middle), middle)
	same(t, "-2^24 + 1", Short(-low), 1)
	same(t, "-2^24", Short(-block), 0)
	same(t, "-2^24 - 1", Short(-block-1), low)
	same(t, "-2^48", Short(-all), 0)
	same(t, "the least", Short(math.MinInt), 0)
	same(t, "one above the least", Short(math.MinInt+1), 1)
	same(t, "the greatest", Short(math.MaxInt), low)
	for _, n := range edges {
		same(t, "by whole numbers", Short(n), modulo(block, n), n)
	}
}

// Promise 3.1: the nearest one of the lowest bits, in the same block, in the one ahead, and in the one behind.
func TestLong(t *testing.T) {
	cases := []struct{ near, short, long int }{
		{block + 5, low, low}, // the chapter's
		{block + 5, 5, block + 5}, {block + 5, 6, block + 6}, {block + 5, 4, block + 4},
		{block + 5, 0, block}, {block + 5, low - 1, low - 1},
		{3*block - 2, 3, 3*block + 3}, {3*block - 2, low, 3*block - 1}, {3*block - 2, 0, 3 * block},
		{4*block + middle, 0, 5 * block}, {4*block + middle, 1, 4*block + 1}, {4*block + middle, low, 5*block - 1},
		{4*block + middle, middle, 4*block + middle}, {4*block + middle - 1, 0, 4 * block}, {4*block + middle + 1, 0, 5 * block},
		{0x123456789abc, 0x789abd, 0x123456789abd}, {0x123456f89abc, 0x000001, 0x123457000001},
	}
	for _, c := range cases {
		same(t, "Long", Long(c.near, c.short), c.long, c.near, c.short)
	}
}

// Promise 3.1: of two numbers that are as near, 2^23 apart, the one further on is taken.
func TestLongHalfApart(t *testing.T) {
	for _, near := range []int{9 * block, 9*block + 1, 9*block + middle - 1, 9*block + middle, 9*block + low} {
		same(t, "2^23 on", Long(near, near+middle), near+middle, near)
		same(t, "2^23 back", Long(near, near-middle), near+middle, near)
		same(t, "one less on", Long(near, near+middle-1), near+middle-1, near)
		same(t, "one less back", Long(near, near-middle+1), near-middle+1, near)
		same(t, "one more on", Long(near, near+middle+1), near-middle+1, near)
		same(t, "one more back", Long(near, near-middle-1), near+middle-1, near)
	}
}

// Promise 3.1: the nearest one is found over the end of the round, both ways.
func TestLongRound(t *testing.T) {
	cases := []struct{ near, short, long int }{
		{0, 0, 0}, {0, 1, 1}, {0, low, last}, {0, low - 1, last - 1},
		{0, middle - 1, middle - 1}, {0, middle, middle}, {0, middle + 1, all - middle + 1},
		{last, low, last}, {last, 0, 0}, {last, 1, 1}, {last, low - 1, last - 1},
		{last, middle - 2, middle - 2}, {last, middle - 1, middle - 1}, {last, middle, all - middle}, {last, middle + 1, all - middle + 1},
		{middle - 1, low, low}, {middle, low, low}, {middle - 1, middle, middle}, {middle - 2, low, last}, {middle - 2, low - 1, low - 1}, {middle - 3, low - 1, last - 1},
		{all - middle, 0, 0}, {all - middle - 1, 0, all - block}, {all - middle, 1, all - low},
	}
	for _, c := range cases {
		same(t, "Long", Long(c.near, c.short), c.long, c.near, c.short)
	}
}

// Promise 3.1: numbers out of their bounds are taken into them first.
func TestLongOutside(t *testing.T) {
	cases := []struct{ near, short, long int }{
		{block + 5, -1, low}, {block + 5, -block, block}, {block + 5, block + 6, block + 6},
		{block + 5, last, low}, {block + 5, all + 4, block + 4}, {block + 5, 9*block + 7, block + 7},
		{-1, 0, 0}, {-1, -1, last}, {-1, low - 1, last - 1}, {-block, 3, all - block + 3},
		{all, low, last}, {all, 1, 1}, {all + block, low, low}, {-all, 2, 2}, {-all - 1, 0, 0},
		{math.MinInt, math.MinInt, 0}, {math.MinInt, math.MaxInt, last}, {math.MinInt, middle, middle},
		{math.MinInt, middle + 1, all - middle + 1}, {math.MaxInt, math.MinInt, 0}, {math.MaxInt, math.MaxInt, last},
		{math.MaxInt, middle, all - middle}, {math.MaxInt, middle - 1, middle - 1}, {0, math.MinInt, 0}, {0, math.MaxInt, last},
	}
	for _, c := range cases {
		same(t, "Long", Long(c.near, c.short), c.long, c.near, c.short)
	}
}

// Promise 3.1: of the edges, each one is of 48 bits, has the lowest bits, and is in the bounds of what is nearest.
func TestLongOfEdges(t *testing.T) {
	for _, near := range edges {
		for _, short := range edges {
			n := Long(near, short)
			if n < 0 || n > last {
				t.Errorf("Long %d, %d: %d has more than 48 bits", near, short, n)
			}
			same(t, "the lowest bits", modulo(block, n), modulo(block, short), near, short)
			if far := apart(n, near); far < -middle+1 || far > middle {
				t.Errorf("Long %d, %d: %d is %d away", near, short, n, far)
			}
		}
	}
}

// Promise 3.1: safe is what is from -2^23 + 1 to 2^23 away.
func TestSafe(t *testing.T) {
	for _, near := range []int{0, 1, block, 123456789012, all / 2, last - 1, last, all + 5, -1, -all, math.MinInt, math.MaxInt - all} {
		cases := []struct {
			far  int
			safe bool
		}{
			{0, true}, {1, true}, {-1, true}, {1000, true}, {-1000, true},
			{middle - 1, true}, {middle, true}, {middle + 1, false},
			{-middle + 1, true}, {-middle, false}, {-middle - 1, false},
			{low, false}, {block, false}, {block + 1, false}, {-low, false}, {-block, false}, {-block - 1, false},
			{all/2 - 1, false}, {all / 2, false}, {all/2 + 1, false}, {all / 4, false}, {-all / 4, false},
		}
		for _, c := range cases {
			n := modulo(all, near, c.far)
			same(t, "Safe", Safe(near, n), c.safe, near, n)
		}
	}
}

// Promise 3.1: which of both is near, and which is asked about, is not the same: at 2^23 only one way is safe.
func TestSafeOneWay(t *testing.T) {
	same(t, "on", Safe(block, block+middle), true)
	same(t, "back", Safe(block+middle, block), false)
	same(t, "on, round", Safe(last, middle-1), true)
	same(t, "back, round", Safe(middle-1, last), false)
	same(t, "one more on", Safe(0, middle+1), false)
	same(t, "one less back", Safe(middle-1, 0), true)
}

// Promise 3.1: safe is asked round, and of numbers out of the round.
func TestSafeOutside(t *testing.T) {
	cases := []struct {
		near, n int
		safe    bool
	}{
		{0, last, true}, {last, 0, true}, {0, all - middle + 1, true}, {0, all - middle, false}, {last, middle - 1, true}, {last, middle, false},
		{0, -1, true}, {-1, 0, true}, {0, -middle + 1, true}, {0, -middle, false}, {0, all, true}, {all, 0, true},
		{0, all + middle, true}, {0, all + middle + 1, false}, {3, -5*all + 3, true}, {-all - 1, all + 1, true}, {-all, middle + 1, false},
		{math.MinInt, math.MaxInt, true}, {math.MaxInt, math.MinInt, true}, {math.MinInt, 0, true}, {0, math.MaxInt, true},
		{math.MinInt, middle, true}, {math.MinInt, middle + 1, false}, {math.MaxInt, middle - 1, true}, {math.MaxInt, middle, false},
		{middle, math.MaxInt, false}, {middle - 1, math.MaxInt, false}, {middle - 2, math.MaxInt, true}, {middle, math.MinInt, false}, {middle - 1, math.MinInt, true},
	}
	for _, c := range cases {
		same(t, "Safe", Safe(c.near, c.n), c.safe, c.near, c.n)
	}
	for _, near := range edges {
		for _, n := range edges {
			far := apart(n, near)
			same(t, "Safe of edges", Safe(near, n), far >= -middle+1 && far <= middle, near, n)
		}
	}
}

// Promise 3.2: the first one has from's block or the next one, and each next one is 2^24 further on.
func TestNext(t *testing.T) {
	cases := []struct {
		from, short, many int
		list              []int
	}{
		{0, 0, 3, []int{0, block, 2 * block}},
		{0, 7, 2, []int{7, block + 7}},
		{block + 5, 5, 2, []int{block + 5, 2*block + 5}},
		{block + 5, 6, 2, []int{block + 6, 2*block + 6}},
		{block + 5, 4, 2, []int{2*block + 4, 3*block + 4}},
		{block + 5, 0, 1, []int{2 * block}},
		{block + 5, low, 1, []int{2*block - 1}},
		{block, low, 1, []int{2*block - 1}},
		{block - 1, low, 2, []int{low, block + low}},
		{block - 1, 0, 2, []int{block, 2 * block}},
		{0x123456789abc, 0x789abb, 1, []int{0x123457789abb}},
		{1<<40 + middle, middle + 1, 1, []int{1<<40 + middle + 1}},
	}
	for _, c := range cases {
		sameList(t, "Next", Next(c.from, c.short, c.many), c.list, c.from, c.short, c.many)
	}
}

// Promise 3.2: behind the last number of 48 bits the list goes on from 0.
func TestNextRound(t *testing.T) {
	cases := []struct {
		from, short, many int
		list              []int
	}{
		{last, low, 2, []int{last, low}},
		{last, 0, 2, []int{0, block}},
		{last, low - 1, 2, []int{low - 1, block + low - 1}},
		{last - 1, low, 3, []int{last, low, block + low}},
		{all - block, 0, 3, []int{all - block, 0, block}},
		{all - block + 1, 0, 2, []int{0, block}},
		{all - 2*block, 9, 4, []int{all - 2*block + 9, all - block + 9, 9, block + 9}},
		{0, low, 2, []int{low, block + low}},
	}
	for _, c := range cases {
		sameList(t, "Next", Next(c.from, c.short, c.many), c.list, c.from, c.short, c.many)
	}
}

// Promise 3.2: as many as are asked for, held from 0 to 100.
func TestNextMany(t *testing.T) {
	cases := []struct{ many, length int }{
		{0, 0}, {1, 1}, {2, 2}, {50, 50}, {99, 99}, {100, 100}, {101, 100}, {102, 100}, {block, 100}, {math.MaxInt, 100},
		{-1, 0}, {-2, 0}, {-100, 0}, {-101, 0}, {math.MinInt, 0},
	}
	for _, c := range cases {
		for _, from := range []int{5, last, all - 50*block} {
			list := Next(from, 3, c.many)
			same(t, "length", len(list), c.length, from, c.many)
			for i, n := range list {
				same(t, "member", n, modulo(all, list[0], i*block), from, c.many, i)
			}
		}
	}
}

// Promise 3.2: numbers out of their bounds are taken into them first.
func TestNextOutside(t *testing.T) {
	cases := []struct {
		from, short, many int
		list              []int
	}{
		{5, -1, 1, []int{low}}, {5, block + 5, 1, []int{5}}, {5, block + 4, 1, []int{block + 4}}, {5, -block, 1, []int{block}},
		{5, last, 1, []int{low}}, {5, all + 6, 1, []int{6}},
		{-1, low, 2, []int{last, low}}, {-1, 0, 1, []int{0}}, {-block, 0, 2, []int{all - block, 0}},
		{all, 0, 1, []int{0}}, {all + block + 1, 0, 1, []int{2 * block}}, {-all - 1, -1, 2, []int{last, low}},
		{math.MinInt, math.MinInt, 2, []int{0, block}}, {math.MinInt, math.MaxInt, 2, []int{low, block + low}},
		{math.MaxInt, math.MinInt, 2, []int{0, block}}, {math.MaxInt, math.MaxInt, 2, []int{last, low}},
		{0, math.MinInt, 1, []int{0}}, {1, math.MinInt, 1, []int{block}}, {0, math.MaxInt, 1, []int{low}},
	}
	for _, c := range cases {
		sameList(t, "Next", Next(c.from, c.short, c.many), c.list, c.from, c.short, c.many)
	}
}

// Promise 3.2: of the edges, the first one is of 48 bits, has the lowest bits, and is fewer than 2^24 steps on.
func TestNextOfEdges(t *testing.T) {
	for _, from := range edges {
		for _, short := range edges {
			list := Next(from, short, 3)
			if len(list) != 3 {
				t.Fatalf("Next %d, %d: %v", from, short, list)
			}
			first := list[0]
			if first < 0 || first > last {
				t.Errorf("Next %d, %d: %d has more than 48 bits", from, short, first)
			}
			same(t, "the lowest bits", modulo(block, first), modulo(block, short), from, short)
			if on := modulo(all, first, -modulo(all, from)); on >= block {
				t.Errorf("Next %d, %d: %d is %d steps on", from, short, first, on)
			}
			same(t, "the second one", list[1], modulo(all, first, block), from, short)
			same(t, "the third one", list[2], modulo(all, first, 2*block), from, short)
		}
	}
}

// Promise 3.2, and P1: a list that was handed out is nobody else's.
func TestNextIsNew(t *testing.T) {
	one, other := Next(5, 3, 4), Next(5, 3, 4)
	one[0] = -7
	sameList(t, "the other one", other, []int{block + 3, 2*block + 3, 3*block + 3, 4*block + 3})
	sameList(t, "one more", Next(5, 3, 1), []int{block + 3})
}

// Promise 3.3: a number is got back from its lowest bits, just if that is safe.
func TestGotBackJustIfSafe(t *testing.T) {
	for _, near := range edges {
		for _, far := range steps {
			n := modulo(all, near, far)
			safe := apart(n, near) > -middle && apart(n, near) <= middle
			same(t, "got back", Long(near, Short(n)) == n, safe, near, n)
			same(t, "safe", Safe(near, n), safe, near, n)
		}
		for _, other := range edges {
			n := modulo(all, other)
			same(t, "as it is safe", Long(near, Short(n)) == n, Safe(near, n), near, n)
		}
	}
}

// Promise 3.3: what is got back is by how near it is, and not by where blocks end.
func TestGotBackInTurn(t *testing.T) {
	near := all - 3*block - 1
	for i := range 4000 {
		n := modulo(all, near, (i*7919)%middle+1)
		same(t, "got back", Long(near, Short(n)), n, near)
		same(t, "the other way", Long(n, Short(near)) == near, apart(near, n) > -middle, n)
		near = n
	}
}
