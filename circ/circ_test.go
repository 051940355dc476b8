package circ

import (
	"math"
	"math/big"
	"testing"
)

// The chapter's numbers, written out: no test takes them from what it tests.
const (
	all    = 281474976710656 // 2^48
	last   = 281474976710655 // 2^48 - 1
	middle = 140737488355328 // 2^47
)

// edges are numbers at which something turns, inside the round and out of it.
var edges = []int{
	0, 1, 2, 3, 5, 9, 1<<24 - 1, 1 << 24, 1<<32 - 1, 1 << 32,
	middle - 2, middle - 1, middle, middle + 1, middle + 2, last - 2, last - 1, last,
	all, all + 1, all + middle - 1, all + middle, all + middle + 1, 2*all - 1, 2 * all, 2*all + 7,
	-1, -2, -5, -middle + 1, -middle, -middle - 1, -last, -all, -all - 1, -all + 1, -2*all - 3,
	1<<62 + 11, -1<<62 + 11,
	math.MaxInt, math.MaxInt - 1, math.MaxInt - middle, math.MinInt, math.MinInt + 1, math.MinInt + middle,
}

func same[V comparable](t *testing.T, what string, got, want V, args ...int) {
	t.Helper()
	if got != want {
		t.Errorf("%s %v: got %v, want %v", what, args, got, want)
	}
}

// whole is the sum of numbers, modulo 2^48, reckoned without any bound.
func whole(signs string, numbers ...int) int {
	sum := new(big.Int)
	for i, n := range numbers {
		if signs[i] == '-' {
			sum.Sub(sum, big.NewInt(int64(n)))
		} else {
			sum.Add(sum, big.NewInt(int64(n)))
		}
	}
	// Mod is never below 0, whatever the sum is.
	return int(sum.Mod(sum, big.NewInt(all)).Int64())
}

// steps is how many steps lead from one number to another one, by the chapter's bounds.
func steps(a, b int) int {
	n := whole("+-", a, b)
	if n > middle {
		n -= all
	}
	return n
}

// Promise 2.1: a number in the round is itself.
func TestOfInside(t *testing.T) {
	for _, n := range []int{0, 1, 7, 1 << 24, 1 << 47, middle - 1, middle + 1, last - 1, last} {
		same(t, "inside", Of(n), n, n)
	}
}

// Promise 2.1: a number out of the round is taken modulo 2^48.
func TestOfOutside(t *testing.T) {
	same(t, "one behind the last", Of(all), 0)
	same(t, "two behind the last", Of(all+1), 1)
	same(t, "once round", Of(all+last), last)
	same(t, "thrice round", Of(3*all+12), 12)
	same(t, "one ahead of 0", Of(-1), last)
	same(t, "half ahead of 0", Of(-middle), middle)
	same(t, "once round backwards", Of(-all), 0)
	same(t, "more than once backwards", Of(-all-1), last)
	same(t, "the least", Of(math.MinInt), 0)
	same(t, "one above the least", Of(math.MinInt+1), 1)
	same(t, "the greatest", Of(math.MaxInt), last)
	for _, n := range edges {
		same(t, "by whole numbers", Of(n), whole("+", n), n)
	}
}

// Promise 2.1: what is added goes round, at both ends.
func TestAdd(t *testing.T) {
	same(t, "ordinary", Add(5, 9), 14)
	same(t, "none", Add(5, 0), 5)
	same(t, "backwards", Add(9, -4), 5)
	same(t, "from the last one on", Add(last, 1), 0)
	same(t, "from 0 back", Add(0, -1), last)
	same(t, "over the end", Add(last-1, 7), 5)
	same(t, "once round", Add(6, all), 6)
	same(t, "half round", Add(middle, middle), 0)
	same(t, "out of the round", Add(all+3, -2*all-4), last)
	same(t, "the greatest twice", Add(math.MaxInt, math.MaxInt), last-1)
	same(t, "the least twice", Add(math.MinInt, math.MinInt), 0)
	same(t, "the least and the greatest", Add(math.MinInt, math.MaxInt), last)
}

// Promise 2.1: numbers are as far as the shorter way is long, from -2^47 + 1 to 2^47.
func TestFar(t *testing.T) {
	same(t, "the chapter's", Far(1, last), 2)
	same(t, "the chapter's, the other way", Far(last, 1), -2)
	same(t, "ordinary", Far(9, 5), 4)
	same(t, "backwards", Far(5, 9), -4)
	same(t, "the same", Far(7, 7), 0)
	same(t, "over the end", Far(0, last), 1)
	same(t, "over the end, backwards", Far(last, 0), -1)
	same(t, "half round", Far(middle, 0), middle)
	same(t, "half round, the other way", Far(0, middle), middle)
	same(t, "half round, over the end", Far(3, middle+3), middle)
	same(t, "one less than half", Far(middle-1, 0), middle-1)
	same(t, "one less than half, backwards", Far(0, middle-1), -middle+1)
	same(t, "one more than half", Far(middle+1, 0), -middle+1)
	same(t, "one more than half, backwards", Far(0, middle+1), middle-1)
	same(t, "out of the round", Far(all+1, -1), 2)
	same(t, "the least from the greatest", Far(math.MinInt, math.MaxInt), 1)
	same(t, "the greatest from the least", Far(math.MaxInt, math.MinInt), -1)
}

// Promise 2.1: by whole numbers of any size, for each two of the edges.
func TestAddAndFarOfEdges(t *testing.T) {
	for _, a := range edges {
		for _, b := range edges {
			far := Far(a, b)
			same(t, "Add", Add(a, b), whole("++", a, b), a, b)
			same(t, "Far", far, steps(a, b), a, b)
			same(t, "so many steps make it", Add(b, far), Of(a), a, b)
			if far < -middle+1 || far > middle {
				t.Errorf("Far %d, %d: %d is out of its bounds", a, b, far)
			}
		}
	}
}

// Promise 2.2: one is less that is fewer than half a round behind.
func TestLess(t *testing.T) {
	cases := []struct {
		a, b int
		less bool
	}{
		{5, 9, true}, {9, 5, false}, {7, 7, false}, {0, 0, false}, {last, last, false},
		{last, 0, true}, {0, last, false}, {last - 3, 4, true}, {4, last - 3, false},
		{0, middle - 1, true}, {middle - 1, 0, false},
		{0, middle, false}, {middle, 0, false}, {5, middle + 5, false}, {middle + 5, 5, false},
		{middle + 1, 0, true}, {0, middle + 1, false},
		{-1, 0, true}, {all, 1, true}, {all, 0, false}, {-all, last, false},
		{math.MaxInt, math.MinInt, true}, {math.MinInt, math.MaxInt, false},
		{math.MinInt, 0, false}, {math.MinInt, 1, true}, {math.MaxInt, 0, true},
	}
	for _, c := range cases {
		same(t, "Less", Less(c.a, c.b), c.less, c.a, c.b)
	}
	for _, a := range edges {
		for _, b := range edges {
			same(t, "Less of edges", Less(a, b), steps(a, b) < 0, a, b)
		}
	}
}

// Promise 2.2: the second one if the first one is less, else the first one, in the round.
func TestLater(t *testing.T) {
	cases := []struct{ a, b, later int }{
		{5, 9, 9}, {9, 5, 9}, {7, 7, 7}, {last, 0, 0}, {0, last, 0}, {last, 3, 3}, {3, last, 3},
		{0, middle, 0}, {middle, 0, middle}, {5, middle + 5, 5}, {middle + 5, 5, middle + 5},
		{0, middle - 1, middle - 1}, {middle - 1, 0, middle - 1},
		{0, middle + 1, 0}, {middle + 1, 0, 0},
		{-1, -2, last}, {-2, -1, last}, {all + 4, 2, 4}, {2, all + 4, 4}, {-all, -all, 0},
		{math.MinInt, math.MaxInt, 0}, {math.MaxInt, math.MinInt, 0}, {math.MaxInt, last - 5, last},
	}
	for _, c := range cases {
		same(t, "Later", Later(c.a, c.b), c.later, c.a, c.b)
	}
	for _, a := range edges {
		for _, b := range edges {
			want := whole("+", a)
			if steps(a, b) < 0 {
				want = whole("+", b)
			}
			same(t, "Later of edges", Later(a, b), want, a, b)
		}
	}
}

// Promise 2.2: how many there are with both ends, round, from 1 to 2^48.
func TestMany(t *testing.T) {
	cases := []struct{ from, to, many int }{
		{7, 7, 1}, {0, 0, 1}, {last, last, 1}, {5, 9, 5}, {0, last, all}, {last, 0, 2},
		{9, 8, all}, {1, 0, all}, {last, last - 1, all}, {9, 5, all - 3}, {last - 1, 2, 5},
		{0, middle, middle + 1}, {middle, 0, middle + 1}, {middle, last, middle},
		{-1, 1, 3}, {all, 1, 2}, {-all, all, 1}, {all + 5, -4, all - 8},
		{math.MinInt, math.MinInt, 1}, {math.MinInt, math.MaxInt, all}, {math.MaxInt, math.MinInt, 2},
	}
	for _, c := range cases {
		same(t, "Many", Many(c.from, c.to), c.many, c.from, c.to)
	}
	for _, from := range edges {
		for _, to := range edges {
			same(t, "Many of edges", Many(from, to), whole("+-", to, from)+1, from, to)
		}
	}
}

// Promise 2.2: a number is within if it is met on the way up, round, from one end to the other.
func TestWithin(t *testing.T) {
	cases := []struct {
		n, from, to int
		in          bool
	}{
		{0, last - 1, 3, true}, {last - 2, last - 1, 3, false}, {last - 1, last - 1, 3, true},
		{last, last - 1, 3, true}, {3, last - 1, 3, true}, {4, last - 1, 3, false}, {middle, last - 1, 3, false},
		{5, 5, 9, true}, {7, 5, 9, true}, {9, 5, 9, true}, {4, 5, 9, false}, {10, 5, 9, false},
		{0, 5, 9, false}, {last, 5, 9, false},
		{7, 7, 7, true}, {6, 7, 7, false}, {8, 7, 7, false}, {7 + middle, 7, 7, false}, {0, 0, 0, true}, {last, 0, 0, false},
		{last, last, last, true}, {0, last, last, false},
		{8, 9, 8, true}, {9, 9, 8, true}, {0, 9, 8, true}, {last, 9, 8, true}, {middle, 9, 8, true},
		{0, 0, last, true}, {last, 0, last, true}, {middle, 0, last, true},
		{7, 9, 5, false}, {5, 9, 5, true}, {9, 9, 5, true}, {6, 9, 5, false}, {8, 9, 5, false},
		{middle, 0, middle, true}, {middle + 1, 0, middle, false},
		{all, 0, 0, true}, {-1, last, last, true}, {-1, all - 2, -all + 1, true}, {all + 2, all - 2, -all + 1, false},
		{math.MinInt, math.MaxInt, math.MinInt, true}, {1, math.MaxInt, math.MinInt, false},
		{math.MaxInt, math.MinInt, math.MaxInt, true},
	}
	for _, c := range cases {
		same(t, "Within", Within(c.n, c.from, c.to), c.in, c.n, c.from, c.to)
	}
}

// Promise 2.2: as many are within as there are, and they are those that one meets, step by step.
func TestWithinStepByStep(t *testing.T) {
	for _, from := range edges {
		for _, many := range []int{1, 2, 3, 8} {
			to := whole("++", from, many-1)
			same(t, "Many", Many(from, to), many, from, to)
			for ahead := -3; ahead < 12; ahead++ {
				n := whole("++", from, ahead)
				same(t, "Within", Within(n, from, to), ahead >= 0 && ahead < many, n, from, to)
			}
		}
	}
}

// Promise 2.2: for each three of the edges, by whole numbers of any size.
func TestWithinOfEdges(t *testing.T) {
	for _, n := range edges {
		for _, from := range edges {
			for _, to := range edges {
				in := whole("+-", n, from) <= whole("+-", to, from)
				same(t, "Within of edges", Within(n, from, to), in, n, from, to)
			}
		}
	}
}

// Promise 2.3: of two that are neither the same nor half a round apart, just one is less.
func TestJustOneIsLess(t *testing.T) {
	for _, a := range edges {
		for _, b := range edges {
			apart := whole("+-", a, b)
			one := Less(a, b) != Less(b, a)
			same(t, "just one is less", one, apart != 0 && apart != middle, a, b)
			if one {
				same(t, "the same one is later", Later(a, b), Later(b, a), a, b)
			} else {
				same(t, "none is less", Less(a, b) || Less(b, a), false, a, b)
			}
		}
	}
}
