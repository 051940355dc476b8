package dock_test

import (
	"math"
	"runtime"
	"slices"
	"strconv"
	"strings"
	"sync"
	"testing"
	"unsafe"
	"weak"

	"anabranch/dock"
)

// The functions have the chapter's signatures, for things of any type.
var (
	_ func(int) *dock.Dock[int]                                   = dock.New[int]
	_ func(*dock.Dock[string], string) bool                       = (*dock.Dock[string]).Push
	_ func(*dock.Dock[complex128], complex128) (complex128, bool) = (*dock.Dock[complex128]).Spill
	_ func(*dock.Dock[[]int]) ([]int, bool)                       = (*dock.Dock[[]int]).Pull
	_ func(*dock.Dock[any]) (any, bool)                           = (*dock.Dock[any]).First
	_ func(*dock.Dock[pair], pair, func(y pair) bool) bool        = (*dock.Dock[pair]).Place
	_ func(*dock.Dock[*int], func(x *int) bool) []*int            = (*dock.Dock[*int]).Sweep
	_ func(*dock.Dock[map[int]int]) int                           = (*dock.Dock[map[int]int]).Len
	_ func(*dock.Dock[func()]) func(yield func(func()) bool)      = (*dock.Dock[func()]).All
)

// pair is a thing with a number by which it is put in order, and one by which those that are alike are told apart.
type pair struct{ key, own int }

// rooms are how many may wait, and how many then do: each at an edge, or far beyond.
var rooms = []struct{ most, held int }{
	{-1, 0}, {0, 0}, {1, 1}, {2, 2}, {3, 3}, {64, 64}, {255, 255}, {256, 256}, {257, 257}, {998, 998}, {999, 999}, {1000, 1000}, {1001, 1000}, {1002, 1000}, {1024, 1000},
	{-2, 0}, {-999, 0}, {-1000, 0}, {-1001, 0}, {65536, 1000}, {65537, 1000}, {1 << 31, 1000}, {1<<31 - 1, 1000}, {1 << 32, 1000}, {1<<32 + 1, 1000}, {-1 << 31, 0}, {-1 << 32, 0}, {-1<<32 + 1, 0},
	{math.MinInt, 0}, {math.MinInt + 1, 0}, {math.MinInt + 1000, 0}, {math.MaxInt, 1000}, {math.MaxInt - 1, 1000},
}

// numbers are wrong or rare as a thing's value: each may wait, as any other.
var numbers = []int{0, 1, -1, 2, 7, 255, 256, 1000, 1001, 1<<32 + 1, math.MinInt, math.MinInt + 1, math.MaxInt, math.MaxInt - 1}

func same[V comparable](t *testing.T, what string, got, want V, args ...any) {
	t.Helper()
	if got != want {
		t.Errorf("%s %v: got %#v, want %#v", what, args, got, want)
	}
}

// alike tells whether two lists have the same members.
func alike[V comparable](t *testing.T, what string, got, want []V, args ...any) {
	t.Helper()
	if !slices.Equal(got, want) {
		t.Errorf("%s %v: got %#v, want %#v", what, args, got, want)
	}
}

// result is what a call answered: a thing and a bool.
type result[V comparable] struct {
	x  V
	is bool
}

// both are what a call answered, as one.
func both[V comparable](x V, is bool) result[V] { return result[V]{x, is} }

// of is a dock with room for so many, in which these wait.
func of[T any](t *testing.T, most int, things ...T) *dock.Dock[T] {
	t.Helper()
	d := dock.New[T](most)
	for i, x := range things {
		same(t, "pushed", d.Push(x), true, i, most)
	}
	return d
}

// told is all that All tells, asked for by hand, so that also a call too many would be seen.
func told[T any](d *dock.Dock[T]) []T {
	var list []T
	d.All()(func(x T) bool {
		list = append(list, x)
		return true
	})
	return list
}

// wait tells whether just these wait.
func wait[T comparable](t *testing.T, what string, d *dock.Dock[T], want []T, args ...any) {
	t.Helper()
	alike(t, what+": All", told(d), want, args...)
	same(t, what+": Len", d.Len(), len(want), args...)
	first, is := d.First()
	same(t, what+": First's bool", is, len(want) > 0, args...)
	if len(want) > 0 {
		same(t, what+": First", first, want[0], args...)
	} else {
		var none T
		same(t, what+": First of none", first, none, args...)
	}
}

// upTo are 1, 2 and so on.
func upTo(many int) []int {
	l := make([]int, many)
	for i := range l {
		l[i] = i + 1
	}
	return l
}

// yes and no answer the same of all.
func yes[T any](T) bool { return true }
func no[T any](T) bool  { return false }

// is answers true of one value.
func is[T comparable](want T) func(T) bool { return func(x T) bool { return x == want } }

// other does what a dock does, in another way: it has its things in a list that is made anew by each step.
type other[T comparable] struct {
	most int
	list []T
}

func (o *other[T]) push(x T) bool {
	if len(o.list) == o.most {
		return false
	}
	o.list = slices.Concat(o.list, []T{x})
	return true
}

func (o *other[T]) spill(x T) (T, bool) {
	all := slices.Concat(o.list, []T{x})
	if len(all) <= o.most {
		o.list = all
		return *new(T), false
	}
	o.list = slices.Clone(all[1:])
	return all[0], true
}

func (o *other[T]) pull() (T, bool) {
	if len(o.list) == 0 {
		return *new(T), false
	}
	x := o.list[0]
	o.list = slices.Clone(o.list[1:])
	return x, true
}

func (o *other[T]) place(x T, behind func(T) bool) bool {
	if len(o.list) == o.most {
		return false
	}
	var ahead, after []T
	for i, y := range o.list {
		if behind(y) {
			after = o.list[i:]
			break
		}
		ahead = append(ahead, y)
	}
	o.list = slices.Concat(ahead, []T{x}, after)
	return true
}

func (o *other[T]) sweep(gone func(T) bool) []T {
	var stay, left []T
	for _, x := range o.list {
		if gone(x) {
			left = append(left, x)
		} else {
			stay = append(stay, x)
		}
	}
	o.list = stay
	return left
}

// twin is a dock, and what it is held against.
type twin[T comparable] struct {
	d *dock.Dock[T]
	o *other[T]
}

func newTwin[T comparable](most int) twin[T] {
	return twin[T]{dock.New[T](most), &other[T]{most: most}}
}

// step does a step with both, and holds all against each other that is to be seen then.
func (b twin[T]) step(t *testing.T, kind int, x T, asked func(T) bool, args ...any) {
	t.Helper()
	switch kind {
	case 0:
		same(t, "Push", b.d.Push(x), b.o.push(x), args...)
	case 1:
		same(t, "Spill", both(b.d.Spill(x)), both(b.o.spill(x)), args...)
	case 2:
		same(t, "Pull", both(b.d.Pull()), both(b.o.pull()), args...)
	case 3:
		same(t, "Place", b.d.Place(x, asked), b.o.place(x, asked), args...)
	case 4:
		alike(t, "Sweep", b.d.Sweep(asked), b.o.sweep(asked), args...)
	}
	wait(t, "behind it", b.d, b.o.list, args...)
}

// The chapter's example: New[int](2): Push 1, Push 2, Spill 3: 1 goes; 2, 3 wait.
func TestExample(t *testing.T) {
	d := dock.New[int](2)
	same(t, "Push 1", d.Push(1), true)
	same(t, "Push 2", d.Push(2), true)
	same(t, "Spill 3", both(d.Spill(3)), result[int]{1, true})
	wait(t, "then", d, []int{2, 3})
}

// Promise 12.1: New: nothing waits; at most most things may, held from 0 to 1000. Push answers false where that many wait, and nothing changes.
func TestRoom(t *testing.T) {
	for _, r := range rooms {
		d := dock.New[int](r.most)
		wait(t, "new", d, nil, r.most)
		for i := range r.held {
			same(t, "Push", d.Push(i), true, r.most, i)
			same(t, "Len", d.Len(), i+1, r.most, i)
		}
		want := make([]int, r.held)
		for i := range want {
			want[i] = i
		}
		for range 3 {
			same(t, "Push, where as many wait as may", d.Push(-1), false, r.most)
			same(t, "Place, where as many wait as may", d.Place(-1, no[int]), false, r.most)
			wait(t, "full", d, want, r.most)
		}
		if r.held == 0 {
			continue
		}
		same(t, "Spill, where as many wait as may", both(d.Spill(-1)), result[int]{0, true}, r.most)
		wait(t, "spilt", d, append(want[1:], -1), r.most)
		same(t, "Pull, where as many wait as may", both(d.Pull()), result[int]{append(want[1:], -1)[0], true}, r.most)
		same(t, "Push, where one fewer wait than may", d.Push(-2), true, r.most)
		same(t, "Push, where again as many wait as may", d.Push(-3), false, r.most)
		same(t, "Len", d.Len(), r.held, r.most)
	}
}

// Promise 12.1: the room is there again, whatever let things go, and however often.
func TestRoomAgain(t *testing.T) {
	for _, most := range []int{1, 2, 3, 1000} {
		d := dock.New[int](most)
		for round := range 5 {
			for i := range most {
				same(t, "Push", d.Push(i), true, most, round, i)
			}
			same(t, "Push", d.Push(most), false, most, round)
			switch round % 3 {
			case 0:
				for range most {
					d.Pull()
				}
			case 1:
				same(t, "Sweep", len(d.Sweep(yes[int])), most, most, round)
			case 2:
				for range most {
					d.Spill(-5)
				}
				alike(t, "Sweep", d.Sweep(is(-5)), slices.Repeat([]int{-5}, most), most, round)
			}
			wait(t, "none", d, nil, most, round)
		}
	}
}

// Promise 12.1: Push lets a thing wait behind all others; Pull is the first one, which waits no more; First the same, but it waits.
func TestPushPullFirst(t *testing.T) {
	d := of(t, 3, "a", "", "c")
	for range 3 {
		same(t, "First", both(d.First()), result[string]{"a", true})
	}
	wait(t, "First lets all wait", d, []string{"a", "", "c"})
	same(t, "Pull", both(d.Pull()), result[string]{"a", true})
	wait(t, "pulled", d, []string{"", "c"})
	same(t, "First of no byte", both(d.First()), result[string]{"", true})
	same(t, "Pull of no byte", both(d.Pull()), result[string]{"", true})
	same(t, "Push", d.Push("d"), true)
	same(t, "Pull", both(d.Pull()), result[string]{"c", true})
	same(t, "Pull", both(d.Pull()), result[string]{"d", true})
	for range 3 {
		same(t, "Pull of none", both(d.Pull()), result[string]{"", false})
		same(t, "First of none", both(d.First()), result[string]{"", false})
	}
	wait(t, "none", d, nil)
	same(t, "Push behind none", d.Push("e"), true)
	wait(t, "one", d, []string{"e"})
}

// Promise 12.1: Spill: if as many wait as may, the first one goes, and true; else zero and false; x waits behind all others in both cases.
func TestSpill(t *testing.T) {
	d := dock.New[int](3)
	for i, want := range [][]int{{10}, {10, 11}, {10, 11, 12}} {
		same(t, "Spill with room", both(d.Spill(10+i)), result[int]{0, false}, i)
		wait(t, "with room", d, want, i)
	}
	for i := range 20 {
		same(t, "Spill without room", both(d.Spill(13+i)), result[int]{10 + i, true}, i)
		wait(t, "without room", d, []int{11 + i, 12 + i, 13 + i}, i)
	}
	d.Pull()
	same(t, "Spill, where one fewer wait", both(d.Spill(1)), result[int]{0, false})
	same(t, "Spill, where as many wait", both(d.Spill(2)), result[int]{31, true})
	one := of(t, 1, "a")
	same(t, "Spill with room for one", both(one.Spill("b")), result[string]{"a", true})
	wait(t, "room for one", one, []string{"b"})
}

// Promise 12.1: Spill with room for none: it is x itself, and true, and nothing waits.
func TestSpillWithoutAnyRoom(t *testing.T) {
	for _, most := range []int{0, -1, -1000, math.MinInt} {
		d := dock.New[int](most)
		for _, n := range numbers {
			same(t, "Spill with room for none", both(d.Spill(n)), result[int]{n, true}, most)
			same(t, "Push with room for none", d.Push(n), false, most)
			same(t, "Place with room for none", d.Place(n, yes[int]), false, most)
			same(t, "Pull with room for none", both(d.Pull()), result[int]{0, false}, most)
			wait(t, "room for none", d, nil, most, n)
		}
	}
	same(t, "Spill of a struct", both(dock.New[pair](0).Spill(pair{3, 4})), result[pair]{pair{3, 4}, true})
}

// Promises 12.1 and 12.2: where none, one, as many as may, and one fewer wait, each function answers as it is told, for each room up to 5.
func TestEachFunctionAtEachLen(t *testing.T) {
	for most := range 6 {
		for many := range most + 1 {
			for kind := range 5 {
				for k := range many + 2 {
					b := newTwin[int](most)
					for i := range many {
						b.step(t, 0, i+1, nil, most, many, kind, k)
					}
					b.step(t, kind, 77, is(k), most, many, kind, k)
					b.step(t, kind, 78, no[int], most, many, kind, k)
					b.step(t, kind, 79, yes[int], most, many, kind, k)
				}
			}
		}
	}
}

// Promise 12.2: Place: x waits ahead of the first one for which behind answers true, behind all if there is none, and nothing else moves.
func TestPlace(t *testing.T) {
	for _, r := range []struct {
		what   string
		behind func(int) bool
		want   []int
	}{
		{"ahead of the first", is(10), []int{99, 10, 20, 20, 30, 40}},
		{"ahead of the first, as all would be behind", yes[int], []int{99, 10, 20, 20, 30, 40}},
		{"ahead of the first of two that are alike", is(20), []int{10, 99, 20, 20, 30, 40}},
		{"ahead of one in the middle", is(30), []int{10, 20, 20, 99, 30, 40}},
		{"ahead of the first of several", func(y int) bool { return y > 20 }, []int{10, 20, 20, 99, 30, 40}},
		{"ahead of the first, and the last would be behind too", func(y int) bool { return y == 20 || y == 40 }, []int{10, 99, 20, 20, 30, 40}},
		{"ahead of the last", is(40), []int{10, 20, 20, 30, 99, 40}},
		{"behind all", no[int], []int{10, 20, 20, 30, 40, 99}},
		{"behind all, as there is none so great", is(50), []int{10, 20, 20, 30, 40, 99}},
	} {
		d := of(t, 6, 10, 20, 20, 30, 40)
		same(t, r.what, d.Place(99, r.behind), true)
		wait(t, r.what, d, r.want)
		same(t, r.what+": where as many wait as may", d.Place(98, r.behind), false)
		wait(t, r.what+": where as many wait as may", d, r.want)
	}
	d := dock.New[int](2)
	same(t, "Place where none waits", d.Place(5, yes[int]), true)
	same(t, "Place where one waits", d.Place(4, yes[int]), true)
	same(t, "Place without room", d.Place(3, yes[int]), false)
	wait(t, "placed", d, []int{4, 5})
	d.Pull()
	same(t, "Place where again one waits", d.Place(6, no[int]), true)
	wait(t, "placed behind", d, []int{5, 6})
}

// Promise 12.2: things placed by their numbers are in order, those that are alike as they came, or the other way round, as behind says.
func TestPlaceInOrder(t *testing.T) {
	keys := []int{5, 3, 9, 3, 3, 0, -7, 9, 5, 4, math.MaxInt, math.MinInt, 3, 0}
	late, early := dock.New[pair](len(keys)), dock.New[pair](len(keys))
	var want, round []pair
	for i, k := range keys {
		x := pair{k, i}
		same(t, "Place", late.Place(x, func(y pair) bool { return y.key > k }), true, i)
		same(t, "Place", early.Place(x, func(y pair) bool { return y.key >= k }), true, i)
		want = append(want, x)
		round = append([]pair{x}, round...)
	}
	byKey := func(a, b pair) int {
		if a.key < b.key {
			return -1
		}
		if a.key > b.key {
			return 1
		}
		return 0
	}
	slices.SortStableFunc(want, byKey)
	slices.SortStableFunc(round, byKey)
	wait(t, "behind those alike", late, want)
	wait(t, "ahead of those alike", early, round)
}

// Promise 12.2: Sweep: all for which gone answers true wait no more: these, in order; the others wait, in order.
func TestSweep(t *testing.T) {
	turn := 0
	for _, r := range []struct {
		what       string
		gone       func(int) bool
		want, stay []int
	}{
		{"none", no[int], nil, []int{5, 3, 9, 3, 4, 8}},
		{"the first", is(5), []int{5}, []int{3, 9, 3, 4, 8}},
		{"the last", is(8), []int{8}, []int{5, 3, 9, 3, 4}},
		{"one in the middle", is(9), []int{9}, []int{5, 3, 3, 4, 8}},
		{"two that are alike", is(3), []int{3, 3}, []int{5, 9, 4, 8}},
		{"one of two that are alike", func(int) bool { turn++; return turn == 4 }, []int{3}, []int{5, 3, 9, 4, 8}},
		{"every second one", func(int) bool { turn++; return turn%2 == 0 }, []int{3, 3, 8}, []int{5, 9, 4}},
		{"every other second one", func(int) bool { turn++; return turn%2 == 1 }, []int{5, 9, 4}, []int{3, 3, 8}},
		{"the first and the last", func(x int) bool { return x == 5 || x == 8 }, []int{5, 8}, []int{3, 9, 3, 4}},
		{"all but the first", func(x int) bool { return x != 5 }, []int{3, 9, 3, 4, 8}, []int{5}},
		{"all but the last", func(x int) bool { return x != 8 }, []int{5, 3, 9, 3, 4}, []int{8}},
		{"all", yes[int], []int{5, 3, 9, 3, 4, 8}, nil},
	} {
		turn = 0
		d := of(t, 6, 5, 3, 9, 3, 4, 8)
		alike(t, r.what, d.Sweep(r.gone), r.want)
		wait(t, r.what, d, r.stay)
		same(t, r.what+": room", d.Push(1), len(r.want) > 0)
		if len(r.want) > 0 {
			wait(t, r.what+": pushed behind", d, append(slices.Clone(r.stay), 1))
		}
	}
	same(t, "Sweep where none waits", len(dock.New[int](3).Sweep(yes[int])), 0)
	one := of(t, 1, 7)
	alike(t, "Sweep of the only one", one.Sweep(yes[int]), []int{7})
	alike(t, "Sweep once more", one.Sweep(yes[int]), nil)
	wait(t, "swept", one, nil)
}

// Promise 12.2: Sweep takes the very ones of which gone answered true, also of things that are of no size and all alike.
func TestSweepOfNothings(t *testing.T) {
	for many := range 8 {
		for chosen := range 1 << many {
			d := dock.New[struct{}](many)
			for range many {
				d.Push(struct{}{})
			}
			turn, ones := -1, 0
			list := d.Sweep(func(struct{}) bool {
				turn++
				ones += chosen >> turn & 1
				return chosen>>turn&1 == 1
			})
			same(t, "asked", turn, many-1, many, chosen)
			same(t, "swept", len(list), ones, many, chosen)
			same(t, "wait", d.Len(), many-ones, many, chosen)
		}
	}
}

// Promise 12.2: Sweep of each choice among up to 8 things.
func TestSweepOfEachChoice(t *testing.T) {
	for many := range 9 {
		for chosen := range 1 << many {
			b := newTwin[int](8)
			for i := range many {
				b.step(t, 0, i, nil, many, chosen)
			}
			b.step(t, 4, 0, func(x int) bool { return chosen>>x&1 == 1 }, many, chosen)
			b.step(t, 3, 50, func(x int) bool { return x > 3 }, many, chosen)
		}
	}
}

// Promise 12.2: All tells each that waits, in order, as long as yield answers true.
func TestAll(t *testing.T) {
	for many := range 6 {
		d := of(t, 5, upTo(many)...)
		for stop := range many + 2 {
			var list []int
			d.All()(func(x int) bool {
				list = append(list, x)
				return len(list) < stop
			})
			// Who answers false at once is asked once.
			alike(t, "left", list, upTo(min(max(stop, 1), many)), many, stop)
			list = nil
			for x := range d.All() {
				if len(list) == stop {
					break
				}
				list = append(list, x)
			}
			alike(t, "broken off", list, upTo(min(stop, many)), many, stop)
			wait(t, "All lets all wait", d, upTo(many), many, stop)
		}
	}
}

// Promise 12.2: what All told once is told again, as what then waits, also one that was left, and one within another one.
func TestAllAgain(t *testing.T) {
	d := dock.New[int](4)
	all := d.All()
	again := func(what string, want ...int) {
		t.Helper()
		for range 2 {
			var list []int
			for x := range all {
				list = append(list, x)
			}
			alike(t, what, list, want)
			for range all {
				break
			}
		}
	}
	again("none")
	d.Push(1)
	again("one", 1)
	d.Push(2)
	d.Push(3)
	again("three", 1, 2, 3)
	d.Pull()
	again("pulled", 2, 3)
	d.Place(9, is(3))
	again("placed", 2, 9, 3)
	d.Spill(4)
	d.Spill(5)
	again("spilt", 9, 3, 4, 5)
	d.Sweep(is(4))
	again("swept", 9, 3, 5)
	var list []int
	for x := range all {
		for y := range all {
			list = append(list, 10*x+y)
		}
	}
	alike(t, "one within another one", list, []int{99, 93, 95, 39, 33, 35, 59, 53, 55})
	d.Sweep(yes[int])
	again("none again")
}

// Promise 12.2: of a dock that is nil: false, zero, nothing and 0; nobody is asked.
func TestNil(t *testing.T) {
	var d *dock.Dock[string]
	asked := func(string) bool {
		t.Error("asked of a dock that is nil")
		return true
	}
	for range 2 {
		same(t, "Push", d.Push("a"), false)
		same(t, "Spill", both(d.Spill("a")), result[string]{"", false})
		same(t, "Pull", both(d.Pull()), result[string]{"", false})
		same(t, "First", both(d.First()), result[string]{"", false})
		same(t, "Place", d.Place("a", asked), false)
		same(t, "Place with a function that is nil", d.Place("a", nil), false)
		same(t, "Sweep", len(d.Sweep(asked)), 0)
		same(t, "Sweep with a function that is nil", len(d.Sweep(nil)), 0)
		same(t, "Len", d.Len(), 0)
		d.All()(asked)
		d.All()(nil)
		for range d.All() {
			t.Error("told of a dock that is nil")
		}
	}
	same(t, "Spill of a number", both((*dock.Dock[int])(nil).Spill(5)), result[int]{0, false})
}

// Promise 12.2: a function that is nil answers false of all: Place is behind all, Sweep lets none go.
func TestNilFunction(t *testing.T) {
	for many := range 5 {
		d := of(t, 4, upTo(many)...)
		same(t, "Sweep", len(d.Sweep(nil)), 0, many)
		wait(t, "swept", d, upTo(many), many)
		same(t, "Place", d.Place(many+1, nil), many < 4, many)
		wait(t, "placed, if there was room", d, upTo(min(many+1, 4)), many)
		d.All()(nil)
	}
}

// Promise 12.2: a dock that New did not make has room for none, and does all that such a one does.
func TestNotMade(t *testing.T) {
	var d dock.Dock[int]
	same(t, "Push", d.Push(1), false)
	same(t, "Place", d.Place(1, yes[int]), false)
	same(t, "Spill", both(d.Spill(1)), result[int]{1, true})
	same(t, "Pull", both(d.Pull()), result[int]{0, false})
	same(t, "Sweep", len(d.Sweep(yes[int])), 0)
	wait(t, "none", &d, nil)
}

// Promise 12.2: Place asks each in order, up to the first yes, and nobody where as many wait as may; Sweep asks each once, in order.
func TestAsked(t *testing.T) {
	var list []int
	up := func(stop int) func(int) bool {
		list = nil
		return func(x int) bool {
			list = append(list, x)
			return x == stop
		}
	}
	for many := range 6 {
		for stop := range many + 2 {
			d := of(t, 6, upTo(many)...)
			d.Place(77, up(stop))
			if stop == 0 {
				alike(t, "Place asked all", list, upTo(many), many, stop)
			} else {
				alike(t, "Place asked", list, upTo(min(stop, many)), many, stop)
			}
			full := of(t, many, upTo(many)...)
			full.Place(77, up(stop))
			alike(t, "Place asked, where as many wait as may", list, nil, many, stop)
			full.Sweep(up(stop))
			alike(t, "Sweep asked", list, upTo(many), many, stop)
		}
	}
	dock.New[int](0).Place(1, up(1))
	alike(t, "Place asked, with room for none", list, nil)
}

// Promise 12.3: nine steps, in each order of four, and of five with room for 2, hold against another way to do them.
func TestEachOrderOfSteps(t *testing.T) {
	const kinds = 9
	for most, all := range []int{6561, 6561, 59049, 6561} {
		for order := range all {
			b := newTwin[int](most)
			i := 0
			for left := all; left > 1; left /= kinds {
				i++
				b.chosen(t, order*kinds/left%kinds, i, most, order)
			}
		}
	}
}

// chosen does one of nine steps with both.
func (b twin[T]) chosen(t *testing.T, kind int, x T, args ...any) {
	t.Helper()
	turn := 0
	second := func(T) bool {
		turn++
		return turn == 2
	}
	switch kind {
	case 0, 1, 2:
		b.step(t, kind, x, nil, args...)
	case 3:
		b.step(t, 3, x, yes[T], args...)
	case 4:
		b.step(t, 3, x, no[T], args...)
	case 5, 6:
		b.again(t, kind-2, x, second, &turn, args...)
	case 7:
		b.step(t, 4, x, no[T], args...)
	case 8:
		b.step(t, 4, x, yes[T], args...)
	}
}

// again does a step whose question counts, with the count begun anew for each of both.
func (b twin[T]) again(t *testing.T, kind int, x T, asked func(T) bool, turn *int, args ...any) {
	t.Helper()
	switch kind {
	case 3:
		got := b.d.Place(x, asked)
		*turn = 0
		same(t, "Place", got, b.o.place(x, asked), args...)
	case 4:
		got := b.d.Sweep(asked)
		*turn = 0
		alike(t, "Sweep", got, b.o.sweep(asked), args...)
	}
	wait(t, "behind it", b.d, b.o.list, args...)
}

// draw is one drawn number after another, ever the same ones of one seed.
func draw(seed uint32) func(below int) int {
	return func(below int) int {
		seed = seed*1664525 + 1013904223
		return int(seed>>8) % below
	}
}

// many drawn steps with things of any type, as make makes them of two numbers.
func drawnSteps[T comparable](t *testing.T, seed uint32, most, steps int, make func(a, b int) T) {
	t.Helper()
	next := draw(seed)
	b := newTwin[T](most)
	for i := range steps {
		x := make(next(7), next(1000))
		picked := make(next(7), next(3))
		asked := is(picked)
		switch next(4) {
		case 0:
			asked = func(y T) bool { return y != picked }
		case 1:
			if l := b.o.list; len(l) > 0 {
				asked = is(l[next(len(l))])
			}
		case 2:
			asked = no[T]
		}
		kind := next(5)
		if kind == 4 && next(3) > 0 {
			kind = 0 // more things come than go, so that the dock is full at times
		}
		b.step(t, kind, x, asked, seed, most, i)
	}
}

// Promises 12.1, 12.2 and 12.3: any order of calls, of docks of numbers, of texts and of structs, holds against another way to do them.
func TestAnyOrderOfCalls(t *testing.T) {
	for _, most := range []int{0, 1, 2, 3, 4, 5, 8, 32} {
		for seed := range uint32(20) {
			drawnSteps(t, seed, most, 200, func(a, b int) int { return numbers[(a+b)%len(numbers)] })
			drawnSteps(t, seed, most, 200, func(a, b int) string { return strings.Repeat("\xff\x00ab"[a%4:], b%5) })
			drawnSteps(t, seed, most, 200, func(a, b int) pair { return pair{a, b} })
			drawnSteps(t, seed, most, 200, func(a, b int) [2]string { return [2]string{strconv.Itoa(a), strconv.Itoa(b)} })
			drawnSteps(t, seed, most, 200, func(a, b int) any { return []any{a, "b", pair{a, b}, nil, uint8(b)}[a%5] })
		}
	}
	for seed := range uint32(3) {
		drawnSteps(t, seed, 200, 2000, func(a, b int) int { return a * b })
		drawnSteps(t, seed, 999, 3000, func(a, b int) int { return b })
		drawnSteps(t, seed, 1000, 3000, func(a, b int) pair { return pair{b, a} })
	}
}

// Promise 12.3: what is pushed is pulled in order, each once, however pushes and pulls stand among each other; never do more wait than may.
func TestInOrderEachOnce(t *testing.T) {
	for _, most := range []int{1, 2, 3, 7, 999, 1000} {
		next := draw(uint32(most))
		d := dock.New[int](most)
		pushed, pulled := 0, 0
		pull := func() {
			x, is := d.Pull()
			same(t, "Pull's bool", is, pulled < pushed, most)
			if is {
				same(t, "Pull", x, pulled, most)
				pulled++
			}
		}
		for range 20000 {
			if next(2) == 0 || next(3*most) == 0 {
				pull()
			} else {
				room := pushed-pulled < most
				same(t, "Push", d.Push(pushed), room, most)
				if room {
					pushed++
				}
			}
			same(t, "Len", d.Len(), pushed-pulled, most)
		}
		for d.Len() > 0 {
			pull()
		}
		same(t, "pulled in all", pulled, pushed, most)
	}
}

// Promise 12.3: what is spilt, pulled and swept in all is what came, in order and each once, and what waits is behind it.
func TestSpiltInOrder(t *testing.T) {
	for most := range 6 {
		d := dock.New[int](most)
		var gone []int
		for i := range 50 {
			if x, is := d.Spill(i + 1); is {
				gone = append(gone, x)
			}
			if i%7 == 3 {
				if x, is := d.Pull(); is {
					gone = append(gone, x)
				}
			}
			if i%11 == 10 {
				gone = append(gone, d.Sweep(yes[int])...)
			}
			alike(t, "all", slices.Concat(gone, told(d)), upTo(i+1), most)
		}
	}
}

// Promise 12.3: a function that is handed in may call the dock itself: never do more wait than may, and nothing goes twice, or is lost.
func TestCallsInside(t *testing.T) {
	d := of(t, 3, 1, 2)
	same(t, "Place, while its last room is taken", d.Place(9, func(y int) bool {
		d.Push(10 + y)
		return false
	}), false)
	wait(t, "Place, while its last room is taken", d, []int{1, 2, 11})

	d = of(t, 9, 1, 2, 3)
	same(t, "Place, while the first one goes", d.Place(9, func(y int) bool {
		d.Pull()
		return y == 3
	}), true)
	wait(t, "Place, while the first one goes", d, []int{9})

	d = of(t, 9, 1, 2, 3)
	same(t, "Place, while another one comes ahead", d.Place(9, func(y int) bool {
		if y == 2 {
			d.Place(5, yes[int])
		}
		return y == 2
	}), true)
	wait(t, "Place, while another one comes ahead", d, []int{5, 1, 9, 2, 3})

	d = of(t, 4, 1, 2, 3)
	alike(t, "Sweep, while others come", d.Sweep(func(x int) bool {
		d.Push(10 + x)
		return x != 2
	}), []int{1, 3})
	wait(t, "Sweep, while others come", d, []int{2, 11})

	d = of(t, 4, 1, 2, 3, 4)
	var pulled []int
	swept := d.Sweep(func(x int) bool {
		if y, is := d.Pull(); is {
			pulled = append(pulled, y)
		}
		return x == 1 || x == 4
	})
	alike(t, "Sweep, while others go: in all, each once", slices.Sorted(slices.Values(slices.Concat(pulled, swept, told(d)))), upTo(4))

	d = of(t, 2, 1, 2)
	alike(t, "Sweep within Sweep", d.Sweep(func(x int) bool {
		alike(t, "inner", d.Sweep(is(3-x)), map[int][]int{1: {2}, 2: {1}}[x])
		return false
	}), nil)
	wait(t, "Sweep within Sweep", d, []int{1})
}

// Promise 12.2: who is told may let things come and go: All ends, and tells none that waits no more.
func TestAllWhileThingsComeAndGo(t *testing.T) {
	d := of(t, 4, 1, 2, 3)
	var list []int
	for x := range d.All() {
		list = append(list, x)
		y, _ := d.Pull()
		d.Push(10 + y)
	}
	alike(t, "told", list, []int{1, 2, 3})
	wait(t, "then", d, []int{11, 12, 13})
	list = nil
	for x := range d.All() {
		list = append(list, x)
		d.Sweep(is(12))
		d.Spill(5)
	}
	alike(t, "told, while one goes", list, []int{11, 13})
	d = of(t, 4, 1, 2, 3, 4)
	list = nil
	for x := range d.All() {
		list = append(list, x)
		d.Place(9, yes[int])
		d.Sweep(yes[int])
	}
	alike(t, "told, while all go", list, []int{1})
	wait(t, "none", d, nil)
}

// Promise 12.3: where a function that is handed in panics, all wait as they did.
func TestPanicInside(t *testing.T) {
	d := of(t, 4, 1, 2, 3)
	fail := func(x int) bool {
		if x == 3 {
			panic("a caller's own")
		}
		return x == 1
	}
	try := func(call func()) {
		t.Helper()
		defer func() {
			same(t, "the panic is the caller's", recover(), any("a caller's own"))
			wait(t, "behind a panic", d, []int{1, 2, 3})
		}()
		call()
	}
	try(func() { d.Sweep(fail) })
	try(func() { d.Place(9, func(x int) bool { return fail(x) && x != 1 }) })
	try(func() { d.All()(func(x int) bool { return fail(x) || x < 3 }) })
	try(func() {
		for x := range d.All() {
			fail(x)
		}
	})
}

// Promise 12.1: each dock is one of its own, of whatever type.
func TestDocksOfTheirOwn(t *testing.T) {
	a, b := of(t, 3, 1, 2), of(t, 3, 5)
	text := of(t, 3, "x")
	a.Push(3)
	b.Pull()
	wait(t, "a", a, []int{1, 2, 3})
	wait(t, "b", b, nil)
	wait(t, "texts", text, []string{"x"})

	lists := of(t, 2, []int{1}, nil)
	first, is := lists.Pull()
	alike(t, "a list", first, []int{1})
	second, isToo := lists.First()
	same(t, "a list that is nil waits too", second == nil && is && isToo, true)

	calls := of(t, 2, func() int { return 3 })
	call, _ := calls.Pull()
	same(t, "a function", call(), 3)
	same(t, "functions: Sweep", len(of(t, 2, func() int { return 4 }).Sweep(func(f func() int) bool { return f() == 4 })), 1)

	// A thing that isn't even the same as itself waits as others do.
	nan := of(t, 3, math.NaN(), 1, math.NaN())
	same(t, "Sweep of what is no number", len(nan.Sweep(func(x float64) bool { return x != x })), 2)
	wait(t, "numbers", nan, []float64{1})
}

// Rules that hold everywhere: what Sweep answers is nobody else's, and nothing is kept in the caller's memory.
func TestKeepsNothing(t *testing.T) {
	d := of(t, 6, 1, 2, 3, 4, 5, 6)
	first := d.Sweep(func(x int) bool { return x%2 == 0 })
	second := d.Sweep(is(3))
	first, second = first[:cap(first)], second[:cap(second)]
	for i := range first {
		first[i] = 99
	}
	for i := range second {
		second[i] = 98
	}
	wait(t, "what was swept is another list", d, []int{1, 5})
	d.Push(7)
	d.Push(8)
	d.Place(9, is(1))
	alike(t, "what waits is another list", first, slices.Repeat([]int{99}, len(first)))
	alike(t, "what was swept later is another list", second, slices.Repeat([]int{98}, len(second)))
	array := [2]int{1, 2}
	arrays := of(t, 2, array)
	array[0] = 9
	wait(t, "an array is one of its own", arrays, [][2]int{{1, 2}})
	bytes := []byte("abc")
	texts := of(t, 1, strings.Clone(unsafe.String(&bytes[0], len(bytes))))
	clear(bytes)
	wait(t, "a text", texts, []string{"abc"})
}

// What waits no more isn't kept: nobody could see it any more.
func TestLetsGo(t *testing.T) {
	type great [100]int
	var seen []weak.Pointer[great]
	fresh := func() *great {
		p := new(great)
		seen = append(seen, weak.Make(p))
		return p
	}
	d := dock.New[*great](5)
	for range 5 {
		d.Push(fresh())
	}
	d.Pull()
	d.Spill(fresh())
	d.Spill(fresh())
	turn := 0
	d.Sweep(func(*great) bool {
		turn++
		return turn != 2
	})
	d.Push(fresh())
	d.Pull()
	d.Place(fresh(), yes[*great])
	d.Pull()
	d.Pull()
	same(t, "none waits", d.Len(), 0)
	for range 3 {
		runtime.GC()
	}
	for i, p := range seen {
		same(t, "kept", p.Value() == nil, true, i)
	}
	runtime.KeepAlive(d)
}

// P1: no call panics, and each ends, whatever it is given.
func TestWrongInputs(t *testing.T) {
	for _, most := range numbers {
		d := dock.New[int](most)
		for _, n := range numbers {
			for _, asked := range []func(int) bool{nil, yes[int], no[int], is(n), is(0)} {
				d.Push(n)
				d.Spill(n)
				d.Place(n, asked)
				d.First()
				if n%3 == 0 {
					d.Pull()
					d.Sweep(asked)
				}
				d.All()(asked)
				if d.Len() < 0 || d.Len() > 1000 || d.Len() != len(told(d)) || d.Len() > max(most, 0) {
					t.Errorf("Len %d with room for %d", d.Len(), most)
				}
			}
		}
	}
	long := strings.Repeat("\x00\xff", 1<<16)
	d := of(t, 3, long, "\xc3\x28", "")
	wait(t, "any texts", d, []string{long, "\xc3\x28", ""})
}

// LANGUAGE.md, 6: docks of their own may be called at once.
func TestAtOnce(t *testing.T) {
	var w sync.WaitGroup
	for i := range 8 {
		w.Go(func() {
			d := dock.New[int](i)
			for n := range 500 {
				d.Spill(n)
				d.Place(n, is(n-1))
				d.Sweep(func(x int) bool { return x%5 == 0 })
				if d.Len() > i {
					t.Errorf("%d wait where %d may", d.Len(), i)
				}
			}
		})
	}
	w.Wait()
}
