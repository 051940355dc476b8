// Package octets is layer 1: numbers as bytes. See shared/doc/01-octets.md.
package octets

import "anabranch/api"

const (
	widest  = 8 // bytes of the widest number that is put
	readMax = 7 // bytes of the widest number that a cut reads: it is never below 0
)

// Whole is any type of whole numbers.
type Whole interface {
	~int | ~int64 | ~uint8 | ~uint16 | ~uint32 | ~uint64
}

// Put is bytes, and a number's lowest bytes behind, the highest of them ahead.
func Put[T Whole](s string, n T, size int) string {
	size = min(max(size, 0), widest)
	var low [widest]byte
	left := uint64(n)
	for i := size - 1; i >= 0; i-- {
		low[i] = byte(left)
		left >>= 8
	}
	return s + string(low[:size])
}

// Of is the number that bytes are.
func Of[T Whole](s string) T {
	var n uint64
	for _, b := range []byte(s[max(len(s)-widest, 0):]) {
		n = n<<8 | uint64(b)
	}
	return T(n)
}

// Cut is bytes that are read from the front on.
type Cut struct {
	left string
	fail api.Errno // the first failure: none behind it replaces it
}

// New reads bytes.
func New(s string) *Cut { return &Cut{left: s} }

// Num reads a number of so many bytes.
func (c *Cut) Num(size int) int {
	if size < 1 || size > readMax {
		c.stop(api.ErrRange)
	}
	return Of[int](c.Bytes(size))
}

// Bytes reads so many bytes.
func (c *Cut) Bytes(n int) string {
	if n < 0 {
		c.stop(api.ErrRange)
	} else if n > c.Left() {
		c.stop(api.ErrShort)
	}
	if c.stopped() {
		return ""
	}
	read := c.left[:n]
	c.left = c.left[n:]
	return read
}

// Rest reads all that is left.
func (c *Cut) Rest() string { return c.Bytes(c.Left()) }

// Left is how many bytes are left.
func (c *Cut) Left() int {
	if c == nil {
		return 0
	}
	return len(c.left)
}

// Done is what was wrong.
func (c *Cut) Done() api.Errno {
	if c == nil {
		return api.ErrState
	}
	if c.fail == api.OK && c.left != "" {
		return api.ErrMore
	}
	return c.fail
}

// stop lets a cut read nothing more, and tells why.
func (c *Cut) stop(why api.Errno) {
	if !c.stopped() {
		c.fail = why
	}
}

// stopped tells whether a cut reads nothing more.
func (c *Cut) stopped() bool { return c == nil || c.fail != api.OK }
