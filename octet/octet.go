// Package octet is layer 1: integers and strings as bytes, in one canonical form.
package octet

import (
	"math/bits"

	"siskin/api"
)

const (
	direct = 248 // integers below it are their own byte
	prefix = 247 // a first byte is prefix plus the number of bytes after it
	barred = 255 // no encoding begins with it
)

// Reader reads integers and strings from bytes, up to its first error.
type Reader struct {
	rest []byte
	err  api.Errno
}

// Num returns b followed by the encoding of n.
func Num(b []byte, n int) []byte {
	n = min(max(n, 0), api.MaxNum)
	k := width(n)
	out := make([]byte, len(b), len(b)+1+k)
	copy(out, b)
	if n < direct {
		return append(out, byte(n))
	}
	out = append(out, byte(prefix+k))
	for i := k - 1; i >= 0; i-- {
		out = append(out, byte(n>>(8*i)))
	}
	return out
}

// Text returns b followed by the encoding of s.
func Text(b []byte, s string) []byte {
	return append(Num(b, len(s)), s...)
}

// width is the number of bytes that n takes in big-endian order.
func width(n int) int {
	return (bits.Len(uint(n)) + 7) / 8
}

// New returns a reader of a copy of b.
func New(b []byte) *Reader {
	return &Reader{rest: append([]byte(nil), b...)}
}

// Num reads the next integer, of at most most.
func (r *Reader) Num(most int) int {
	if r == nil || r.err != api.OK {
		return 0
	}
	n, used, e := first(r.rest, most)
	if e != api.OK {
		r.err = e
		return 0
	}
	r.rest = r.rest[used:]
	return n
}

// Text reads the next string, of at most most bytes.
func (r *Reader) Text(most int) string {
	if r == nil || r.err != api.OK {
		return ""
	}
	n, used, e := first(r.rest, most)
	if e == api.OK && len(r.rest)-used < n {
		e = api.ErrShort
	}
	if e != api.OK {
		r.err = e
		return ""
	}
	s := string(r.rest[used : used+n])
	r.rest = r.rest[used+n:]
	return s
}

// first decodes the integer at the beginning of b and tells how many bytes it takes.
func first(b []byte, most int) (n, used int, e api.Errno) {
	if len(b) == 0 {
		return 0, 0, api.ErrShort
	}
	if b[0] == barred {
		return 0, 0, api.ErrForm
	}
	n, used = int(b[0]), 1
	if n >= direct {
		k := n - prefix
		if len(b)-1 < k {
			return 0, 0, api.ErrShort
		}
		used = 1 + k
		n = joined(b[1:used])
		if n < direct || width(n) != k {
			return 0, 0, api.ErrForm
		}
	}
	if n > max(most, 0) {
		return 0, 0, api.ErrLong
	}
	return n, used, api.OK
}

// joined is the integer with the bytes b in big-endian order.
func joined(b []byte) int {
	n := 0
	for _, c := range b {
		n = n<<8 | int(c)
	}
	return n
}

// Fail sets the reader's error if it has none.
func (r *Reader) Fail(e api.Errno) {
	if r != nil && r.err == api.OK {
		r.err = e
	}
}

// Left returns the number of bytes not yet consumed.
func (r *Reader) Left() int {
	if r == nil {
		return 0
	}
	return len(r.rest)
}

// Err returns the first error.
func (r *Reader) Err() api.Errno {
	if r == nil {
		return api.ErrArg
	}
	return r.err
}

// End returns the first error, or ErrForm if bytes are left.
func (r *Reader) End() api.Errno {
	if e := r.Err(); e != api.OK {
		return e
	}
	if len(r.rest) > 0 {
		return api.ErrForm
	}
	return api.OK
}
