// Package word is layer 1: numbers as bytes. See shared/doc/01-word.md.
package word

import "pentimento/api"

const mostWidth = 8

func isWidth(width int) bool { return width >= 1 && width <= mostWidth }

// Put returns the bytes of b, and behind them n in width bytes. If there is no such width, it returns the bytes of b alone.
func Put(b []byte, width int, n uint64) []byte {
	// A new list, as appending to b could write into room that b shares with its owner's other lists.
	out := make([]byte, len(b), len(b)+mostWidth)
	copy(out, b)
	if !isWidth(width) {
		return out
	}
	for i := range width {
		out = append(out, byte(n>>uint(8*(width-1-i))))
	}
	return out
}

// Get returns the number in the width bytes of b from index at on.
func Get(b []byte, at, width int) (uint64, api.Errno) {
	if !isWidth(width) || at < 0 {
		return 0, api.ErrArg
	}
	// The subtraction is on this side, as at+width may wrap round.
	if width > len(b)-at {
		return 0, api.ErrShort
	}
	return number(b[at : at+width]), api.OK
}

func number(b []byte) uint64 {
	var n uint64
	for _, c := range b {
		n = n<<8 | uint64(c)
	}
	return n
}

// Reader reads bytes from the first one on, until it is asked for what it can not give.
type Reader struct {
	rest []byte
	why  api.Errno
}

// New returns a reader of b.
func New(b []byte) *Reader {
	rest := make([]byte, len(b))
	copy(rest, b)
	return &Reader{rest: rest}
}

// Num returns the number in the next width bytes.
func (r *Reader) Num(width int) uint64 {
	return number(r.next(width, isWidth(width)))
}

// Bytes returns the next n bytes.
func (r *Reader) Bytes(n int) []byte {
	part := r.next(n, n >= 0)
	out := make([]byte, len(part))
	copy(out, part)
	return out
}

// Left returns how many bytes are not read yet.
func (r *Reader) Left() int {
	if r == nil {
		return 0
	}
	return len(r.rest)
}

// Why returns why the reader gives nothing more, and OK as long as it does.
func (r *Reader) Why() api.Errno {
	if r == nil {
		return api.ErrNil
	}
	return r.why
}

// next takes the next n bytes off the rest; fits tells whether n is a number that may be asked for at all.
func (r *Reader) next(n int, fits bool) []byte {
	var part []byte
	if r.Why() != api.OK {
		goto end
	}
	if !fits {
		r.rest, r.why = nil, api.ErrArg
		goto end
	}
	if n > len(r.rest) {
		r.rest, r.why = nil, api.ErrShort
		goto end
	}
	part, r.rest = r.rest[:n], r.rest[n:]
end:
	return part
}
