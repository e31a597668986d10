package code

import (
	"math"

	"corollary/api"
	"corollary/value"
)

// maxName is how many bytes the name of a constructor has at most: that of its module, a dot, and its own.
const maxName = 2*api.MaxName + 1

// unlessFailed is what a call reads, or the zero value, if the reader has failed, before the call or in it: so the methods that it calls may return anything if they fail.
func unlessFailed[T any](r *Reader, read func(r *Reader) T) T {
	var zero T
	if !r.OK() {
		return zero
	}
	if v := read(r); r.OK() {
		return v
	}
	return zero
}

// fail leaves nothing to be read, so that all that is read from then on fails, too.
func (r *Reader) fail() { r.rest, r.failed = nil, true }

// next is the next byte, combined with a mask; 0, if there is none.
func (r *Reader) next(mask byte) byte {
	if len(r.rest) == 0 {
		r.fail()
		return 0
	}
	c := r.rest[0] ^ mask
	r.rest = r.rest[1:]
	return c
}

// mask is what the bytes of the number that comes next are combined with.
func (r *Reader) mask() byte {
	if len(r.rest) > 0 && r.rest[0] < sign {
		return complemented
	}
	return plain
}

// own is the number of so many own bytes; 0, if they are not there.
func (r *Reader) own(size int, mask byte) uint64 {
	if size > 8 || size > len(r.rest) || size > 0 && r.rest[0] == mask {
		r.fail() // too many for a number, past the end, or with a leading zero
		return 0
	}
	n := uint64(0)
	for range size {
		n = n<<8 | uint64(r.next(mask))
	}
	return n
}

func (r *Reader) num() int64 {
	mask := r.mask()
	n := r.own(int(r.next(mask))-sign, mask)
	if n > math.MaxInt64 {
		r.fail()
	}
	if mask == complemented {
		return -1 - int64(n)
	}
	return int64(n)
}

func (r *Reader) count(most int, mask byte) int {
	n := r.own(int(r.next(mask)), mask)
	if n > api.MaxCount || int(n) > most {
		r.fail()
		return 0
	}
	return int(n)
}

func (r *Reader) str(most int) string {
	var s []byte
	for len(s) <= most {
		c := r.next(plain)
		if c == 0 {
			switch r.next(plain) {
			case 0: // the end; or there is none, and the reader has failed
				return string(s)
			case 0xff:
			default:
				r.fail()
			}
		}
		s = append(s, c)
	}
	r.fail()
	return ""
}

func (r *Reader) flag() bool {
	c := r.next(plain)
	if c > 1 {
		r.fail()
	}
	return c == 1
}

// checkedValue is the value that is there. The methods of the Kinds see to its bytes, its depth and its lengths; what else makes it valid (names, the digits of a Big, that there is no tuple of one) is checked once, of the whole.
func (r *Reader) checkedValue() api.Value {
	v := r.value(api.MaxDepth)
	if value.Check(v) != api.OK {
		r.fail()
	}
	return v
}

// value is a value that is nested in so many levels at most.
func (r *Reader) value(levels int) api.Value {
	kind := r.next(plain)
	read := formOf(kind).read
	if read == nil || levels == 0 {
		r.fail()
		return api.Value{}
	}
	v := read(r, levels)
	v.Kind = kind
	return v
}

func (r *Reader) boolean(int) api.Value {
	if r.flag() {
		return api.Value{N: 1}
	}
	return api.Value{}
}

func (r *Reader) integer(int) api.Value { return api.Value{N: r.num()} }

func (r *Reader) big(int) api.Value {
	mask := r.mask()
	if r.next(mask) != sign {
		r.fail()
	}
	var s []byte
	if mask == complemented {
		s = append(s, '-')
	}
	for range r.count(api.MaxDigits, mask) {
		s = append(s, r.digit(mask))
	}
	return api.Value{S: string(s)}
}

func (r *Reader) digit(mask byte) byte {
	c := r.next(mask)
	if c < '0' || c > '9' { // a - too, although S may have one: the sign stands ahead
		r.fail()
	}
	return c
}

func (r *Reader) text(int) api.Value { return api.Value{S: r.str(api.MaxString)} }

func (r *Reader) tuple(levels int) api.Value {
	return api.Value{L: r.list(api.MaxItems, levels-1)}
}

func (r *Reader) cons(levels int) api.Value {
	name := r.str(maxName)
	return api.Value{S: name, L: r.list(api.MaxFields, levels-1)}
}

func (r *Reader) list(most, levels int) []api.Value {
	var l []api.Value
	for r.flag() {
		if len(l) == most {
			r.fail()
			break
		}
		l = append(l, r.value(levels))
	}
	return l
}
