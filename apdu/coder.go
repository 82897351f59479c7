package apdu

import (
	"handbell/api"
	"handbell/mder"
)

// coder goes through the fields of a message. It is handed each as it is and answers it as it is then: where it reads, out of its bytes; where it writes, unchanged.
type coder struct {
	from *mder.Reader // nil: it writes
	to   *mder.Writer // nil: it reads
}

func reader(b []byte) coder { return coder{from: mder.New(b)} }

func writer() coder { return coder{to: mder.Write()} }

// halt is thrown where a message can't go on.
type halt struct{ why api.Errno }

// caught does something up to its end, or up to where it is halted.
func caught(do func()) (e api.Errno) {
	defer func() {
		switch thrown := recover().(type) {
		case nil:
		case halt:
			e = thrown.why
		default:
			panic(thrown)
		}
	}()
	do()
	return api.OK
}

// stop tells of bytes what is wrong with them; a message that can't be written is an argument that may not be, whatever is wrong with it.
func (c coder) stop(why api.Errno) {
	if c.to != nil {
		why = api.ErrArg
	}
	panic(halt{why})
}

func (c coder) must(be bool) {
	if !be {
		c.stop(api.ErrSyntax)
	}
}

func (c coder) u8(v int) int { return pass(c, v, (*mder.Reader).U8, (*mder.Writer).U8) }

func (c coder) u16(v int) int { return pass(c, v, (*mder.Reader).U16, (*mder.Writer).U16) }

func (c coder) u32(v uint32) uint32 { return pass(c, v, (*mder.Reader).U32, (*mder.Writer).U32) }

func (c coder) octets(b []byte) []byte {
	return pass(c, b, (*mder.Reader).Octets, (*mder.Writer).Octets)
}

// either is a number of one byte for each of two things that may be so.
func (c coder) either(so bool, yes, no int) bool {
	v := no
	if so {
		v = yes
	}
	v = c.u8(v)
	c.must(v == yes || v == no)
	return v == yes
}

func pass[T any](c coder, v T, read func(*mder.Reader) (T, api.Errno), write func(*mder.Writer, T) api.Errno) T {
	var e api.Errno
	if c.to != nil {
		e = write(c.to, v)
	} else {
		v, e = read(c.from)
	}
	if e != api.OK {
		c.stop(e)
	}
	return v
}

// list goes through how many there are, and through each of them.
func list[T any](c coder, all []T, most int, each func(T) T) []T {
	n := c.u16(len(all))
	if n > most {
		c.stop(api.ErrLimit)
	}
	through := make([]T, n)
	copy(through, all)
	for i, x := range through {
		through[i] = each(x)
	}
	return through
}

// part is a kind, how many bytes follow, and what stands in them.
func (c coder) part(kind int, inside func(c coder, kind int)) {
	if c.to != nil {
		// How many bytes follow can't be told until they are written.
		inner := writer()
		inside(inner, kind)
		c.u16(kind)
		c.octets(inner.to.Bytes())
		return
	}
	kind = c.u16(kind)
	inner := reader(c.octets(nil))
	c.must(c.from.Left() == 0)
	inside(inner, kind)
	c.must(inner.from.Left() == 0)
}
