package notation

import (
	"strconv"

	"handbell/api"
	"handbell/fixed"
)

// place is thrown where the reader gives up: where the word begins with which the text can't go on.
type place int

// reader goes through the words of a text. Its methods are called as what they read is in the grammar; those that read a part of a formula answer the number of the part's node.
type reader struct {
	text  string
	at    int    // where the word begins; the length of the text at its end
	word  string // none at the end of the text
	depth int    // brackets that are open
	nodes []api.Node
}

func (r *reader) whole() {
	r.next()
	r.or()
	r.must(r.word == "")
}

func (r *reader) or() int {
	left := r.and()
	for r.takes(api.OpOr) {
		left = r.pair(api.OpOr, left, r.and())
	}
	return left
}

func (r *reader) and() int {
	left := r.since()
	for r.takes(api.OpAnd) {
		left = r.pair(api.OpAnd, left, r.since())
	}
	return left
}

func (r *reader) since() int {
	left := r.unary()
	if r.takes(api.OpSince) {
		return r.pair(api.OpSince, left, r.unary())
	}
	return left
}

func (r *reader) unary() int {
	for _, op := range []int{api.OpNot, api.OpPrev, api.OpOnce, api.OpHist} {
		if !r.takes(op) {
			continue
		}
		x := api.Node{Op: op}
		if hasTicks(op) {
			x.N = r.ticks()
		}
		x.A = r.unary()
		return r.add(x)
	}
	return r.atom()
}

func (r *reader) atom() int {
	if r.word == "(" {
		return r.bracketed()
	}
	if r.takes(api.OpTrue) {
		return r.add(api.Node{Op: api.OpTrue})
	}
	x := api.Node{A: r.channel()}
	for _, op := range []int{api.OpAbove, api.OpBelow, api.OpHigh, api.OpLow, api.OpKnown} {
		if !r.takes(op) {
			continue
		}
		x.Op = op
		if hasNumber(op) {
			x.N = r.number()
		}
		return r.add(x)
	}
	panic(place(r.at))
}

func (r *reader) bracketed() int {
	r.must(r.depth < maxDepth)
	r.depth++
	r.next()
	inner := r.or()
	r.must(r.word == ")")
	r.next()
	r.depth--
	return inner
}

func (r *reader) channel() int {
	for c := range api.MaxChannels {
		if r.word == channelText(c) {
			r.next()
			return c
		}
	}
	panic(place(r.at))
}

// ticks are read as they would be written: so there is no sign, and no nought ahead of others.
func (r *reader) ticks() int {
	n, err := strconv.Atoi(r.word)
	r.must(err == nil && strconv.Itoa(n) == r.word && n >= 0 && n <= api.MaxWindow)
	r.next()
	return n
}

func (r *reader) number() int {
	v, e := fixed.Parse(r.word)
	r.must(e == api.OK)
	r.next()
	return v
}

// must gives up at the word that is there, unless something is so.
func (r *reader) must(be bool) {
	if !be {
		panic(place(r.at))
	}
}

// takes tells whether the word is that of an operation, and goes on behind it.
func (r *reader) takes(op int) bool {
	if r.word != word(op) {
		return false
	}
	r.next()
	return true
}

func (r *reader) pair(op, left, right int) int {
	return r.add(api.Node{Op: op, A: left, B: right})
}

// add takes in nodes beyond MaxNodes, too: a text that can't be read is told as such, however many nodes stand ahead of the place. A text has no room for many.
func (r *reader) add(x api.Node) int {
	r.nodes = append(r.nodes, x)
	return len(r.nodes) - 1
}

func (r *reader) next() {
	r.at += len(r.word)
	for r.at < len(r.text) && r.text[r.at] == ' ' {
		r.at++
	}
	end := r.at
	for end < len(r.text) && standsInRow(r.text[end]) {
		end++
	}
	if end == r.at && end < len(r.text) {
		end++
	}
	r.word = r.text[r.at:end]
}

// standsInRow tells whether a byte is of those that make one word together.
func standsInRow(c byte) bool {
	return c >= 'a' && c <= 'z' || c >= '0' && c <= '9' || c == '.' || c == '-'
}

// hasNumber tells whether a number stands behind an atom's word, hasTicks whether ticks stand behind an operation's.
func hasNumber(op int) bool { return op == api.OpAbove || op == api.OpBelow }

func hasTicks(op int) bool { return op == api.OpOnce || op == api.OpHist }
