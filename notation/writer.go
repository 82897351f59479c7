package notation

import (
	"strconv"
	"strings"

	"handbell/api"
	"handbell/fixed"
)

// The grammar's steps, from what binds least to what binds most.
const (
	stepOr = iota
	stepAnd
	stepSince
	stepUnary
)

// step is the one at which the grammar reads an operation.
func step(op int) int {
	switch op {
	case api.OpOr:
		return stepOr
	case api.OpAnd:
		return stepAnd
	case api.OpSince:
		return stepSince
	}
	return stepUnary
}

// rootText is the text of a formula that may be. Each node's text is put together once, out of those of its parts, which come first; and it is cut one byte behind the limit. So a part of many others costs no more than any other, and what is too long stays so in all that it is a part of.
func rootText(l []api.Node) string {
	texts := make([]string, len(l))
	for i, x := range l {
		s := nodeText(l, texts, x)
		texts[i] = s[:min(len(s), maxBytes+1)]
	}
	return texts[len(l)-1]
}

func nodeText(l []api.Node, texts []string, x api.Node) string {
	part := func(node, least int) string {
		if step(l[node].Op) < least {
			return "(" + texts[node] + ")"
		}
		return texts[node]
	}
	w := word(x.Op)
	switch x.Op {
	case api.OpTrue:
		return w
	case api.OpAbove, api.OpBelow:
		return words(channelText(x.A), w, fixed.Text(x.N))
	case api.OpHigh, api.OpLow, api.OpKnown:
		return words(channelText(x.A), w)
	case api.OpNot, api.OpPrev:
		return words(w, part(x.A, stepUnary))
	case api.OpOnce, api.OpHist:
		return words(w, strconv.Itoa(x.N), part(x.A, stepUnary))
	case api.OpSince:
		return words(part(x.A, stepUnary), w, part(x.B, stepUnary))
	}
	// The left ones of several in a row are parts of those to the right.
	own := step(x.Op)
	return words(part(x.A, own), w, part(x.B, own+1))
}

func channelText(c int) string { return "c" + strconv.Itoa(c) }

func words(l ...string) string { return strings.Join(l, " ") }
