package notation

import (
	"math"
	"regexp"
	"slices"
	"strconv"
	"strings"
	"testing"
	"time"

	"handbell/api"
	"handbell/fixed"
)

const most = 1<<31 - 1

// Operations by their numbers.
const (
	opTrue = iota
	opAbove
	opBelow
	opHigh
	opLow
	opKnown
	opNot
	opAnd
	opOr
	opPrev
	opOnce
	opHist
	opSince
)

// The section 'Words', said again: the grammar is a table here, and what may go on is told by all stacks of what is still to come.

// spot is a word, and where it begins.
type spot struct {
	at int
	w  string
}

func wordsOf(s string) []spot {
	// All bytes beyond ASCII are words alike; a pattern would take several as one.
	b := []byte(s)
	for i, c := range b {
		if c >= 128 {
			b[i] = '?'
		}
	}
	var l []spot
	for _, x := range regexp.MustCompile(`[()<>]|[a-z0-9.-]+|(?s:[^ ])`).FindAllIndex(b, -1) {
		l = append(l, spot{x[0], s[x[0]:x[1]]})
	}
	return l
}

func grammar() map[string][]string {
	return map[string][]string{
		"OR":     {"AND ORS"},
		"ORS":    {"", "or AND ORS"},
		"AND":    {"SINCE ANDS"},
		"ANDS":   {"", "and SINCE ANDS"},
		"SINCE":  {"UNARY SINCES"},
		"SINCES": {"", "since UNARY"},
		"UNARY":  {"not UNARY", "prev UNARY", "once TICKS UNARY", "hist TICKS UNARY", "ATOM"},
		"ATOM":   {"true", "CHANNEL > NUMBER", "CHANNEL < NUMBER", "CHANNEL high", "CHANNEL low", "CHANNEL known", "( OR )"},
	}
}

// isWord tells whether a word may stand where the grammar has a symbol that is none of its lines.
func isWord(symbol, w string) bool {
	switch symbol {
	case "CHANNEL":
		return len(w) == 2 && w[0] == 'c' && strings.Contains("01234567", w[1:])
	case "TICKS":
		for n := range 65 {
			if w == strconv.Itoa(n) {
				return true
			}
		}
		return false
	case "NUMBER":
		_, e := fixed.Parse(w)
		return e == api.OK
	}
	return symbol == w
}

// heads are all stacks that come of one, with a word in front, or none at all.
func heads(g map[string][]string, stack []string) [][]string {
	if len(stack) == 0 || g[stack[0]] == nil {
		return [][]string{stack}
	}
	var l [][]string
	for _, line := range g[stack[0]] {
		l = append(l, heads(g, append(strings.Fields(line), stack[1:]...))...)
	}
	return l
}

func open(stack []string) int {
	n := 0
	for _, x := range stack {
		if x == ")" {
			n++
		}
	}
	return n
}

// wrongAt is the place of the first word with which a text can't go on, and false if there is none.
func wrongAt(s string) (int, bool) {
	g := grammar()
	stacks := [][]string{{"OR"}}
	for _, x := range wordsOf(s) {
		behind := map[string][]string{}
		for _, stack := range stacks {
			for _, h := range heads(g, stack) {
				if len(h) == 0 || !isWord(h[0], x.w) || x.w == "(" && open(h) > 32 {
					continue
				}
				behind[strings.Join(h[1:], " ")] = h[1:]
			}
		}
		stacks = nil
		for _, h := range behind {
			stacks = append(stacks, h)
		}
		if len(stacks) == 0 {
			return x.at, true
		}
	}
	for _, stack := range stacks {
		for _, h := range heads(g, stack) {
			if len(h) == 0 {
				return 0, false
			}
		}
	}
	return len(s), true
}

// formulaOf is the formula of words that are right: cut at the operation that binds least, the last one of these.
func formulaOf(words []string, ahead []api.Node) []api.Node {
	for _, c := range []struct {
		w  string
		op int
	}{{"or", opOr}, {"and", opAnd}, {"since", opSince}} {
		if i := lastOutside(words, c.w); i >= 0 {
			l := formulaOf(words[:i], ahead)
			a := len(l) - 1
			l = formulaOf(words[i+1:], l)
			return append(l, api.Node{Op: c.op, A: a, B: len(l) - 1})
		}
	}
	n := 0
	if len(words) > 1 {
		n, _ = strconv.Atoi(words[1])
	}
	switch words[0] {
	case "(":
		return formulaOf(words[1:len(words)-1], ahead)
	case "true":
		return append(ahead, api.Node{})
	case "not", "prev":
		l := formulaOf(words[1:], ahead)
		return append(l, api.Node{Op: map[string]int{"not": opNot, "prev": opPrev}[words[0]], A: len(l) - 1})
	case "once", "hist":
		l := formulaOf(words[2:], ahead)
		return append(l, api.Node{Op: map[string]int{"once": opOnce, "hist": opHist}[words[0]], A: len(l) - 1, N: n})
	}
	x := api.Node{Op: map[string]int{">": opAbove, "<": opBelow, "high": opHigh, "low": opLow, "known": opKnown}[words[1]], A: int(words[0][1] - '0')}
	if len(words) > 2 {
		x.N, _ = fixed.Parse(words[2])
	}
	return append(ahead, x)
}

// lastOutside is where a word stands last outside of all brackets; -1 if nowhere.
func lastOutside(words []string, w string) int {
	at, depth := -1, 0
	for i, x := range words {
		switch {
		case x == "(":
			depth++
		case x == ")":
			depth--
		case x == w && depth == 0:
			at = i
		}
	}
	return at
}

// parsed is what Parse says.
func parsed(s string) ([]api.Node, int, api.Errno) {
	if len(s) > 1024 {
		return nil, 1024, api.ErrLimit
	}
	if at, wrong := wrongAt(s); wrong {
		return nil, at, api.ErrSyntax
	}
	var words []string
	for _, x := range wordsOf(s) {
		words = append(words, x.w)
	}
	l := formulaOf(words, nil)
	if len(l) > 32 {
		return nil, len(s), api.ErrMany
	}
	return l, 0, api.OK
}

// inBrackets tells it of a part, by the chapter's list.
func inBrackets(op int, right bool, part int) bool {
	switch op {
	case opNot, opPrev, opOnce, opHist, opSince:
		return part == opAnd || part == opOr || part == opSince
	case opAnd:
		return part == opOr || right && part == opAnd
	case opOr:
		return right && part == opOr
	}
	return false
}

// bytesOf is how long the text of a node is; whatever is beyond 5000 is 5000.
func bytesOf(l []api.Node, node int) int {
	long := make([]int, len(l))
	for i := range node + 1 {
		long[i] = min(5000, len(textBy(l, i, func(part int) string { return strings.Repeat("x", long[part]) })))
	}
	return long[node]
}

// textOf is the text of a node, which must not be too long.
func textOf(l []api.Node, node int) string {
	return textBy(l, node, func(part int) string { return textOf(l, part) })
}

func textBy(l []api.Node, node int, text func(part int) string) string {
	x := l[node]
	part := func(p int, right bool) string {
		if inBrackets(x.Op, right, l[p].Op) {
			return "(" + text(p) + ")"
		}
		return text(p)
	}
	channel := "c" + string(rune('0'+x.A))
	switch x.Op {
	case opTrue:
		return "true"
	case opAbove:
		return channel + " > " + fixed.Text(x.N)
	case opBelow:
		return channel + " < " + fixed.Text(x.N)
	case opHigh:
		return channel + " high"
	case opLow:
		return channel + " low"
	case opKnown:
		return channel + " known"
	case opNot:
		return "not " + part(x.A, false)
	case opPrev:
		return "prev " + part(x.A, false)
	case opOnce:
		return "once " + strconv.Itoa(x.N) + " " + part(x.A, false)
	case opHist:
		return "hist " + strconv.Itoa(x.N) + " " + part(x.A, false)
	case opAnd:
		return part(x.A, false) + " and " + part(x.B, true)
	case opOr:
		return part(x.A, false) + " or " + part(x.B, true)
	}
	return part(x.A, false) + " since " + part(x.B, true)
}

// dice throws numbers, always the same ones.
type dice struct{ x uint64 }

func (d *dice) below(n int) int {
	d.x = d.x*6364136223846793005 + 1442695040888963407
	return int(d.x >> 33 % uint64(n))
}

func pick[T any](d *dice, l ...T) T { return l[d.below(len(l))] }

// node is one that may be behind so many others, its parts among the last of them, or among all.
func (d *dice) node(ahead int) api.Node {
	x := api.Node{Op: d.below(13)}
	if ahead == 0 {
		x.Op = d.below(6)
	}
	part := func() int { return ahead - 1 - d.below(pick(d, min(ahead, 3), ahead)) }
	switch {
	case opAbove <= x.Op && x.Op <= opKnown:
		x.A = d.below(8)
	case x.Op > opKnown:
		x.A = part()
	}
	switch x.Op {
	case opAbove, opBelow:
		x.N = d.number()
	case opOnce, opHist:
		x.N = d.below(65)
	case opAnd, opOr, opSince:
		x.B = part()
	}
	return x
}

func (d *dice) number() int {
	return pick(d, 0, 1, -1, most, -most, 36600, d.below(100000)-50000, 1000*d.below(300), d.below(most))
}

// formula is one whose nodes may be parts of several others, or of none; of some kinds more of them have two parts, so that its text grows long.
func (d *dice) formula(n int) []api.Node {
	var l []api.Node
	pairs := d.below(4)
	for i := range n {
		x := d.node(i)
		for range pairs {
			if i > 0 && x.Op != opAnd && x.Op != opOr && x.Op != opSince {
				x = d.node(i)
			}
		}
		l = append(l, x)
	}
	return l
}

// tree is a formula of so many nodes, each but the root a part just once, laid as Parse lays them, behind others.
func (d *dice) tree(n int, ahead []api.Node) []api.Node {
	x := d.node(0)
	if n == 1 {
		return append(ahead, x)
	}
	x = d.node(1)
	for x.Op < opNot || n == 2 && (x.Op == opAnd || x.Op == opOr || x.Op == opSince) {
		x = d.node(1)
	}
	if x.Op != opAnd && x.Op != opOr && x.Op != opSince {
		l := d.tree(n-1, ahead)
		x.A = len(l) - 1
		return append(l, x)
	}
	left := 1 + d.below(n-2)
	l := d.tree(left, ahead)
	x.A = len(l) - 1
	l = d.tree(n-1-left, l)
	x.B = len(l) - 1
	return append(l, x)
}

// spread writes words with any number of blanks between them, none only where two words stay two.
func (d *dice) spread(words []string) string {
	var b strings.Builder
	row := func(i int) bool { return i >= 0 && i < len(words) && !strings.Contains("()<>", words[i]) }
	for i, w := range words {
		n := pick(d, 0, 1, 1, 2, d.below(5))
		if n == 0 && row(i-1) && row(i) {
			n = 1
		}
		b.WriteString(strings.Repeat(" ", n) + w)
	}
	return b.String() + strings.Repeat(" ", d.below(3))
}

func onlyWords(s string) []string {
	var l []string
	for _, x := range wordsOf(s) {
		l = append(l, x.w)
	}
	return l
}

// isParsed holds what Parse answers against what it should.
func isParsed(t *testing.T, s string, want []api.Node, at int, e api.Errno) {
	t.Helper()
	l, gotAt, gotE := Parse(s)
	if !slices.Equal(l, want) || gotAt != at || gotE != e {
		t.Errorf("Parse(%q): %v, %d, %d, want %v, %d, %d", s, l, gotAt, gotE, want, at, e)
	}
}

func isAsSaid(t *testing.T, s string) {
	t.Helper()
	l, at, e := parsed(s)
	isParsed(t, s, l, at, e)
}

func isText(t *testing.T, l []api.Node, want string, e api.Errno) {
	t.Helper()
	s, gotE := Text(l)
	if s != want || gotE != e {
		t.Errorf("Text(%v): %q, %d, want %q, %d", l, s, gotE, want, e)
	}
}

func mustParse(t *testing.T, s string) []api.Node {
	t.Helper()
	l, at, e := Parse(s)
	if at != 0 || e != api.OK {
		t.Fatalf("Parse(%q): %d, %d", s, at, e)
	}
	return l
}

func mustText(t *testing.T, l []api.Node) string {
	t.Helper()
	s, e := Text(l)
	if e != api.OK {
		t.Fatalf("Text(%v): %d", l, e)
	}
	return s
}

// within fails if something takes far longer than it should.
func within(t *testing.T, what string, f func()) {
	t.Helper()
	done := make(chan bool)
	go func() {
		defer close(done)
		f()
	}()
	select {
	case <-done:
	case <-time.After(time.Minute):
		t.Fatalf("%s: it takes too long", what)
	}
}

// edges are numbers that none may stumble over.
func edges() []int {
	return []int{math.MinInt, math.MinInt + 1, -most - 2, -most - 1, -most, -65, -64, -33, -9, -8, -2, -1, 0, 1, 2, 7, 8, 9, 10, 12, 13, 31, 32, 33, 63, 64, 65, most - 1, most, most + 1, 1 << 32, 1<<32 + 1, math.MaxInt - 1, math.MaxInt}
}
