package formula

import (
	"slices"
	"testing"

	"handbell/api"
)

// checks holds what Check, and Holds and Memory with it, say of a formula.
func checks(t *testing.T, l []api.Node, channels int, want api.Errno) {
	t.Helper()
	for range 2 {
		if e := Check(l, channels); e != want {
			t.Fatalf("Check(%v, %d) = %d, want %d", l, channels, e, want)
		}
	}
	if channels < 0 || channels > 9 {
		return
	}
	row := make([]api.Reading, channels)
	is, e := Holds(l, make([]api.Channel, channels), [][]api.Reading{row}, 0)
	if e != want || e != api.OK && is {
		t.Fatalf("Holds(%v) of %d channels = %v, %d, want %d", l, channels, is, e, want)
	}
}

func TestP151Examples(t *testing.T) {
	checks(t, nil, 1, api.ErrForm)
	checks(t, []api.Node{}, 1, api.ErrForm)
	checks(t, make([]api.Node, 33), 1, api.ErrMany)
	checks(t, []api.Node{{Op: 7, A: 0, B: 0}}, 1, api.ErrForm)
	checks(t, []api.Node{{}, {Op: 7, A: 1, B: 1}}, 1, api.ErrForm)
	checks(t, []api.Node{{Op: 3, A: 1}}, 1, api.ErrForm)
	checks(t, []api.Node{{Op: 3, A: 0}}, 1, api.OK)
}

// So many nodes may be, and so many channels.
func TestP151Sizes(t *testing.T) {
	for n := range 70 {
		want := api.OK
		if n == 0 {
			want = api.ErrForm
		} else if n > 32 {
			want = api.ErrMany
		}
		for channels := range 9 {
			checks(t, make([]api.Node, n), channels, want)
		}
	}
	checks(t, make([]api.Node, 100000), 0, api.ErrMany)
	for _, channels := range edges() {
		want := api.ErrArg
		if 0 <= channels && channels <= 8 {
			want = api.OK
		}
		checks(t, make([]api.Node, 1), channels, want)
		checks(t, make([]api.Node, 32), channels, want)
	}
}

// First too many nodes, then the channels, then the nodes.
func TestP151Order(t *testing.T) {
	bad := api.Node{Op: 13, A: -1, B: 9, N: 9}
	for _, channels := range []int{-1, 9, 0, 8} {
		checks(t, slices.Repeat([]api.Node{bad}, 33), channels, api.ErrMany)
	}
	for _, channels := range []int{-1, 9, 10} {
		checks(t, nil, channels, api.ErrArg)
		checks(t, []api.Node{bad}, channels, api.ErrArg)
		checks(t, slices.Repeat([]api.Node{bad}, 32), channels, api.ErrArg)
	}
	checks(t, []api.Node{bad}, 0, api.ErrForm)
}

// Each Op with each field at its edges, behind 0, 1, 3 and 31 nodes.
func TestP151Fields(t *testing.T) {
	values := append(edges(), 3, 4, 29, 30)
	for op := -2; op <= 15; op++ {
		for _, ahead := range []int{0, 1, 3, 31} {
			for _, channels := range []int{0, 1, 3, 8} {
				nodes := make([]api.Node, ahead+1)
				for _, a := range values {
					for _, b := range []int{-1, 0, 1, 2, 3, 30, 31} {
						for _, n := range []int{-most - 1, -most, -1, 0, 1, 64, 65, most, most + 1} {
							nodes[ahead] = api.Node{Op: op, A: a, B: b, N: n}
							checks(t, nodes, channels, checked(nodes, channels))
						}
					}
				}
				for _, v := range values {
					nodes[ahead] = api.Node{Op: op, B: v}
					checks(t, nodes, channels, checked(nodes, channels))
					nodes[ahead] = api.Node{Op: op, N: v}
					checks(t, nodes, channels, checked(nodes, channels))
					nodes[ahead] = api.Node{Op: v}
					checks(t, nodes, channels, checked(nodes, channels))
				}
			}
		}
	}
}

// The edges of the table, by hand.
func TestP151Table(t *testing.T) {
	for _, c := range []struct {
		x   api.Node
		may bool
	}{
		{api.Node{Op: 0}, true}, {api.Node{Op: 0, A: 1}, false}, {api.Node{Op: 0, B: 1}, false}, {api.Node{Op: 0, N: 1}, false},
		{api.Node{Op: 1, A: 1, N: most}, true}, {api.Node{Op: 1, A: 2}, false}, {api.Node{Op: 1, N: most + 1}, false}, {api.Node{Op: 1, B: 1}, false},
		{api.Node{Op: 2, A: 1, N: -most}, true}, {api.Node{Op: 2, A: -1}, false}, {api.Node{Op: 2, N: -most - 1}, false}, {api.Node{Op: 2, B: 2}, false},
		{api.Node{Op: 3, A: 1}, true}, {api.Node{Op: 3, A: 2}, false}, {api.Node{Op: 3, N: 1}, false}, {api.Node{Op: 3, B: 1}, false},
		{api.Node{Op: 4, A: 1}, true}, {api.Node{Op: 4, A: 2}, false}, {api.Node{Op: 4, N: -1}, false}, {api.Node{Op: 4, B: 1}, false},
		{api.Node{Op: 5, A: 1}, true}, {api.Node{Op: 5, A: 2}, false}, {api.Node{Op: 5, N: 1}, false}, {api.Node{Op: 5, B: -1}, false},
		{api.Node{Op: 6, A: 2}, true}, {api.Node{Op: 6, A: 3}, false}, {api.Node{Op: 6, N: 1}, false}, {api.Node{Op: 6, B: 1}, false}, {api.Node{Op: 6, A: -1}, false},
		{api.Node{Op: 7, A: 2, B: 2}, true}, {api.Node{Op: 7, A: 3}, false}, {api.Node{Op: 7, B: 3}, false}, {api.Node{Op: 7, N: 1}, false}, {api.Node{Op: 7, B: -1}, false},
		{api.Node{Op: 8, A: 0, B: 2}, true}, {api.Node{Op: 8, A: 3}, false}, {api.Node{Op: 8, B: 3}, false}, {api.Node{Op: 8, N: 1}, false},
		{api.Node{Op: 9, A: 2}, true}, {api.Node{Op: 9, A: 3}, false}, {api.Node{Op: 9, N: 1}, false}, {api.Node{Op: 9, B: 1}, false},
		{api.Node{Op: 10, A: 2, N: 64}, true}, {api.Node{Op: 10, N: 0}, true}, {api.Node{Op: 10, N: 65}, false}, {api.Node{Op: 10, N: -1}, false}, {api.Node{Op: 10, A: 3}, false}, {api.Node{Op: 10, B: 1}, false},
		{api.Node{Op: 11, A: 2, N: 64}, true}, {api.Node{Op: 11, N: 0}, true}, {api.Node{Op: 11, N: 65}, false}, {api.Node{Op: 11, N: -1}, false}, {api.Node{Op: 11, A: 3}, false}, {api.Node{Op: 11, B: 1}, false},
		{api.Node{Op: 12, A: 2, B: 2}, true}, {api.Node{Op: 12, A: 3}, false}, {api.Node{Op: 12, B: 3}, false}, {api.Node{Op: 12, N: 1}, false},
		{api.Node{Op: 13}, false}, {api.Node{Op: -1}, false},
	} {
		want := api.ErrForm
		if c.may {
			want = api.OK
		}
		checks(t, []api.Node{{}, {}, {}, c.x}, 2, want)
	}
}

// A node that may not be spoils the formula wherever it stands, also where the root does not ask for it.
func TestP151Anywhere(t *testing.T) {
	for n := 1; n <= 32; n++ {
		for at := range n {
			for _, bad := range []api.Node{{Op: 13}, {Op: 6, A: at}, {Op: 7, A: at, B: at}, {Op: 12, B: at}, {Op: 1, A: 8}, {N: 1}, {Op: 10, A: at}} {
				l := make([]api.Node, n)
				l[at] = bad
				checks(t, l, 8, api.ErrForm)
			}
		}
	}
}

// Formulas at random, whole and with one number of one node thrown anew.
func TestP151Random(t *testing.T) {
	stories(151, 3000, func(d *dice, s story) {
		n := len(s.channels)
		checks(t, s.l, n, api.OK)
		for range 20 {
			l := slices.Clone(s.l)
			x := &l[d.below(len(l))]
			v := pick(d, edges()...)
			*pick(d, &x.Op, &x.A, &x.B, &x.N) = v
			checks(t, l, n, checked(l, n))
			*x = api.Node{Op: d.below(14), A: d.below(34) - 1, B: d.below(34) - 1, N: pick(d, 0, 0, 64, 65, -1)}
			checks(t, l, n, checked(l, n))
		}
		for channels := range 9 {
			checks(t, s.l, channels, checked(s.l, channels))
		}
	})
}

// What counts is which nodes are kept, wherever they stand.
func TestP154Memory(t *testing.T) {
	for _, c := range []struct {
		l    []api.Node
		want int
	}{
		{[]api.Node{{}}, 0},
		{[]api.Node{{Op: 1}}, 0}, {[]api.Node{{Op: 2}}, 0}, {[]api.Node{{Op: 3}}, 0}, {[]api.Node{{Op: 4}}, 0}, {[]api.Node{{Op: 5}}, 0},
		{[]api.Node{{}, {Op: 6}}, 0}, {[]api.Node{{}, {Op: 7}}, 0}, {[]api.Node{{}, {Op: 8}}, 0},
		{[]api.Node{{}, {Op: 9}}, 1}, {[]api.Node{{}, {Op: 10}}, 1}, {[]api.Node{{}, {Op: 10, N: 64}}, 1}, {[]api.Node{{}, {Op: 11}}, 1}, {[]api.Node{{}, {Op: 11, N: 64}}, 1}, {[]api.Node{{}, {Op: 12}}, 1},
		{[]api.Node{{}, {Op: 9}, {Op: 10}, {Op: 11}, {Op: 12}}, 4},
		{[]api.Node{{}, {Op: 9}, {Op: 9}, {}}, 2},
		{append([]api.Node{{}}, slices.Repeat([]api.Node{{Op: 12}}, 31)...), 31},
		{[]api.Node{{Op: 5, A: 7}}, 0},
	} {
		for range 2 {
			if n, e := Memory(c.l); n != c.want || e != api.OK {
				t.Errorf("Memory(%v) = %d, %d, want %d", c.l, n, e, c.want)
			}
		}
	}
}

func TestP154Refused(t *testing.T) {
	kept := api.Node{Op: 9}
	for _, c := range []struct {
		l    []api.Node
		want api.Errno
	}{
		{nil, api.ErrForm},
		{[]api.Node{}, api.ErrForm},
		{make([]api.Node, 33), api.ErrMany},
		{append([]api.Node{{}}, slices.Repeat([]api.Node{kept}, 32)...), api.ErrMany},
		{[]api.Node{kept}, api.ErrForm},
		{[]api.Node{{}, kept, {Op: 13}}, api.ErrForm},
		{[]api.Node{{}, kept, {Op: 5, A: 8}}, api.ErrForm},
		{[]api.Node{{}, kept, {Op: 10, N: 65}}, api.ErrForm},
	} {
		if n, e := Memory(c.l); n != 0 || e != c.want {
			t.Errorf("Memory(%v) = %d, %d, want %d", c.l, n, e, c.want)
		}
	}
}

func TestP154Random(t *testing.T) {
	stories(154, 3000, func(d *dice, s story) {
		want := 0
		for _, x := range s.l {
			if slices.Contains([]int{9, 10, 11, 12}, x.Op) {
				want++
			}
		}
		if n, e := Memory(s.l); n != want || e != api.OK {
			t.Fatalf("Memory(%v) = %d, %d, want %d", s.l, n, e, want)
		}
		x := &s.l[d.below(len(s.l))]
		*pick(d, &x.Op, &x.A, &x.B, &x.N) = pick(d, edges()...)
		if n, e := Memory(s.l); e != checked(s.l, 8) || e != api.OK && n != 0 {
			t.Fatalf("Memory(%v) = %d, %d", s.l, n, e)
		}
	})
}
