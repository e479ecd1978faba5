package index_test

import (
	"math/rand/v2"
	"slices"
	"strings"
	"testing"

	"lattice/api"
	"lattice/index"
	"lattice/value"
)

// P12.2: Seek, Below, Above.

func TestFindDocumented(t *testing.T) {
	x := made(t, documented())
	are(t, "Seek(2)", x.Seek(value.Int(2)), 0, 2)
	are(t, "Seek(null)", x.Seek(value.Null()))
	are(t, "Below(2, false)", x.Below(value.Int(2), false), 1)
	are(t, "Below(2, true)", x.Below(value.Int(2), true), 0, 1, 2)
	are(t, "Above(1, false)", x.Above(value.Int(1), false), 0, 2)
	are(t, "Above('a', false)", x.Above(value.String("a"), false), 3)
}

// several is a graph with each value twice, once under a low number and once under a high one, so that no order of values is one of numbers.
func several() api.Graph {
	values := stored()
	var nodes []api.Node
	for i := range values {
		nodes = append(nodes, with(int64(i), values[(i*11)%len(values)]))
	}
	for i := range values {
		nodes = append(nodes, with(int64(100+3*i), values[(i*5+3)%len(values)]))
	}
	return of(nodes...)
}

// finding holds what is found of one value: of Seek, Below, Below with or, Above, Above with or.
func finding(t *testing.T, x *index.Index, v api.Value, want ...[]int64) {
	t.Helper()
	are(t, "Seek "+text(v), x.Seek(v), want[0]...)
	are(t, "Below "+text(v), x.Below(v, false), want[1]...)
	are(t, "Below or "+text(v), x.Below(v, true), want[2]...)
	are(t, "Above "+text(v), x.Above(v, false), want[3]...)
	are(t, "Above or "+text(v), x.Above(v, true), want[4]...)
}

func numbers(l ...int64) []int64 { return l }

func TestFindNumbers(t *testing.T) {
	x := made(t, of(with(0, value.Int(5)), with(1, value.Int(-3)), with(2, value.Int(5)), with(3, value.Int(7)), with(4, value.Int(lowest)), with(5, value.Int(greatest)),
		with(6, value.String("5")), with(7, value.Bool(true)), with(8, list(value.Int(5)))))
	finding(t, x, value.Int(5), numbers(0, 2), numbers(1, 4), numbers(0, 1, 2, 4), numbers(3, 5), numbers(0, 2, 3, 5))
	finding(t, x, value.Int(6), nil, numbers(0, 1, 2, 4), numbers(0, 1, 2, 4), numbers(3, 5), numbers(3, 5))
	finding(t, x, value.Int(lowest), numbers(4), nil, numbers(4), numbers(0, 1, 2, 3, 5), numbers(0, 1, 2, 3, 4, 5))
	finding(t, x, value.Int(greatest), numbers(5), numbers(0, 1, 2, 3, 4), numbers(0, 1, 2, 3, 4, 5), nil, numbers(5))
}

func TestFindTexts(t *testing.T) {
	x := made(t, of(with(0, value.String("b")), with(1, value.String("")), with(2, value.String("ab")), with(3, value.String("é")), with(4, value.String("b")),
		with(5, list(value.String("b"))), with(6, value.Bool(false)), with(7, value.Int(0))))
	finding(t, x, value.String("b"), numbers(0, 4), numbers(1, 2), numbers(0, 1, 2, 4), numbers(3), numbers(0, 3, 4))
	finding(t, x, value.String("a"), nil, numbers(1), numbers(1), numbers(0, 2, 3, 4), numbers(0, 2, 3, 4))
	finding(t, x, value.String(""), numbers(1), nil, numbers(1), numbers(0, 2, 3, 4), numbers(0, 1, 2, 3, 4))
	finding(t, x, value.String("z"), nil, numbers(0, 1, 2, 4), numbers(0, 1, 2, 4), numbers(3), numbers(3))
	finding(t, x, value.String("\U0010ffff"), nil, numbers(0, 1, 2, 3, 4), numbers(0, 1, 2, 3, 4), nil, nil)
}

func TestFindTruths(t *testing.T) {
	x := made(t, of(with(0, value.Bool(true)), with(1, value.Bool(false)), with(2, value.Int(0)), with(3, value.String("true")), with(4, value.Bool(true)), with(5, list(value.Bool(true)))))
	finding(t, x, value.Bool(true), numbers(0, 4), numbers(1), numbers(0, 1, 4), nil, numbers(0, 4))
	finding(t, x, value.Bool(false), numbers(1), nil, numbers(1), numbers(0, 4), numbers(0, 1, 4))
	x = made(t, of(with(0, value.Int(0)), with(3, value.String("true"))))
	finding(t, x, value.Bool(true), nil, nil, nil, nil, nil)
}

// TestFindLists: no list is less than another one, so that only equal ones are found.
func TestFindLists(t *testing.T) {
	one, two := value.Int(1), value.Int(2)
	x := made(t, of(with(0, list(one, two)), with(1, list(one)), with(2, list()), with(3, list(two)), with(4, list(one, two)), with(5, one), with(6, list(value.String("1"))), with(7, value.String(""))))
	for _, c := range []struct {
		v    api.Value
		want []int64
	}{
		{list(one, two), numbers(0, 4)}, {list(one), numbers(1)}, {list(), numbers(2)}, {api.Value{Kind: api.ValueList, List: []api.Value{}}, numbers(2)}, {list(two), numbers(3)},
		{list(value.String("1")), numbers(6)}, {list(two, one), nil}, {list(one, two, two), nil}, {list(value.Int(0)), nil}, {list(value.Bool(true)), nil}, {list(list()), nil},
		{list(one, value.String("a")), nil}, {list(value.Null()), nil}, {list(one, value.Null()), nil}, {list(value.Null(), two), nil},
	} {
		finding(t, x, c.v, c.want, nil, c.want, nil, c.want)
	}
}

// TestFindNothing: of null, of maps, nodes, relationships nothing is found, though all kinds of values are there.
func TestFindNothing(t *testing.T) {
	x := made(t, several())
	for _, v := range other() {
		finding(t, x, v, nil, nil, nil, nil, nil)
	}
}

func TestFindRefused(t *testing.T) {
	long := value.String(strings.Repeat("x", api.MaxText))
	x := made(t, several())
	change(t, x, put(with(1000, long)))
	for _, v := range refused() {
		finding(t, x, v, nil, nil, nil, nil, nil)
	}
	are(t, "one that just may be", x.Seek(long), 1000)
}

func TestFindAll(t *testing.T) {
	g := several()
	holds(t, made(t, g), g, slices.Concat(stored(), other(), refused(), []api.Value{
		value.Int(3), value.Int(-2), value.Int(lowest + 1), value.Int(greatest - 1), value.String("a\x00\x00"), value.String("0"), value.String("\U0010ffff"),
		list(value.Int(0)), list(value.Int(1), value.Int(1)), list(value.String("a"), value.String("")), list(value.Bool(true), value.Bool(true)),
	})...)
}

// TestFindLong: values that differ in their last part alone.
func TestFindLong(t *testing.T) {
	long := strings.Repeat("x", api.MaxText-1)
	many := slices.Repeat([]api.Value{value.Int(1)}, api.MaxRows-1)
	of1 := func(n int64) api.Value { return list(append(slices.Clone(many), value.Int(n))...) }
	g := of(with(0, value.String(long+"b")), with(1, of1(3)), with(2, value.String(long+"a")), with(3, value.String(long)), with(4, value.String(long+"b")), with(5, of1(2)), with(6, of1(3)))
	x := made(t, g)
	finding(t, x, value.String(long+"b"), numbers(0, 4), numbers(2, 3), numbers(0, 2, 3, 4), nil, numbers(0, 4))
	finding(t, x, of1(3), numbers(1, 6), nil, numbers(1, 6), nil, numbers(1, 6))
	holds(t, x, g, value.String(long+"a"), value.String(long), of1(2), list(many...))
}

func TestFindByChance(t *testing.T) {
	r := rand.New(rand.NewPCG(12, 3))
	for range 1000 {
		g := chance(r)
		x := made(t, g)
		for range 6 {
			holds(t, x, g, pick(r, stored()...), pick(r, other()...), value.Int(int64(r.IntN(7))-3), value.String(pick(r, "", "a", "aa", "b", "zz")))
		}
		if t.Failed() {
			t.Fatal(g)
		}
	}
}

// TestFindLeaves: the value stays as it was, with the room behind its list; what is answered is memory of its own.
func TestFindLeaves(t *testing.T) {
	x := made(t, of(with(0, list(value.Int(1))), with(1, value.Int(1)), with(2, list(value.Int(1))), with(3, value.Int(2))))
	v := api.Value{Kind: api.ValueList, List: spare(value.Int(9), value.Int(1))}
	before := entries(x)
	for range 2 {
		for _, l := range [][]int64{x.Seek(v), x.Below(v, true), x.Above(v, true)} {
			are(t, "of a list", l, 0, 2)
			l = append(l, 7)
			clear(whole(l))
		}
		for _, l := range [][]int64{x.Seek(value.Int(1)), x.Below(value.Int(2), false), x.Below(value.Int(1), true)} {
			are(t, "of a number", l, 1)
			l = append(l, 7)
			clear(whole(l))
		}
		for _, l := range [][]int64{x.Below(value.Int(2), true), x.Above(value.Int(1), true)} {
			are(t, "of numbers", l, 1, 3)
			clear(whole(l))
		}
	}
	are(t, "the index", entries(x), before...)
	is(t, "the value", text(v), "[1]")
	is(t, "behind it", whole(v.List)[1].Int, 9)
}
