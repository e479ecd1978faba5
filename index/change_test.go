package index_test

import (
	"slices"
	"strconv"
	"strings"
	"testing"

	"lattice/api"
	"lattice/graph"
	"lattice/index"
	"lattice/value"
)

// P12.3: Change, Copy.

func TestChangeDocumented(t *testing.T) {
	x := made(t, documented())
	change(t, x, put(with(1, value.Int(2))), drop(0))
	are(t, "Seek(2)", x.Seek(value.Int(2)), 1, 2)
}

// behind holds what is in the index of the documented graph behind changes, and that a graph to which they are applied has this index.
func behind(t *testing.T, what string, l []api.Change, want ...entry) {
	t.Helper()
	x, g := made(t, documented()), documented()
	change(t, x, l...)
	are(t, what, entries(x), want...)
	after, e := graph.Apply(g, append([]api.Change{{Kind: api.ChangeNext, ID: highest, Other: highest}}, l...)...)
	if e != api.OK {
		t.Fatal(what, e)
	}
	alike(t, what, x, made(t, after))
	holds(t, x, after, append(stored(), value.String("x"))...)
}

func TestChangeNodes(t *testing.T) {
	text, one, two := entry{3, "'x'"}, entry{1, "1"}, []entry{{0, "2"}, {2, "2"}}
	was := append([]entry{text, one}, two...)
	for _, c := range []struct {
		what string
		l    []api.Change
		want []entry
	}{
		{"nothing", nil, was},
		{"put anew", []api.Change{put(with(9, value.Int(1)))}, []entry{text, one, {9, "1"}, two[0], two[1]}},
		{"put anew in front", []api.Change{put(with(9, list()))}, append([]entry{{9, "[]"}}, was...)},
		{"put anew at the end", []api.Change{put(with(6, value.Int(greatest)))}, append(slices.Clone(was), entry{6, "9223372036854775807"})},
		{"under the greatest number", []api.Change{put(with(highest-1, value.Int(1)))}, []entry{text, one, {highest - 1, "1"}, two[0], two[1]}},
		{"put anew without the label", []api.Change{put(node(9, labels("AA", "B"), prop("k", value.Int(1))))}, was},
		{"put anew without the property", []api.Change{put(node(9, labels("A"), prop("j", value.Int(1))))}, was},
		{"put anew with nothing", []api.Change{put(node(9, nil))}, was},
		{"put as it is", []api.Change{put(with(0, value.Int(2)))}, was},
		{"another value", []api.Change{put(with(0, value.Int(1)))}, []entry{text, {0, "1"}, one, two[1]}},
		{"a value of another kind", []api.Change{put(with(0, list(value.Bool(true))))}, []entry{{0, "[true]"}, text, one, two[1]}},
		{"another label", []api.Change{put(node(0, labels("B"), prop("k", value.Int(2))))}, []entry{text, one, two[1]}},
		{"one more label", []api.Change{put(node(0, labels("0", "A", "B"), prop("k", value.Int(2))))}, was},
		{"no label", []api.Change{put(node(0, nil, prop("k", value.Int(2))))}, []entry{text, one, two[1]}},
		{"without the property", []api.Change{put(node(1, labels("A")))}, []entry{text, two[0], two[1]}},
		{"another key", []api.Change{put(node(1, labels("A"), prop("K", value.Int(1)), prop("kk", value.Int(1))))}, []entry{text, two[0], two[1]}},
		{"one more property", []api.Change{put(node(1, labels("A"), prop("K", value.Int(7)), prop("k", value.Int(1)), prop("z", value.Int(8))))}, was},
		{"one that gets the label", []api.Change{put(node(4, labels("A", "B"), prop("k", value.Int(1))))}, []entry{text, one, {4, "1"}, two[0], two[1]}},
		{"one that gets the property", []api.Change{put(with(5, value.Int(0)))}, []entry{text, {5, "0"}, one, two[0], two[1]}},
		{"one goes", []api.Change{drop(0)}, []entry{text, one, two[1]}},
		{"the first one goes", []api.Change{drop(3)}, was[1:]},
		{"the last one goes", []api.Change{drop(2)}, was[:3]},
		{"all go", []api.Change{drop(0), drop(1), drop(2), drop(3)}, nil},
		{"those go that are not in it", []api.Change{drop(4), drop(5), drop(6), drop(-1), drop(lowest), drop(highest), drop(greatest)}, was},
		{"one goes twice", []api.Change{drop(1), drop(1)}, []entry{text, two[0], two[1]}},
	} {
		behind(t, c.what, c.l, c.want...)
	}
}

// TestChangeOneByOne: several changes one behind the other; the last one of a node counts.
func TestChangeOneByOne(t *testing.T) {
	behind(t, "put, goes", []api.Change{put(with(7, value.Int(1))), drop(7)}, entry{3, "'x'"}, entry{1, "1"}, entry{0, "2"}, entry{2, "2"})
	behind(t, "goes, put", []api.Change{drop(1), put(with(1, value.Int(3)))}, entry{3, "'x'"}, entry{0, "2"}, entry{2, "2"}, entry{1, "3"})
	behind(t, "put, put", []api.Change{put(with(1, value.Int(3))), put(with(1, value.Int(0))), put(with(7, value.Int(0))), put(with(7, value.Int(2)))},
		entry{3, "'x'"}, entry{1, "0"}, entry{0, "2"}, entry{2, "2"}, entry{7, "2"})
	behind(t, "put, put without", []api.Change{put(with(5, value.Int(3))), put(node(5, labels("A"))), put(with(1, value.Int(7))), put(node(1, labels("B"), prop("k", value.Int(7))))},
		entry{3, "'x'"}, entry{0, "2"}, entry{2, "2"})
	behind(t, "change places", []api.Change{put(with(0, value.Int(1))), put(with(1, value.Int(2))), put(with(3, value.Int(2))), put(with(2, value.String("x")))},
		entry{2, "'x'"}, entry{0, "1"}, entry{1, "2"}, entry{3, "2"})
	// In one call or in several is the same.
	l := []api.Change{put(with(9, value.Int(4))), drop(0), put(with(0, value.String("y"))), put(with(9, value.Int(3))), drop(3), put(node(2, nil))}
	x, y := made(t, documented()), made(t, documented())
	change(t, x, l...)
	for _, c := range l {
		change(t, y, c)
	}
	alike(t, "one by one", x, y)
	are(t, "one by one", entries(x), entry{0, "'y'"}, entry{1, "1"}, entry{9, "3"})
}

// TestChangeOthers: of a change counts what its kind uses; relationships and next numbers change nothing, whatever they are.
func TestChangeOthers(t *testing.T) {
	in, bad := with(9, value.Int(1)), with(-1, value.Null())
	for what, c := range map[string]api.Change{
		"a relationship":                      {Kind: api.ChangeRel, Rel: api.Rel{ID: 1, From: 0, To: 1, Type: "A", Props: []api.Prop{prop("k", value.Int(7))}}},
		"one that may not be":                 {Kind: api.ChangeRel, Rel: api.Rel{ID: -1, From: 77, To: -1, Props: []api.Prop{prop("", value.Null())}}},
		"one with a node":                     {Kind: api.ChangeRel, Node: in},
		"one with a node that may not be":     {Kind: api.ChangeRel, Node: bad},
		"a relationship goes":                 {Kind: api.ChangeDropRel, ID: 0},
		"one goes, with a node":               {Kind: api.ChangeDropRel, ID: 1, Other: 2, Node: in},
		"one goes that is nowhere":            {Kind: api.ChangeDropRel, ID: lowest},
		"next numbers":                        {Kind: api.ChangeNext, ID: 100, Other: 100},
		"next numbers that may not be":        {Kind: api.ChangeNext, ID: -1, Other: greatest},
		"next numbers with a node":            {Kind: api.ChangeNext, ID: 1, Node: in},
		"next numbers below what is there":    {Kind: api.ChangeNext},
		"a node goes that is not, with a put": {Kind: api.ChangeDropNode, ID: 4, Other: 0, Node: in},
		"one goes, with one that may not be":  {Kind: api.ChangeDropNode, ID: 4, Node: bad},
	} {
		x := made(t, documented())
		change(t, x, c)
		alike(t, what, x, made(t, documented()))
	}
	x := made(t, documented())
	change(t, x, api.Change{Kind: api.ChangeNode, ID: 0, Other: 1, Node: in, Rel: api.Rel{ID: -1}})
	are(t, "a node under its own number", entries(x), entry{3, "'x'"}, entry{1, "1"}, entry{9, "1"}, entry{0, "2"}, entry{2, "2"})
}

// notNodes are nodes that may not be, each of which would be in the index if it might be.
func notNodes() map[string]api.Node {
	one := prop("k", value.Int(1))
	out := map[string]api.Node{
		"a number below 0":   with(-1, value.Int(1)),
		"the least number":   with(lowest, value.Int(1)),
		"2^62":               with(highest, value.Int(1)),
		"the greatest":       with(greatest, value.Int(1)),
		"labels that fall":   node(9, labels("B", "A"), one),
		"a label twice":      node(9, labels("A", "A"), one),
		"keys that fall":     node(9, labels("A"), one, prop("j", value.Int(1))),
		"a key twice":        node(9, labels("A"), one, one),
		"another value null": node(9, labels("A"), prop("j", value.Null()), one),
	}
	for _, name := range notNames() {
		what := strconv.Quote(name)
		out["a label "+what] = node(9, labels(name), one)
		out["a label "+what+" and A"] = node(9, slices.Sorted(slices.Values(labels("A", name))), one)
		out["a key "+what] = node(9, labels("A"), prop(name, value.Int(1)))
	}
	for i, v := range append(other(), refused()...) {
		out["a value, "+strconv.Itoa(i)] = with(9, v)
	}
	return out
}

// TestChangeRefuses: ErrArg, and nothing is changed, be it behind changes that may be or ahead of them.
func TestChangeRefuses(t *testing.T) {
	bad := map[string]api.Change{}
	for what, n := range notNodes() {
		bad[what] = put(n)
		n.Labels = slices.DeleteFunc(slices.Clone(n.Labels), func(l string) bool { return l == "A" })
		if _, e := graph.Apply(api.Graph{NextNode: highest}, put(n)); e != api.OK {
			bad[what+", without the label"] = put(n)
		}
	}
	for _, kind := range []api.ChangeKind{5, 9, -1, -1 << 63, 1<<63 - 1} {
		bad["no kind "+strconv.Itoa(int(kind))] = api.Change{Kind: kind, ID: 1, Node: with(9, value.Int(1))}
	}
	x := made(t, documented())
	was := made(t, documented())
	may := []api.Change{put(with(1, value.Int(5))), drop(0), put(with(8, value.String("y"))), {Kind: api.ChangeNext, ID: 20}, put(node(3, nil))}
	for what, c := range bad {
		for _, l := range [][]api.Change{{c}, append(slices.Clone(may), c), append([]api.Change{c}, may...), slices.Concat(may, []api.Change{c}, may), {c, put(with(9, value.Int(1)))}, {c, drop(9)}} {
			is(t, what, x.Change(l...), api.ErrArg)
			are(t, what, entries(x), entries(was)...)
			if v, in := x.Value(1); !in || v.Int != 1 {
				t.Error(what, v, in)
			}
		}
	}
	alike(t, "behind all that was refused", x, was)
	holds(t, x, documented(), stored()...)
	change(t, x, may...)
	are(t, "it goes on", entries(x), entry{8, "'y'"}, entry{2, "2"}, entry{1, "5"})
}

// TestChangeWidest: a node that just may be.
func TestChangeWidest(t *testing.T) {
	x := made(t, api.Graph{})
	long := value.String(strings.Repeat("x", api.MaxText))
	many := list(slices.Repeat([]api.Value{value.Int(1)}, api.MaxRows)...)
	name := strings.Repeat("x", api.MaxName)
	change(t, x, put(node(0, labels("A", name), prop("k", long), prop(name, many))), put(with(highest-1, many)))
	are(t, "Seek", x.Seek(long), 0)
	are(t, "Seek", x.Seek(many), highest-1)
}

// TestCopy: copies go on apart, from each other and from what they are of.
func TestCopy(t *testing.T) {
	x := made(t, documented())
	y := x.Copy()
	is(t, "There", y.There(), true)
	is(t, "another one", x != y, true)
	alike(t, "at first", x, y)
	change(t, x, put(with(1, value.Int(2))), drop(0))
	alike(t, "the copy", y, made(t, documented()))
	z := x.Copy()
	change(t, y, drop(3), put(with(10, list())), put(with(2, value.Bool(true))))
	change(t, z, put(with(7, value.Int(2))))
	change(t, x, put(with(7, value.Int(0))))
	are(t, "what it is of", entries(x), entry{3, "'x'"}, entry{7, "0"}, entry{1, "2"}, entry{2, "2"})
	are(t, "the copy", entries(y), entry{10, "[]"}, entry{2, "true"}, entry{1, "1"}, entry{0, "2"})
	are(t, "the other copy", entries(z), entry{3, "'x'"}, entry{1, "2"}, entry{2, "2"}, entry{7, "2"})
	is(t, "refused", y.Change(drop(1), api.Change{Kind: 5}), api.ErrArg)
	are(t, "behind it", entries(y), entry{10, "[]"}, entry{2, "true"}, entry{1, "1"}, entry{0, "2"})
	label, key := madeOf(t, documented(), "B", "kk").Copy().Name()
	is(t, "Name", label+" "+key, "B kk")
	e := made(t, api.Graph{}).Copy()
	is(t, "of nothing", e.There(), true)
	change(t, e, put(with(1, value.Int(1))))
	are(t, "of nothing", e.Seek(value.Int(1)), 1)
}

// TestCopiesOfOne: many copies of one, each changed at another place, so that no list is one of two.
func TestCopiesOfOne(t *testing.T) {
	x := made(t, documented())
	change(t, x, put(with(20, value.Int(9))), drop(20))
	var l []*index.Index
	for i := range int64(20) {
		l = append(l, x.Copy())
		change(t, l[i], put(with(30+i, value.Int(i%4))))
	}
	for i, y := range l {
		v, in := y.Value(30 + int64(i))
		is(t, "its own", in && v.Int == int64(i%4), true)
		n, _ := y.Len()
		is(t, "no other", n, 5)
		change(t, y, drop(30+int64(i)))
		alike(t, "without it", y, x)
	}
}

// TestChangeLeaves: what is handed in stays as it was, with the room behind its lists, and is not kept.
func TestChangeLeaves(t *testing.T) {
	roomy := func() []api.Change {
		n := node(3, spare("spare", "A", "B"), spare(prop("spare", value.Int(1)), prop("k", api.Value{Kind: api.ValueList, List: spare(value.Int(9), value.Int(2), value.Int(1))}))...)
		return spare(put(with(50, value.Int(50))), put(n), drop(1), put(with(0, value.Int(3))))
	}
	x, l, was := made(t, documented()), roomy(), roomy()
	change(t, x, l...)
	before := entries(x)
	are(t, "Entries", before, entry{3, "[2, 1]"}, entry{2, "2"}, entry{0, "3"})
	for i, c := range whole(l) {
		is(t, "the changes", c.Kind == whole(was)[i].Kind && c.ID == whole(was)[i].ID, true)
		is(t, "their nodes", graph.Same(api.Graph{Nodes: []api.Node{c.Node}}, api.Graph{Nodes: []api.Node{whole(was)[i].Node}}), true)
	}
	n := l[0].Node
	are(t, "behind the labels", whole(n.Labels), "A", "B", "spare")
	is(t, "behind the properties", whole(n.Props)[1].Key, "spare")
	is(t, "behind a list", text(list(whole(n.Props[0].Value.List)...)), "[2, 1, 9]")
	n.Props[0].Value.List[0] = value.Int(77)
	n.Labels[0] = "Z"
	n.Props[0].Key = "z"
	l[2].Node.Props[0].Value = value.Int(78)
	are(t, "it keeps nothing", entries(x), before...)
	is(t, "refused", x.Change(append(l, api.Change{Kind: 7})...), api.ErrArg)
	are(t, "behind it", entries(x), before...)
}
