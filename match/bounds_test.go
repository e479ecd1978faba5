package match_test

import (
	"strconv"
	"strings"
	"testing"

	"lattice/api"
	"lattice/match"
	"lattice/value"
)

// P8.1: MaxRows rows, and one more.
func TestMostRows(t *testing.T) {
	all := plain(t, api.MaxElements)
	l, no := match.Find(all, api.Place{}, clause(t, "(a)"))
	if no != api.OK || len(l) != api.MaxRows || l[0][0].Int != 0 || l[api.MaxRows-1][0].Int != api.MaxRows-1 {
		t.Error(len(l), no)
	}
	if n, no := match.Ways(all, api.Place{}, clause(t, "(a)")); no != api.OK || n != api.MaxRows {
		t.Error(n, no)
	}
	// 256 * 256 and 257 * 257 ways; of the latter 255 * 257 and one, or two more, are as many as may be, or one too many.
	small, great := plain(t, 256), plain(t, 257)
	for _, x := range []struct {
		text string
		want int
	}{
		{"(a), (b)", -1},
		{"(), ()", -1},
		{"(a), (b) WHERE true", -1},
		{"(a), (b) WHERE a.k < 255", 255 * 257},
		{"(a), (b) WHERE a.k < 255 OR a.k = 255 AND b.k = 7", api.MaxRows},
		{"(a), (b) WHERE a.k < 255 OR a.k = 255 AND b.k IN [7, 8]", -1},
		{"(a), (b) WHERE id(a) < 255 OR a.k = 255 AND b.k = 7", api.MaxRows},
		{"(a), (b) WHERE id(a) < 255 OR a.k = 255 AND b.k IN [7, 8]", -1},
		{"(a), (b) WHERE a.k > 1", 255 * 257},
		{"(a), (b) WHERE a.k > 0", -1},
		{"(a), (b) WHERE a.k = b.k", 257},
		{"OPTIONAL MATCH (a), (b) WHERE a.k = 1000", 1},
		{"OPTIONAL MATCH (a), (b)", -1},
	} {
		l, no := match.Find(great, api.Place{}, clause(t, x.text))
		if x.want < 0 && (no != api.ErrRows || l != nil) || x.want >= 0 && (no != api.OK || len(l) != x.want) {
			t.Errorf("%s: %d %v", x.text, len(l), no)
		}
	}
	for _, s := range []string{"(a), (b)", "(a), (b) WHERE true", "(a), (b) WHERE id(a) = id(a)"} {
		if l, no := match.Find(small, api.Place{}, clause(t, s)); no != api.OK || len(l) != api.MaxRows {
			t.Errorf("%s: %d %v", s, len(l), no)
		}
		if n, no := match.Ways(small, api.Place{}, clause(t, s)); no != api.OK || n != api.MaxRows {
			t.Errorf("%s: %d %v", s, n, no)
		}
		if n, no := match.Ways(great, api.Place{}, clause(t, s)); no != api.ErrRows || n != 0 {
			t.Errorf("%s: %d %v", s, n, no)
		}
	}
	// Just as many ways as may be, and one more: a loop is one, another relationship two.
	for loops, want := range map[int]api.Errno{1: api.ErrRows, 2: api.OK} {
		rels := make([][2]int, api.MaxRows/2+1)
		for i := loops; i < len(rels); i++ {
			rels[i] = [2]int{0, 1}
		}
		g := plain(t, 2, rels...)
		l, no := match.Find(g, api.Place{}, clause(t, "(a)-[r]-()"))
		n, wrong := match.Ways(g, api.Place{}, clause(t, "(a)-[r]-()"))
		if no != want || wrong != want || len(l) != n || want == api.OK && n != api.MaxRows {
			t.Error(loops, len(l), no, n, wrong)
		}
	}
}

// What goes wrong counts ahead of too many rows, wherever it stands.
func TestWrongAheadOfTooMany(t *testing.T) {
	g := plain(t, 300)
	hold(t, g, api.Place{},
		finds{"(a), (b) WHERE id(a) < 299 OR 1 / 0 = 1", "!zero"},
		finds{"(a), (b) WHERE id(b) < 299 OR 1 / 0 = 1", "!zero"},
		finds{"(a), (b) WHERE id(a) + id(b) < 598 OR 1 / 0 = 1", "!zero"},
		finds{"(a), (b) WHERE CASE WHEN a.k < 298 THEN true WHEN a.k = 298 THEN 7 ELSE 1 / 0 = 1 END", "!type"},
		finds{"(), (b) WHERE CASE WHEN id(b) = 1 THEN 7 WHEN id(b) = 0 THEN 1 / 0 ELSE true END AND false", "!zero"},
		finds{"(a), (b) WHERE a.k >= 0 AND (id(a) < 299 OR 1 / 0 = 1)", "!zero"},
		finds{"(a), (b {k: 1 / 0})", "!zero"},
		finds{"(a), (b), (c {k: 1 / 0})", "!zero"},
	)
}

// Where nothing can go wrong, ways are not looked for behind MaxRows rows, nor where a part fits no node.
func TestNoMoreIsLookedForThanNeedBe(t *testing.T) {
	g := plain(t, api.MaxElements)
	hold(t, g, api.Place{},
		finds{"(a), (b)", "!rows"},
		finds{"(a), (b), (c), (d)", "!rows"},
		finds{"(a), (b), (c) WHERE a.k >= 0 AND b:A IS NOT NULL", "!rows"},
		finds{"(a), (b), (c:C)", ""},
		finds{"(a), (b), (c {k: -1})-->(d)", ""},
		finds{"OPTIONAL MATCH (a), (b), (:C)", "null null;"},
	)
	for _, v := range []api.Value{value.Null(), node(api.MaxElements)} {
		p := place("x", v)
		s := strings.TrimSuffix(told([][]api.Value{p.Row}, api.OK), ";")
		hold(t, g, p, finds{"(a), (b), (x)", ""}, finds{"(a), (b), (c)-->(x)", ""}, finds{"OPTIONAL MATCH (a), (b), (x)", s + " null null;"})
	}
	hold(t, g, place("x", node(7)), finds{"(a), (b), (x:C)", ""}, finds{"(a), (b), (c)-->(x {k: 8})", ""})
	if n, no := match.Ways(g, api.Place{}, clause(t, "(a), (b), (c) WHERE 1 / 0")); n != 0 || no != api.ErrRows {
		t.Error(n, no)
	}
}

// As many parts as may be in one path, and a great many in all.
func TestLongPaths(t *testing.T) {
	const paths, each = 30, api.MaxItems
	chain := make([][2]int, paths*each)
	for i := range chain {
		chain[i] = [2]int{i, i + 1}
	}
	g := plain(t, len(chain)+1, chain...)
	var b strings.Builder
	for i := range paths {
		if i > 0 {
			b.WriteString(", ")
		}
		b.WriteString("(v" + strconv.Itoa(i) + ")" + strings.Repeat("-->()", each-1) + "-->(v" + strconv.Itoa(i+1) + ")")
	}
	l, no := match.Find(g, place("v0", node(0)), clause(t, b.String()))
	if no != api.OK || len(l) != 1 || len(l[0]) != paths+1 || l[0][paths].Int != paths*each {
		t.Error(len(l), no)
	}
	if n, no := match.Ways(g, place("v0", node(1)), clause(t, b.String())); no != api.OK || n != 0 {
		t.Error(n, no)
	}
}

// As many new Vars as a text can name.
func TestManyVars(t *testing.T) {
	var b strings.Builder
	for i := range api.MaxItems {
		if i > 0 {
			b.WriteString(",")
		}
		s := strconv.Itoa(i)
		b.WriteString("(a" + s + ")-[b" + s + "]->(c" + s + ")")
	}
	c := clause(t, b.String())
	loops := make([][2]int, api.MaxItems)
	g := plain(t, 1, loops[1:]...)
	if l := match.Vars([]string{"a7", "x"}, c); len(l) != 3*api.MaxItems-1 || l[0] != "a0" || l[1] != "b0" || l[2] != "c0" || l[21] != "b7" {
		t.Error(len(l))
	}
	if l, no := match.Kinds(g, place("a7", value.Null()), c); no != api.OK || l[0].Kind != api.VarNode {
		t.Error(l, no)
	}
	if got := told(match.Find(g, place("a7", node(9)), c)); got != "" {
		t.Error(got)
	}
}
