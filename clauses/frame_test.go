package clauses_test

import (
	"slices"
	"testing"

	"lattice/api"
	"lattice/clauses"
	"lattice/value"
)

// P9.1: Start, Check, Same.

func TestStart(t *testing.T) {
	f := clauses.Start()
	if len(f.Vars) != 0 || len(f.Rows) != 1 || len(f.Rows[0]) != 0 || clauses.Check(f) != api.OK {
		t.Error(f)
	}
	f.Rows[0] = ints(1)
	f.Rows = append(f.Rows, nil)
	if g := clauses.Start(); len(g.Rows) != 1 || len(g.Rows[0]) != 0 {
		t.Error("a frame is handed out twice")
	}
}

func TestCheckLetsBe(t *testing.T) {
	null, one := value.Null(), value.Int(1)
	for name, f := range map[string]api.Frame{
		"nothing":                       {},
		"no rows":                       frame("a n:b r:c"),
		"no variables":                  {Rows: [][]api.Value{nil, {}, nil}},
		"a row":                         frame("a n:b r:c", row(one, node(0), rel(0))),
		"nothing for all":               frame("a n:b r:c", row(null, null, null)),
		"elements of VarAny":            frame("a b", row(node(0), rel(0)), row(value.List(node(3)), entry("k", rel(2)))),
		"elements that are nowhere":     frame("n:a r:b", row(node(1<<62), rel(1<<62))),
		"rows in no order, and twice":   frame("a", row(null), row(one), row(one), row(node(0))),
		"a variable of no name":         {Vars: []api.Var{{}}, Rows: [][]api.Value{{one}}},
		"a variable as RETURN calls it": {Vars: []api.Var{{Name: "count(*)"}, {Name: "a.k + 1"}}, Rows: [][]api.Value{{one, one}}},
		"names of other letters":        frame("a A", row(one, one)),
		"as many rows as may be":        {Rows: make([][]api.Value, api.MaxRows)},
		"as deep as may be":             frame("a", row(nested(api.MaxDepth-1, one))),
		"empty lists":                   {Vars: []api.Var{}, Rows: [][]api.Value{}},
	} {
		if no := clauses.Check(f); no != api.OK {
			t.Errorf("%s: %v", name, no)
		}
	}
}

// badFrames are frames that may not be, in each way that the chapter tells.
func badFrames() map[string]api.Frame {
	one := value.Int(1)
	l := map[string]api.Frame{
		"two of one name":              frame("a b a"),
		"two of one name, and rows":    frame("a a", ints(1, 1)),
		"of one name, of two kinds":    frame("a n:a", row(one, node(0))),
		"two of no name":               {Vars: make([]api.Var, 2)},
		"a row too long":               frame("a", ints(1, 2)),
		"a row too short":              frame("a b", ints(1)),
		"a row of nothing":             frame("a", row()),
		"a row without variables":      {Rows: [][]api.Value{{one}}},
		"the last row":                 frame("a", ints(1), ints(2), ints(3, 4)),
		"a number as a node":           frame("n:a", row(one)),
		"a relationship as a node":     frame("n:a", row(rel(0))),
		"a list of nodes as a node":    frame("n:a", row(value.List(node(0)))),
		"a node as a relationship":     frame("r:a", row(node(0))),
		"a text as a relationship":     frame("r:a", row(value.String("r"))),
		"the last row's node":          frame("b n:a", row(one, node(0)), row(one, value.Null()), row(one, one)),
		"one row too many":             {Rows: make([][]api.Value, api.MaxRows+1)},
		"too many rows of a variable":  {Vars: []api.Var{{Name: "a"}}, Rows: slices.Repeat([][]api.Value{{one}}, api.MaxRows+1)},
		"a node below 0, as a node":    frame("n:a", row(node(-1))),
		"nothing with more, as a node": frame("n:a", row(api.Value{Int: 1})),
	}
	for name, v := range badValues() {
		l[name] = frame("a", row(v))
		l[name+", in the last row"] = frame("b a", ints(1, 1), row(one, v))
	}
	return l
}

func TestCheckRefuses(t *testing.T) {
	for name, f := range badFrames() {
		if no := clauses.Check(f); no != api.ErrArg {
			t.Errorf("%s: %v", name, no)
		}
	}
}

func TestSame(t *testing.T) {
	null, one := value.Null(), value.Int(1)
	// No two of them are the same.
	l := []api.Frame{
		{}, clauses.Start(), {Rows: make([][]api.Value, 2)},
		frame("a"), frame("n:a"), frame("r:a"), frame("b"), frame("a b"), frame("b a"), frame("a n:b"),
		frame("a", row(one)), frame("a", row(value.Int(2))), frame("a", row(null)), frame("a", row(value.String("1"))), frame("b", row(one)), frame("n:a", row(null)),
		frame("a", row(one), row(one)), frame("a", row(one), row(null)), frame("a", row(null), row(one)),
		frame("a", row(value.List(one))), frame("a", row(value.List(one, null))), frame("a", row(entry("k", one))), frame("a", row(entry("l", one))),
		frame("a", row(node(1))), frame("a", row(rel(1))), frame("a", row(node(2))),
		frame("a b", row(one, null)), frame("a b", row(null, one)), frame("b a", row(one, null)),
		frame("a", ints(1, 1)), frame("a", row()), frame("a a", ints(1, 1)),
	}
	for i, a := range l {
		for k, b := range l {
			if clauses.Same(a, b) != (i == k) {
				t.Errorf("%v %v", a, b)
			}
		}
	}
	if !clauses.Same(api.Frame{Vars: []api.Var{}, Rows: [][]api.Value{}}, api.Frame{}) || !clauses.Same(clauses.Start(), api.Frame{Rows: [][]api.Value{nil}}) {
		t.Error("nil and empty are not the same")
	}
	for name, v := range badValues() {
		if f := frame("a", row(v)); clauses.Same(f, f) {
			t.Errorf("%s is the same", name)
		}
		if f := frame("a b", row(one, one), row(one, v)); clauses.Same(f, f) {
			t.Errorf("%s, behind others, is the same", name)
		}
	}
}
