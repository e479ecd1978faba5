package clauses

import (
	"slices"
	"strings"

	"lattice/api"
	"lattice/value"
)

// placesOf tells where variables stand in a row.
func placesOf(vars []api.Var) map[string]int {
	at := make(map[string]int, len(vars))
	for i, v := range vars {
		at[v.Name] = i
	}
	return at
}

// rowMayBe tells whether a row has a value for each variable, and each may be, and be that variable's.
func rowMayBe(vars []api.Var, row []api.Value) bool {
	if len(row) != len(vars) {
		return false
	}
	for i, v := range row {
		if wrongValue(v) || !ofKind(v, vars[i].Kind) {
			return false
		}
	}
	return true
}

func ofKind(v api.Value, kind api.VarKind) bool {
	switch kind {
	case api.VarNode:
		return v.Kind == api.ValueNode || none(v)
	case api.VarRel:
		return v.Kind == api.ValueRel || none(v)
	}
	return true
}

func none(v api.Value) bool { return v.Kind == api.ValueNull }

func sameRow(a, b []api.Value) bool { return slices.EqualFunc(a, b, value.Same) }

func copied(row []api.Value) []api.Value {
	out := make([]api.Value, len(row))
	for i, v := range row {
		out[i] = value.Copy(v)
	}
	return out
}

// grown puts rows to others; it gives up where there are too many.
func grown(rows [][]api.Value, more ...[]api.Value) [][]api.Value {
	if len(rows)+len(more) > api.MaxRows {
		panic(api.ErrWrong)
	}
	return append(rows, more...)
}

// key is a text that rows have in common just if they are the same: what a list of their values is told by. The list itself might be too great to be told.
func key(row []api.Value) string {
	texts := make([]string, len(row))
	for i, v := range row {
		texts[i], _ = value.Text(v)
	}
	return strings.Join(texts, ", ")
}

// once leaves of rows that are the same the first one.
func once(rows [][]api.Value) [][]api.Value {
	seen := map[string]struct{}{}
	return slices.DeleteFunc(rows, func(row []api.Value) bool {
		k := key(row)
		_, there := seen[k]
		seen[k] = struct{}{}
		return there
	})
}

// line is a row, and what it is put in order by.
type line struct{ row, keys []api.Value }

// order tells -1, 0 or 1: a stands ahead of b, neither does, b does.
type order func(a, b line) int

func byRow(a, b line) int { return slices.CompareFunc(a.row, b.row, value.Compare) }

func byKey(n int) order {
	return func(a, b line) int { return value.Compare(a.keys[n], b.keys[n]) }
}

func turned(by order) order {
	return func(a, b line) int { return by(b, a) }
}

// inTurn asks each order where those ahead of it tell nothing.
func inTurn(l ...order) order {
	return func(a, b line) int {
		for _, by := range l {
			if c := by(a, b); c != 0 {
				return c
			}
		}
		return 0
	}
}

// sorted puts rows in order where they lie.
func sorted(rows [][]api.Value) {
	sortedBy(rows, byRow, func([]api.Value) []api.Value { return nil })
}

// sortedBy puts rows where they lie in another order, for which they get keys.
func sortedBy(rows [][]api.Value, by order, keys func(row []api.Value) []api.Value) {
	lines := make([]line, len(rows))
	for i, row := range rows {
		lines[i] = line{row, keys(row)}
	}
	slices.SortFunc(lines, by)
	for i, l := range lines {
		rows[i] = l.row
	}
}
