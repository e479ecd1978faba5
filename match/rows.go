package match

import (
	"slices"
	"sort"

	"lattice/api"
	"lattice/expr"
	"lattice/sema"
	"lattice/value"
)

// Less tells whether the one row is ahead of the other one.
func Less(a, b []api.Value) bool {
	for i := range min(len(a), len(b)) {
		if c := value.Compare(a[i], b[i]); c != 0 {
			return c < 0
		}
	}
	return len(a) < len(b)
}

// Order tells copies of the rows, put in order.
func Order(rows [][]api.Value) [][]api.Value {
	var out [][]api.Value
	for _, row := range rows {
		out = append(out, copies(row))
	}
	sorted(out)
	return out
}

// list is rows that are put in order where they lie.
type list [][]api.Value

func (l list) ahead(i, j int) bool { return Less(l[i], l[j]) }

func sorted(rows [][]api.Value) { sort.SliceStable(rows, list(rows).ahead) }

func copies(row []api.Value) []api.Value {
	out := make([]api.Value, len(row))
	for i, v := range row {
		out[i] = value.Copy(v)
	}
	return out
}

// sieve keeps, of what ways tell, the rows for which the Where is true, and the first one in order for which it goes wrong.
// Of rows it keeps what stands behind the columns: there alone they differ.
type sieve struct {
	*search
	clause api.Clause
	sure   bool // the Where can't go wrong
	rows   [][]api.Value
	first  []api.Value
	wrong  api.Errno
}

// sure tells whether a clause has no Where that can go wrong, with the variables behind it.
func sure(c api.Clause, vars []api.Var) bool {
	return !c.HasWhere || sema.Leading(c.Where, vars...) == len(sema.Parts(c.Where))
}

// ask asks a way's row. Behind MaxRows rows it only matters what goes wrong, behind a row that does only those ahead of it.
func (k *sieve) ask() {
	row := k.Row[k.old:]
	if k.wrong != api.OK && !Less(row, k.first) {
		return
	}
	is, no := true, api.OK
	if k.clause.HasWhere {
		is, no = expr.True(k.graph, k.Place, k.clause.Where)
	}
	switch {
	case no != api.OK:
		k.first, k.wrong = slices.Clone(row), no
	case is && len(k.rows) <= api.MaxRows:
		k.rows = append(k.rows, slices.Clone(row))
	}
	if k.sure && len(k.rows) > api.MaxRows {
		panic(api.ErrRows)
	}
}

// told are the rows that are found, in order.
func (k *sieve) told() [][]api.Value {
	switch {
	case k.wrong != api.OK:
		panic(k.wrong)
	case len(k.rows) > api.MaxRows:
		panic(api.ErrRows)
	case len(k.rows) == 0 && k.clause.Optional:
		k.rows = append(k.rows, make([]api.Value, len(k.Row)-k.old))
	}
	sorted(k.rows)
	for i, row := range k.rows {
		k.rows[i] = append(copies(k.Row[:k.old]), row...)
	}
	return k.rows
}
