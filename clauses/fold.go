package clauses

import (
	"slices"

	"lattice/api"
	"lattice/logic"
	"lattice/sema"
	"lattice/value"
)

// isAggregate tells whether an expression is count(*), or another aggregate of one expression. Layer 6 calls it ErrAggregate by itself, unless layer 4 refuses it.
func isAggregate(e api.Expr) bool {
	return sema.Aggregate(e) && sema.Used(e) == api.ErrAggregate && (e.Kind == api.ExprCount || len(e.Kids) == 1)
}

// folded is an aggregate of a group of rows on which its Kid has values that may be.
func folded(e api.Expr, values []api.Value) api.Value {
	if e.Kind == api.ExprCount {
		return value.Int(int64(len(values)))
	}
	values = slices.DeleteFunc(slices.Clone(values), none)
	if e.Distinct {
		values = value.Once(values...)
	}
	switch e.Name {
	case "count":
		return value.Int(int64(len(values)))
	case "sum":
		return total(values)
	case "collect":
		return collected(values)
	case "min":
		return first(values, value.Compare)
	}
	return first(values, func(a, b api.Value) int { return value.Compare(b, a) })
}

func total(values []api.Value) api.Value {
	numbers := make([]int64, len(values))
	for i, v := range values {
		if v.Kind != api.ValueInt {
			panic(api.ErrWrong)
		}
		numbers[i] = v.Int
	}
	n, no := logic.Sum(numbers...)
	need(no)
	return value.Int(n)
}

// collected is a list of values in order; it may be too great, though none of them is.
func collected(values []api.Value) api.Value {
	v := api.Value{Kind: api.ValueList, List: value.Sorted(values...)}
	need(value.Check(v))
	return v
}

// first is the value that stands ahead of all others; nothing of none.
func first(values []api.Value, compare func(a, b api.Value) int) api.Value {
	if len(values) == 0 {
		return value.Null()
	}
	return value.Copy(slices.MinFunc(values, compare))
}
