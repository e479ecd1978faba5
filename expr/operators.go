package expr

import (
	"slices"
	"strings"

	"lattice/api"
	"lattice/logic"
	"lattice/value"
)

// operated is what an operator makes of two values.
func operated(operator string, a, b api.Value) api.Value {
	switch operator {
	case "AND":
		return logic.Value(logic.And(truth(a), truth(b)))
	case "OR":
		return logic.Value(logic.Or(truth(a), truth(b)))
	case "XOR":
		return logic.Value(logic.Xor(truth(a), truth(b)))
	case "=", "<>", "<", "<=", ">", ">=":
		return logic.Value(compared(operator, a, b))
	case "IN":
		return contained(a, b)
	case "STARTS", "ENDS", "CONTAINS":
		return found(operator, a, b)
	}
	return reckoned(operator, a, b)
}

// compared turns those that look back about, so that they are as those that look ahead.
func compared(operator string, a, b api.Value) api.Truth {
	switch operator {
	case ">":
		a, b = b, a
		fallthrough
	case "<":
		return value.Less(a, b)
	case ">=":
		a, b = b, a
		fallthrough
	case "<=":
		less := value.Less(a, b)
		if less == api.TruthNull {
			// Equal may be something of values that have no less.
			return less
		}
		return logic.Or(less, value.Equal(a, b))
	case "<>":
		return logic.Not(value.Equal(a, b))
	}
	return value.Equal(a, b)
}

func contained(v, in api.Value) api.Value {
	switch in.Kind {
	case api.ValueNull:
		return in
	case api.ValueList:
		return logic.Value(logic.In(v, in.List...))
	}
	panic(api.ErrType)
}

// found tells where the second text is in the first one, as the operator asks.
func found(operator string, a, b api.Value) api.Value {
	if a.Kind != api.ValueText || b.Kind != api.ValueText {
		return value.Null()
	}
	is := strings.Contains
	switch operator {
	case "STARTS":
		is = strings.HasPrefix
	case "ENDS":
		is = strings.HasSuffix
	}
	return value.Bool(is(a.Text, b.Text))
}

// reckoned is of two numbers; a + is also of two texts, of two lists.
func reckoned(operator string, a, b api.Value) api.Value {
	switch {
	case none(a) || none(b):
		return value.Null()
	case a.Kind == api.ValueInt && b.Kind == api.ValueInt:
		return number(arithmetic(operator)(a.Int, b.Int))
	case operator != "+" || a.Kind != b.Kind:
		panic(api.ErrType)
	}
	return together(a, b)
}

// together puts two texts, two lists together.
func together(a, b api.Value) api.Value {
	switch a.Kind {
	case api.ValueText:
		return bounded(value.String(a.Text + b.Text))
	case api.ValueList:
		return bounded(api.Value{Kind: api.ValueList, List: slices.Concat(a.List, b.List)})
	}
	panic(api.ErrType)
}

func arithmetic(operator string) func(a, b int64) (int64, api.Errno) {
	switch operator {
	case "+":
		return logic.Add
	case "-":
		return logic.Sub
	case "*":
		return logic.Mul
	case "/":
		return logic.Div
	}
	return logic.Mod
}

func negative(v api.Value) api.Value {
	switch v.Kind {
	case api.ValueNull:
		return v
	case api.ValueInt:
		return number(logic.Neg(v.Int))
	}
	panic(api.ErrType)
}

// number gives up with the error of layer 2, if there is one.
func number(n int64, no api.Errno) api.Value {
	if no != api.OK {
		panic(no)
	}
	return value.Int(n)
}
