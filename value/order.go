package value

import (
	"cmp"
	"slices"
	"strings"

	"lattice/api"
)

// Compare tells -1, 0 or 1: a stands ahead of b, they are the same, b stands ahead.
func Compare(a, b api.Value) int {
	if refused(a, b) {
		return 0
	}
	return order(a, b)
}

// CompareRows tells of rows what Compare tells of lists; rows themselves have no bounds.
func CompareRows(a, b []api.Value) int {
	if refused(a...) || refused(b...) {
		return 0
	}
	return against(a, b, order)
}

// Same tells whether two values that may be are the same.
func Same(a, b api.Value) bool {
	return !refused(a, b) && order(a, b) == 0
}

// Equal tells whether two values are equal, as a truth.
func Equal(a, b api.Value) api.Truth {
	if refused(a, b) {
		return api.TruthNull
	}
	return equal(a, b)
}

// Less tells whether a is less than b, as a truth.
func Less(a, b api.Value) api.Truth {
	if a.Kind != b.Kind || !plain(a.Kind) || refused(a, b) {
		return api.TruthNull
	}
	return truth(order(a, b) < 0)
}

// Sorted tells copies of the values in order.
func Sorted(l ...api.Value) []api.Value {
	if refused(l...) {
		return nil
	}
	out := copies(l)
	slices.SortFunc(out, order)
	return out
}

// Once tells copies of the values, each where it comes first.
func Once(l ...api.Value) []api.Value {
	// Two values have one text just if they are the same: the texts stand for them.
	seen := map[string]struct{}{}
	var out []api.Value
	for _, v := range l {
		t, e := Text(v)
		if e != api.OK {
			return nil
		}
		if _, there := seen[t]; !there {
			seen[t] = struct{}{}
			out = append(out, Copy(v))
		}
	}
	return out
}

func refused(l ...api.Value) bool {
	for _, v := range l {
		if Check(v) != api.OK {
			return true
		}
	}
	return false
}

// order is Compare of values that Check has let through.
func order(a, b api.Value) int {
	if c := cmp.Compare(rank(a.Kind), rank(b.Kind)); c != 0 {
		return c
	}
	switch a.Kind {
	case api.ValueMap:
		if c := against(a.Keys, b.Keys, strings.Compare); c != 0 {
			return c
		}
		fallthrough
	case api.ValueList:
		return against(a.List, b.List, order)
	case api.ValueText:
		return strings.Compare(a.Text, b.Text)
	case api.ValueBool:
		return cmp.Compare(truth(a.Bool), truth(b.Bool))
	}
	return cmp.Compare(a.Int, b.Int)
}

// rank counts the kinds that stand ahead: each leads on to the one next ahead of it.
func rank(k api.ValueKind) int {
	ahead := 0
	switch k {
	case api.ValueNull:
		ahead++
		fallthrough
	case api.ValueInt:
		ahead++
		fallthrough
	case api.ValueBool:
		ahead++
		fallthrough
	case api.ValueText:
		ahead++
		fallthrough
	case api.ValueList:
		ahead++
		fallthrough
	case api.ValueRel:
		ahead++
		fallthrough
	case api.ValueNode:
		ahead++
	}
	return ahead
}

// against holds two lists against each other: by the first unlike things, one that stands at the other's begin first.
func against[T any](a, b []T, compare func(T, T) int) int {
	for i := range min(len(a), len(b)) {
		if c := compare(a[i], b[i]); c != 0 {
			return c
		}
	}
	return cmp.Compare(len(a), len(b))
}

// equal is Equal of values that Check has let through.
func equal(a, b api.Value) api.Truth {
	if a.Kind == api.ValueNull || b.Kind == api.ValueNull {
		return api.TruthNull
	}
	if a.Kind != b.Kind {
		return api.TruthFalse
	}
	if a.Kind != api.ValueList && a.Kind != api.ValueMap {
		return truth(order(a, b) == 0)
	}
	if len(a.List) != len(b.List) || against(a.Keys, b.Keys, strings.Compare) != 0 {
		return api.TruthFalse
	}
	// False is the least truth and null is less than true, so the least one of all places is the answer.
	least := api.TruthTrue
	for i := range a.List {
		least = min(least, equal(a.List[i], b.List[i]))
	}
	return least
}

func truth(b bool) api.Truth {
	if b {
		return api.TruthTrue
	}
	return api.TruthFalse
}
