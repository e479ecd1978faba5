// Package value is layer 1: values, which of them may be, their order, when two are equal, how they are told. See shared/doc/01-value.md.
package value

import (
	"slices"
	"strings"

	"lattice/api"
)

// Null is nothing.
func Null() api.Value { return api.Value{} }

// Bool is a truth.
func Bool(b bool) api.Value { return api.Value{Kind: api.ValueBool, Bool: b} }

// Int is a number.
func Int(n int64) api.Value { return api.Value{Kind: api.ValueInt, Int: n} }

// String is a text.
func String(s string) api.Value { return api.Value{Kind: api.ValueText, Text: s} }

// List is a list of copies of l.
func List(l ...api.Value) api.Value {
	return api.Value{Kind: api.ValueList, List: copies(l)}
}

// Map is a map of keys to copies of l, the n-th key to the n-th value; its keys are put in order.
func Map(keys []string, l []api.Value) (api.Value, api.Errno) {
	if len(keys) != len(l) {
		return api.Value{}, api.ErrArg
	}
	v := api.Value{Kind: api.ValueMap}
	for _, at := range byKeys(keys) {
		if n := len(v.Keys); n > 0 && v.Keys[n-1] == keys[at] {
			return api.Value{}, api.ErrArg
		}
		v.Keys = append(v.Keys, keys[at])
		v.List = append(v.List, Copy(l[at]))
	}
	return v, api.OK
}

// byKeys tells the places of keys as the keys rise.
func byKeys(keys []string) []int {
	places := make([]int, len(keys))
	for i := range places {
		places[i] = i
	}
	slices.SortFunc(places, func(a, b int) int { return strings.Compare(keys[a], keys[b]) })
	return places
}

// Copy is the same value in memory of its own, whether it may be or not.
func Copy(v api.Value) api.Value {
	v.Keys = slices.Clone(v.Keys)
	v.List = copies(v.List)
	return v
}

// copies keeps no list apart from an empty one, so that a copy differs in nothing from what it is of.
func copies(l []api.Value) []api.Value {
	if l == nil {
		return nil
	}
	out := make([]api.Value, len(l))
	for i, v := range l {
		out[i] = Copy(v)
	}
	return out
}
