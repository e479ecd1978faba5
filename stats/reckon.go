package stats

import (
	"math/bits"

	"lattice/api"
)

// most is where all numbers are cut.
const most = 1 << 62

// All tells how many nodes there are.
func All(s api.Stats) int64 { return cut(s.Nodes) }

// Labelled tells how many nodes have all labels, at most: the least that is known.
func Labelled(s api.Stats, labels ...string) int64 {
	least := All(s)
	for _, r := range firsts(s.Labels, func(r api.LabelCount) string { return r.Label }, labels...) {
		least = min(least, cut(r.Nodes))
	}
	return least
}

// Typed tells how many relationships have one of the types; of none how many there are.
func Typed(s api.Stats, types ...string) int64 {
	if len(types) == 0 {
		return cut(s.Rels)
	}
	return Plus(each(firsts(s.Types, typeOf, types...), func(r api.TypeCount) int64 { return r.Rels })...)
}

// Ended tells how many relationships of a type begin (out) or end at a node with a label.
func Ended(s api.Stats, kind, label string, out bool) int64 {
	return endedAll(s, label, out, kind)
}

// Seek tells how many nodes have a label and one value of a key, in the mean.
func Seek(s api.Stats, label, key string) int64 {
	at := func(r api.KeyCount) api.KeyCount { return api.KeyCount{Label: r.Label, Key: r.Key} }
	r := firsts(s.Keys, at, api.KeyCount{Label: label, Key: key})[0]
	return Share(r.Nodes, r.Values)
}

// Fan tells how many relationships of the types a node has in a direction, in the mean.
func Fan(s api.Stats, dir int, types ...string) int64 {
	n := Typed(s, types...)
	if dir == 0 {
		n = Plus(n, n)
	}
	return Share(n, All(s))
}

// From tells how many relationships of the types a node with a label has in a direction, in the mean; of no types of all that Types tells.
func From(s api.Stats, label string, dir int, types ...string) int64 {
	if len(types) == 0 {
		types = each(s.Types, typeOf)
	}
	n := int64(0)
	if dir >= 0 {
		n = Plus(n, endedAll(s, label, true, types...))
	}
	if dir <= 0 {
		n = Plus(n, endedAll(s, label, false, types...))
	}
	return Share(n, Labelled(s, label))
}

// Times tells a times b.
func Times(a, b int64) int64 {
	high, low := bits.Mul64(uint64(cut(a)), uint64(cut(b)))
	if high > 0 || low > most {
		return most
	}
	return int64(low)
}

// Plus tells all numbers together.
func Plus(l ...int64) int64 {
	total := int64(0)
	for _, n := range l {
		total += min(cut(n), most-total)
	}
	return total
}

// Share tells a over b, rounded up; b below 1 counts as 1.
func Share(a, b int64) int64 {
	a, b = cut(a), max(cut(b), 1)
	// Both are at most 2^62, so that a and b less 1 together are a number of 64 bits still.
	return (a + (b - 1)) / b
}

func cut(n int64) int64 {
	switch {
	case n > most:
		n = most
		fallthrough
	case n > 0:
		return n
	}
	return 0
}

// firsts tells the first row of each key, each key once, in no order that counts; of a key that has no row one that is zero.
func firsts[R any, K comparable](rows []R, key func(R) K, keys ...K) []R {
	left := map[K]struct{}{}
	for _, k := range keys {
		left[k] = struct{}{}
	}
	var out []R
	for _, r := range rows {
		if len(left) == 0 {
			break
		}
		if _, wanted := left[key(r)]; wanted {
			delete(left, key(r))
			out = append(out, r)
		}
	}
	return append(out, make([]R, len(left))...)
}

func each[R, T any](rows []R, of func(R) T) []T {
	var out []T
	for _, r := range rows {
		out = append(out, of(r))
	}
	return out
}

func typeOf(r api.TypeCount) string { return r.Type }

// endedAll tells Ended of all types together, each once.
func endedAll(s api.Stats, label string, out bool, types ...string) int64 {
	at := func(r api.EndCount) api.EndCount {
		r.Rels = 0
		return r
	}
	var keys []api.EndCount
	for _, kind := range types {
		keys = append(keys, api.EndCount{Type: kind, Label: label, Out: out})
	}
	return Plus(each(firsts(s.Ends, at, keys...), func(r api.EndCount) int64 { return r.Rels })...)
}
