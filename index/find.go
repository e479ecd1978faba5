package index

import (
	"slices"

	"lattice/api"
	"lattice/value"
)

// Seek tells the nodes whose value is equal to v.
func (x *Index) Seek(v api.Value) []int64 {
	_, same, _ := x.split(v)
	return rising(same)
}

// Below tells the nodes whose value is less than v, or, with or, equal to it.
func (x *Index) Below(v api.Value, or bool) []int64 {
	less, same, _ := x.split(v)
	if !or {
		same = nil
	}
	return rising(less, same)
}

// Above tells the nodes than whose value v is less, or, with or, to which it is equal.
func (x *Index) Above(v api.Value, or bool) []int64 {
	_, same, more := x.split(v)
	if !or {
		same = nil
	}
	return rising(same, more)
}

// split tells, as they lie in the index, the nodes whose values are less than v, equal to it, and greater.
func (x *Index) split(v api.Value) (less, same, more []int64) {
	if !x.There() || value.Check(v) != api.OK {
		return nil, nil, nil
	}
	// In no node's value is nothing, so those that are the same as v are just those that are equal to it.
	from := place(x.order, x.worth, func(w api.Value) bool { return value.Compare(w, v) < 0 })
	to := place(x.order, x.worth, func(w api.Value) bool { return value.Compare(w, v) <= 0 })
	less, same, more = x.order[:from], x.order[from:to], x.order[to:]
	// What stands ahead is not less, and what stands behind not greater, if it is of another kind, or of a kind of which no value is less than another.
	less = less[place(less, x.worth, func(w api.Value) bool { return value.Less(w, v) != api.TruthTrue }):]
	more = more[:place(more, x.worth, func(w api.Value) bool { return value.Less(v, w) == api.TruthTrue })]
	return less, same, more
}

// place finds, by halving, where the first node stands that is not ahead. Those that are ahead stand in front; whether one is hangs on what told tells of it.
func place[T any](order []int64, told func(int64) T, ahead func(T) bool) int {
	from, left := 0, len(order)
	for left > 0 {
		half := left >> 1
		if ahead(told(order[from+half])) {
			from += half + 1
			left -= half + 1
		} else {
			left >>= 1
		}
	}
	return from
}

// rising puts lists together in one of its own, by numbers.
func rising(lists ...[]int64) []int64 {
	out := slices.Concat(lists...)
	slices.Sort(out)
	return out
}
