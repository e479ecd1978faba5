package stats_test

import (
	"math/big"
	"math/rand/v2"
	"reflect"
	"slices"
	"strconv"
	"testing"

	"lattice/api"
	"lattice/stats"
)

// P11.2: All, Labelled, Typed, Ended. P11.3: Seek, Fan, From. P11.4: Times, Plus, Share.

func TestReckonDocumented(t *testing.T) {
	s := counted(t, documented())
	is(t, "All()", stats.All(s), 3)
	is(t, "Labelled(A, B)", stats.Labelled(s, "A", "B"), 1)
	is(t, "Labelled()", stats.Labelled(s), 3)
	is(t, "Labelled(C)", stats.Labelled(s, "C"), 0)
	is(t, "Typed(T, T)", stats.Typed(s, "T", "T"), 2)
	is(t, "Typed()", stats.Typed(s), 3)
	is(t, "Seek(A, k)", stats.Seek(s, "A", "k"), 2)
	is(t, "Fan(1, T)", stats.Fan(s, 1, "T"), 1)
	is(t, "Fan(0)", stats.Fan(s, 0), 2)
	is(t, "From(A, 1, T)", stats.From(s, "A", 1, "T"), 1)
	is(t, "Times", stats.Times(1<<40, 1<<40), most)
	is(t, "Plus", stats.Plus(most, 1), most)
	is(t, "Share(7, 2)", stats.Share(7, 2), 4)
	is(t, "Share(7, 0)", stats.Share(7, 0), 7)
	is(t, "Share(-1, 2)", stats.Share(-1, 2), 0)
}

// wrong are counts of which much is wrong: rows that come twice, in no order, with numbers that can't be.
func wrong() api.Stats {
	return api.Stats{
		Nodes: 100, Rels: 70,
		Labels: []api.LabelCount{label("B", 30), label("A", 20), label("B", 5), label("Low", -3), label("Low", 4), label("High", greatest), label("", 9), label("A", 40)},
		Types:  []api.TypeCount{kind("U", 7), kind("T", 50), kind("U", 1000), kind("Low", lowest), kind("Low", 8), kind("High", most+1), kind("Next", most-1), kind("", 3)},
		Ends: []api.EndCount{
			out("T", "A", 45), in("T", "A", 5), out("T", "A", 1), in("T", "A", 2), out("U", "A", 10), in("U", "A", 11), out("T", "B", 3),
			in("Low", "A", -1), in("Low", "A", 6), out("High", "B", greatest), in("High", "B", greatest), out("Else", "A", 500), out("Low", "Gone", 5),
		},
		Keys: []api.KeyCount{key("A", "k", 20, 6), key("A", "k", 1, 1), key("A", "l", 20, 0), key("B", "k", 7, -4), key("B", "l", -7, 2), key("B", "l", 7, 2),
			key("High", "k", greatest, 1), key("High", "l", greatest, greatest), key("High", "m", 5, greatest), key("k", "A", 3, 1), key("", "", 8, 3)},
	}
}

func TestAllAndLabelled(t *testing.T) {
	for n, want := range map[int64]int64{0: 0, 1: 1, -1: 0, lowest: 0, most - 1: most - 1, most: most, most + 1: most, greatest: most} {
		is(t, "All", stats.All(api.Stats{Nodes: n, Rels: 7}), want)
		is(t, "Labelled()", stats.Labelled(api.Stats{Nodes: n, Rels: 7, Labels: []api.LabelCount{label("A", 1)}}), want)
	}
	s := wrong()
	for _, x := range []struct {
		labels []string
		want   int64
	}{
		{nil, 100}, {labels(), 100}, {labels("A"), 20}, {labels("B"), 30}, {labels("A", "B"), 20}, {labels("B", "A", "B"), 20},
		{labels("Low"), 0}, {labels("High"), 100}, {labels("High", "B"), 30}, {labels(""), 9}, {labels("", "A"), 9},
		{labels("a"), 0}, {labels("A", "a"), 0}, {labels("a", "A"), 0}, {labels("A", "Low"), 0}, {labels("\xff"), 0}, {labels("T"), 0},
	} {
		is(t, "Labelled", stats.Labelled(s, x.labels...), x.want)
	}
	s.Nodes = 25 // a label may have more nodes than there are
	is(t, "Labelled(B) of fewer nodes", stats.Labelled(s, "B"), 25)
	s.Nodes = -25
	is(t, "Labelled(B) of no nodes", stats.Labelled(s, "B"), 0)
	s.Nodes = greatest
	is(t, "Labelled(High) of many nodes", stats.Labelled(s, "High"), most)
}

func TestTyped(t *testing.T) {
	for n, want := range map[int64]int64{0: 0, 1: 1, -1: 0, lowest: 0, most: most, most + 1: most, greatest: most} {
		is(t, "Typed()", stats.Typed(api.Stats{Nodes: 7, Rels: n, Types: []api.TypeCount{kind("T", 1)}}), want)
	}
	s := wrong()
	for _, x := range []struct {
		types []string
		want  int64
	}{
		{nil, 70}, {labels(), 70}, {labels("T"), 50}, {labels("U"), 7}, {labels("T", "U"), 57}, {labels("U", "T", "U", "U", "T"), 57},
		{labels("Low"), 0}, {labels("Low", "T"), 50}, {labels("Low", "Low"), 0}, {labels("High"), most}, {labels("High", "T"), most}, {labels("T", "High", "High"), most},
		{labels("Next"), most - 1}, {labels("Next", "U"), most}, {labels(""), 3}, {labels("t"), 0}, {labels("t", "t", "U"), 7}, {labels("A"), 0}, {labels("\xff", ""), 3},
	} {
		is(t, "Typed", stats.Typed(s, x.types...), x.want)
	}
}

func TestEnded(t *testing.T) {
	s := wrong()
	for _, x := range []struct {
		kind, label string
		out         bool
		want        int64
	}{
		{"T", "A", true, 45}, {"T", "A", false, 5}, {"U", "A", true, 10}, {"U", "A", false, 11}, {"T", "B", true, 3}, {"T", "B", false, 0},
		{"Low", "A", false, 0}, {"Low", "A", true, 0}, {"High", "B", true, most}, {"High", "B", false, most}, {"Else", "A", true, 500}, {"Low", "Gone", true, 5},
		{"A", "T", true, 0}, {"", "", false, 0}, {"", "A", true, 0}, {"T", "", true, 0}, {"t", "A", true, 0}, {"\xff", "A", true, 0},
	} {
		is(t, "Ended "+x.kind+" "+x.label, stats.Ended(s, x.kind, x.label, x.out), x.want)
	}
	is(t, "of nothing", stats.Ended(api.Stats{}, "T", "A", true), 0)
}

func TestSeek(t *testing.T) {
	s := wrong()
	for _, x := range []struct {
		label, key string
		want       int64
	}{
		{"A", "k", 4}, {"A", "l", 20}, {"B", "k", 7}, {"B", "l", 0}, {"High", "k", most}, {"High", "l", 1}, {"High", "m", 1}, {"k", "A", 3}, {"", "", 3},
		{"A", "m", 0}, {"C", "k", 0}, {"", "k", 0}, {"A", "", 0}, {"\xff", "k", 0},
	} {
		is(t, "Seek "+x.label+" "+x.key, stats.Seek(s, x.label, x.key), x.want)
	}
	is(t, "of nothing", stats.Seek(api.Stats{}, "A", "k"), 0)
}

// dirs are directions, and which way each goes.
func dirs() map[int]int {
	return map[int]int{1: 1, 2: 1, 1<<63 - 1: 1, 0: 0, -1: -1, -2: -1, -1 << 63: -1}
}

func TestFan(t *testing.T) {
	s := wrong()
	s.Nodes = 20
	for dir, way := range dirs() {
		for _, x := range []struct {
			types     []string
			one, both int64 // in one direction, in both
		}{
			{nil, 4, 7}, {labels("T"), 3, 5}, {labels("T", "T"), 3, 5}, {labels("T", "U"), 3, 6}, {labels("U"), 1, 1}, {labels("Low"), 0, 0}, {labels("Gone"), 0, 0},
			{labels("High"), (most + 19) / 20, (most + 19) / 20}, {labels("Gone", "U", "Gone"), 1, 1},
		} {
			want := x.one
			if way == 0 {
				want = x.both
			}
			is(t, "Fan", stats.Fan(s, dir, x.types...), want)
		}
	}
	// Without nodes a share is the whole; twice as many are cut too.
	for _, nodes := range []int64{1, 0, -1, lowest} {
		is(t, "Fan(1) of few nodes", stats.Fan(api.Stats{Nodes: nodes, Rels: 7}, 1), 7)
		is(t, "Fan(0) of few nodes", stats.Fan(api.Stats{Nodes: nodes, Rels: 7}, 0), 14)
		is(t, "Fan(0) of many relationships", stats.Fan(api.Stats{Nodes: nodes, Rels: greatest}, 0), most)
		is(t, "Fan(0) of less than nothing", stats.Fan(api.Stats{Nodes: nodes, Rels: lowest}, 0), 0)
	}
	is(t, "of two nodes", stats.Fan(api.Stats{Nodes: 2, Rels: greatest}, 0), most/2)
	is(t, "of many nodes", stats.Fan(api.Stats{Nodes: greatest, Rels: 1}, 0), 1)
	is(t, "half of many", stats.Fan(api.Stats{Nodes: 4, Rels: most / 2}, 0), most/4)
	is(t, "of nothing", stats.Fan(api.Stats{}, 0), 0)
}

func TestFrom(t *testing.T) {
	s := wrong()
	for dir, way := range dirs() {
		for _, x := range []struct {
			label         string
			types         []string
			in, out, both int64
		}{
			{"A", labels("T"), 1, 3, 3}, {"A", labels("T", "T"), 1, 3, 3}, {"A", labels("U"), 1, 1, 2}, {"A", labels("T", "U"), 1, 3, 4},
			{"A", labels("U", "T", "U", "Gone", "T"), 1, 3, 4}, {"A", labels("Low"), 0, 0, 0}, {"A", labels("Else"), 0, 25, 25},
			{"A", nil, 1, 3, 4}, // of Types: Else is none of them, U and Low come twice
			{"B", labels("T"), 0, 1, 1}, {"B", labels("High"), (most + 29) / 30, (most + 29) / 30, (most + 29) / 30},
			{"B", nil, (most + 29) / 30, (most + 29) / 30, (most + 29) / 30},
			{"Gone", labels("Low"), 0, 5, 5}, {"Gone", nil, 0, 5, 5}, {"Low", nil, 0, 0, 0}, {"", labels(""), 0, 0, 0}, {"\xff", nil, 0, 0, 0},
		} {
			want := map[int]int64{-1: x.in, 0: x.both, 1: x.out}[way]
			is(t, "From "+x.label+" "+strconv.Itoa(dir), stats.From(s, x.label, dir, x.types...), want)
		}
	}
	// What it is a share in is Labelled: at most all nodes.
	s.Nodes = 9
	is(t, "From of fewer nodes", stats.From(s, "A", 1, "T"), 5)
	s.Nodes = 0
	is(t, "From of no nodes", stats.From(s, "A", 0, "T", "U"), 71)
	is(t, "From of nothing", stats.From(api.Stats{}, "A", 0), 0)
	self := counted(t, of([]api.Node{node(0, labels("A")), node(1, labels("A"))}, rel(0, 0, 0, "T"), rel(1, 0, 0, "U"), rel(2, 0, 0, "V")))
	is(t, "From of a node to itself", stats.From(self, "A", 0), 3)
	is(t, "From of a node to itself, one way", stats.From(self, "A", -1), 2)
}

// edges are numbers at which something happens.
func edges() []int64 {
	l := []int64{lowest, lowest + 1, -most - 1, -most, -2, -1, 0, 1, 2, 3, 4, 5, 7, 10, 1<<31 - 1, 1 << 31, 1<<31 + 1, 1<<32 - 1, 1 << 32, 3 << 30, 3037000499, 3037000500, 1 << 61, 1<<61 - 1, 1<<61 + 1}
	return append(l, most/3, most/3+1, most-2, most-1, most, most+1, most+2, greatest-1, greatest)
}

// wide is a number as it counts, in one that never wraps.
func wide(n int64) *big.Int { return big.NewInt(min(max(n, 0), most)) }

func cut(n *big.Int) int64 {
	if n.Cmp(big.NewInt(most)) > 0 {
		return most
	}
	return n.Int64()
}

// shareOf is the share by the words: the least number that, b times, is a at least.
func shareOf(a, b *big.Int) *big.Int {
	if b.Sign() < 1 {
		b = big.NewInt(1)
	}
	whole, rest := new(big.Int).QuoRem(a, b, new(big.Int))
	if rest.Sign() > 0 {
		whole.Add(whole, big.NewInt(1))
	}
	return whole
}

func TestNumbers(t *testing.T) {
	for _, a := range edges() {
		is(t, "Plus of one", stats.Plus(a), cut(wide(a)))
		for _, b := range edges() {
			on := " " + strconv.FormatInt(a, 10) + " " + strconv.FormatInt(b, 10)
			is(t, "Times"+on, stats.Times(a, b), cut(new(big.Int).Mul(wide(a), wide(b))))
			is(t, "Plus"+on, stats.Plus(a, b), cut(new(big.Int).Add(wide(a), wide(b))))
			is(t, "Share"+on, stats.Share(a, b), cut(shareOf(wide(a), wide(b))))
		}
	}
}

func TestNumbersByChance(t *testing.T) {
	r := rand.New(rand.NewPCG(11, 2))
	number := func() int64 { return int64(r.Uint64()) >> r.IntN(64) }
	for range 100000 {
		a, b := number(), number()
		on := " " + strconv.FormatInt(a, 10) + " " + strconv.FormatInt(b, 10)
		is(t, "Times"+on, stats.Times(a, b), cut(new(big.Int).Mul(wide(a), wide(b))))
		is(t, "Share"+on, stats.Share(a, b), cut(shareOf(wide(a), wide(b))))
		l, sum := []int64{}, new(big.Int)
		for range r.IntN(6) {
			l = append(l, number())
			sum.Add(sum, wide(l[len(l)-1]))
		}
		is(t, "Plus", stats.Plus(l...), cut(sum))
	}
}

func TestPlusOfMany(t *testing.T) {
	is(t, "of nothing", stats.Plus(), 0)
	is(t, "of no list", stats.Plus([]int64(nil)...), 0)
	is(t, "with numbers below 0", stats.Plus(5, -3, lowest, 2), 7)
	is(t, "up to the cut", stats.Plus(most-3, 1, 2), most)
	is(t, "below the cut", stats.Plus(1, most-3, 1), most-1)
	is(t, "beyond it, and below 0 then", stats.Plus(most, most, most, -most, lowest), most)
	is(t, "beyond 64 bits", stats.Plus(slices.Repeat([]int64{greatest}, 1000)...), most)
	is(t, "many", stats.Plus(slices.Repeat([]int64{3}, 100000)...), 300000)
}

// another reckons by going through rows from the front, in numbers that never wrap.
type another struct{ api.Stats }

func (s another) labelled(label string) *big.Int {
	for _, r := range s.Labels {
		if r.Label == label {
			return least(wide(r.Nodes), wide(s.Nodes))
		}
	}
	return new(big.Int)
}

func least(a, b *big.Int) *big.Int {
	if a.Cmp(b) < 0 {
		return a
	}
	return b
}

func (s another) typed(types []string) *big.Int {
	if len(types) == 0 {
		return wide(s.Rels)
	}
	sum := new(big.Int)
	for i, kind := range types {
		at := slices.IndexFunc(s.Types, func(r api.TypeCount) bool { return r.Type == kind })
		if at >= 0 && !slices.Contains(types[:i], kind) {
			sum.Add(sum, wide(s.Types[at].Rels))
		}
	}
	return big.NewInt(cut(sum))
}

func (s another) ended(kind, label string, out bool) *big.Int {
	for _, r := range s.Ends {
		if r.Type == kind && r.Label == label && r.Out == out {
			return wide(r.Rels)
		}
	}
	return new(big.Int)
}

func (s another) seek(label, key string) int64 {
	for _, r := range s.Keys {
		if r.Label == label && r.Key == key {
			return cut(shareOf(wide(r.Nodes), wide(r.Values)))
		}
	}
	return 0
}

func (s another) fan(dir int, types []string) int64 {
	n := s.typed(types)
	if dir == 0 {
		n = big.NewInt(cut(n.Add(n, n)))
	}
	return cut(shareOf(n, wide(s.Nodes)))
}

func (s another) from(label string, dir int, types []string) int64 {
	if len(types) == 0 {
		for _, r := range s.Types {
			types = append(types, r.Type)
		}
	}
	sum := new(big.Int)
	for i, kind := range types {
		if slices.Contains(types[:i], kind) {
			continue
		}
		if dir >= 0 {
			sum.Add(sum, s.ended(kind, label, true))
		}
		if dir <= 0 {
			sum.Add(sum, s.ended(kind, label, false))
		}
	}
	return cut(shareOf(big.NewInt(cut(sum)), s.labelled(label)))
}

// chanceCounts are counts that come of chance: few names, so that rows come several times, and any numbers.
func chanceCounts(r *rand.Rand) api.Stats {
	number := func() int64 {
		return pick(r, int64(r.IntN(50)), int64(r.IntN(50)), -int64(r.IntN(5)), pick(r, edges()...))
	}
	name := func() string { return pick(r, "", "A", "B", "C") }
	s := api.Stats{Nodes: number(), Rels: number()}
	for range r.IntN(6) {
		s.Labels = append(s.Labels, label(name(), number()))
		s.Types = append(s.Types, kind(name(), number()))
	}
	for range r.IntN(24) {
		s.Ends = append(s.Ends, pick(r, in, out)(name(), name(), number()))
		s.Keys = append(s.Keys, key(name(), name(), number(), number()))
	}
	return s
}

func TestReckonByChance(t *testing.T) {
	r := rand.New(rand.NewPCG(11, 3))
	all := labels("", "A", "B", "C", "D")
	for range 4000 {
		s := chanceCounts(r)
		held := tidy(s)
		a := another{s}
		types := some(r, append(slices.Clone(all), all...)...)
		r.Shuffle(len(types), func(i, k int) { types[i], types[k] = types[k], types[i] })
		types = types[:r.IntN(len(types)+1)]
		least := wide(s.Nodes).Int64()
		for _, l := range types {
			least = min(least, a.labelled(l).Int64())
		}
		is(t, "All", stats.All(s), wide(s.Nodes).Int64())
		is(t, "Labelled", stats.Labelled(s, types...), least)
		is(t, "Typed", stats.Typed(s, types...), a.typed(types).Int64())
		dir := r.IntN(7) - 3
		is(t, "Fan", stats.Fan(s, dir, types...), a.fan(dir, types))
		for _, l := range all {
			is(t, "From", stats.From(s, l, dir, types...), a.from(l, dir, types))
			for _, k := range all {
				is(t, "Ended", stats.Ended(s, l, k, dir > 0), a.ended(l, k, dir > 0).Int64())
				is(t, "Seek", stats.Seek(s, l, k), a.seek(l, k))
			}
		}
		if !reflect.DeepEqual(tidy(s), held) {
			t.Fatal("what was handed in is changed")
		}
		if t.Failed() {
			t.Fatal(s, types, dir)
		}
	}
}

// TestReckonManyRows: many names of many rows are found in one go.
func TestReckonManyRows(t *testing.T) {
	var s api.Stats
	var names []string
	for i := range int64(100000) {
		n := "n" + strconv.FormatInt(i, 10)
		names = append(names, n)
		s.Labels, s.Types = append(s.Labels, label(n, 9)), append(s.Types, kind(n, 2))
		s.Ends = append(s.Ends, in(n, "A", 3), out(n, "A", 4))
	}
	s.Nodes = 100
	slices.Reverse(names)
	is(t, "Labelled", stats.Labelled(s, names...), 9)
	is(t, "Typed", stats.Typed(s, names...), 200000)
	is(t, "From named ones", stats.From(s, "A", 1, names...), 400000)
	is(t, "From all", stats.From(s, "A", 0), 700000)
}

// TestReckonLeaves: what is handed in stays as it was, with the room behind it.
func TestReckonLeaves(t *testing.T) {
	s := wrong()
	s.Labels, s.Types = spare(label("spare", 1), s.Labels...), spare(kind("spare", 1), s.Types...)
	s.Ends, s.Keys = spare(in("spare", "A", 1), s.Ends...), spare(key("spare", "k", 1, 1), s.Keys...)
	types := spare("spare", "T", "T", "Gone")
	numbers := spare(int64(9), greatest, -1)
	stats.Labelled(s, types...)
	stats.Typed(s, types...)
	stats.Ended(s, "Gone", "A", true)
	stats.Seek(s, "Gone", "k")
	stats.Fan(s, 0, types...)
	stats.From(s, "A", 0, types...)
	stats.From(s, "A", 0)
	stats.Plus(numbers...)
	stats.Text(s)
	stats.Same(s, s)
	if !alike(s, wrong()) || s.Labels[:len(s.Labels)+1][len(s.Labels)] != label("spare", 1) || s.Types[:len(s.Types)+1][len(s.Types)] != kind("spare", 1) ||
		s.Ends[:len(s.Ends)+1][len(s.Ends)] != in("spare", "A", 1) || s.Keys[:len(s.Keys)+1][len(s.Keys)] != key("spare", "k", 1, 1) ||
		!slices.Equal(types[:4], labels("T", "T", "Gone", "spare")) || !slices.Equal(numbers[:3], []int64{greatest, -1, 9}) {
		t.Error("what was handed in is changed")
	}
}
