package stats_test

import (
	"strconv"
	"strings"
	"testing"

	"lattice/api"
	"lattice/stats"
)

// P11.5: Text.

func lines(l ...string) string { return strings.Join(l, "\n") + "\n" }

func TestTextDocumented(t *testing.T) {
	is(t, "Text", stats.Text(counted(t, documented())), lines("nodes 3", "rels 3", "label A 2", "label B 1", "type T 2", "type U 1",
		"end T A in 1", "end T A out 2", "end T B out 2", "end U A in 1", "end U A out 1", "key A k 2 1", "key B k 1 1"))
}

func TestTextOfEachRow(t *testing.T) {
	head := lines("nodes 0", "rels 0")
	is(t, "of nothing", stats.Text(api.Stats{}), head)
	is(t, "of numbers", stats.Text(api.Stats{Nodes: 12, Rels: 345}), lines("nodes 12", "rels 345"))
	is(t, "of a label", stats.Text(api.Stats{Labels: []api.LabelCount{label("A", 7)}}), head+"label A 7\n")
	is(t, "of a type", stats.Text(api.Stats{Types: []api.TypeCount{kind("T", 7)}}), head+"type T 7\n")
	is(t, "of ends", stats.Text(api.Stats{Ends: []api.EndCount{out("T", "A", 7), in("U", "B", 8)}}), head+"end T A out 7\nend U B in 8\n")
	is(t, "of a key", stats.Text(api.Stats{Keys: []api.KeyCount{key("A", "k", 7, 8)}}), head+"key A k 7 8\n")
}

// TestTextAsItStands: rows in the order in which they stand, however often, and numbers that are cut nowhere.
func TestTextAsItStands(t *testing.T) {
	s := api.Stats{
		Nodes: -1, Rels: greatest,
		Labels: []api.LabelCount{label("B", lowest), label("A", 0), label("B", most+1)},
		Types:  []api.TypeCount{kind("U", -7), kind("T", 1), kind("T", 1)},
		Ends:   []api.EndCount{out("T", "A", -1), in("T", "A", greatest)},
		Keys:   []api.KeyCount{key("B", "k", -1, lowest), key("A", "l", most, greatest), key("A", "k", 0, 5)},
	}
	low, high := strconv.FormatInt(lowest, 10), strconv.FormatInt(greatest, 10)
	is(t, "Text", stats.Text(s), lines("nodes -1", "rels "+high, "label B "+low, "label A 0", "label B 4611686018427387905", "type U -7", "type T 1", "type T 1",
		"end T A out -1", "end T A in "+high, "key B k -1 "+low, "key A l 4611686018427387904 "+high, "key A k 0 5"))
}

func TestTextOfNames(t *testing.T) {
	for name, want := range map[string]string{
		"A": "A", "_a1": "_a1", "match": "match", "a b": "`a b`", "x`y": "`x``y`", "1a": "`1a`", "é": "`é`", "a\nb": "`a\nb`", "": "``", "\xff": "", "a\xc3": "",
	} {
		s := api.Stats{Labels: []api.LabelCount{label(name, 1)}, Types: []api.TypeCount{kind(name, 2)},
			Ends: []api.EndCount{in(name, "A", 3), out("T", name, 4)}, Keys: []api.KeyCount{key(name, "k", 5, 6), key("A", name, 7, 8)}}
		is(t, "Text", stats.Text(s), lines("nodes 0", "rels 0", "label "+want+" 1", "type "+want+" 2",
			"end "+want+" A in 3", "end T "+want+" out 4", "key "+want+" k 5 6", "key A "+want+" 7 8"))
	}
}
