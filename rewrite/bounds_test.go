package rewrite_test

import (
	"slices"
	"strconv"
	"strings"
	"testing"

	"lattice/api"
	"lattice/plan"
	"lattice/rewrite"
)

// Plans of many steps: each call ends soon.

// long is a path of so many relationships, and a condition on each of its first parts.
func long(t *testing.T, rels, conds int) (api.Clause, []api.Step) {
	t.Helper()
	text := "(n0:A)"
	for i := range rels {
		text += "-->(n" + strconv.Itoa(i+1) + ":A)"
	}
	for i := range conds {
		text += map[bool]string{true: " WHERE n", false: " AND n"}[i == 0] + strconv.Itoa(i) + ".k = 1"
	}
	c := clause(t, text)
	l, no := plan.Plain(c)
	if no != api.OK || len(l) != 1+rels+conds {
		t.Fatal(len(l), no)
	}
	return c, l
}

func TestLongPaths(t *testing.T) {
	const most, conds = api.MaxItems, 60
	c, l := long(t, most, conds)
	early, no := rewrite.Early(c, nil, l...)
	if no != api.OK || line(early[:5]) != "all 0 0; where 0; rel 0 0; where 1; rel 0 1" || line(early[2*conds:2*conds+2]) != "rel 0 59; rel 0 60" || plan.Check(c, nil, early...) != api.OK {
		t.Error(no, line(early[:5]))
	}
	if sharp, no := rewrite.Sharp(c, nil, l...); no != api.OK || line(sharp[:2]) != "label 0 0 A; rel 0 0" || !slices.Equal(sharp[1:], l[1:]) {
		t.Error(no)
	}
	end := api.Rewrite{Kind: api.RewriteSplit, At: most, Step: api.Step{Part: most}}
	split, no := rewrite.Apply(c, nil, end, l...)
	if no != api.OK || line(split[most:most+2]) != "all 0 1000; rel 0 999" {
		t.Error(no)
	}
	if got := toldUndo(rewrite.Undo(c, nil, end, l...)); got != "fuse 1000" {
		t.Error(got)
	}
	// Each part's own step, which is put in at the begin, is sharpened.
	for i := range most {
		split = slices.Insert(split, i+1, api.Step{Part: i + 1})
	}
	split = slices.Delete(split, 2*most, 2*most+1)
	sharp, no := rewrite.Sharp(c, nil, split...)
	if no != api.OK || slices.ContainsFunc(sharp, func(s api.Step) bool { return s.Kind == api.StepAll }) || line(sharp[most:most+2]) != "label 0 1000 A; rel 0 0" {
		t.Error(no)
	}
}

// A plan to which a great many rewrites apply.
func TestManyRewrites(t *testing.T) {
	const rels = 200
	c, l := long(t, rels, 2)
	all, no := rewrite.All(c, nil, l...)
	// Give: one; Swap: the last StepRel and a condition, both conditions; Split: two Steps for each part that a StepRel gives, at each place up to it.
	if want := 1 + 2 + rels*(rels+3); no != api.OK || len(all) != want || !slices.IsSortedFunc(all, byFields) {
		t.Fatal(len(all), want, no)
	}
	for _, n := range []int{0, 1, 2, 3, len(all) / 2, len(all) - 2, len(all) - 1} {
		want, no := rewrite.Apply(c, nil, all[n], l...)
		if got := told(rewrite.Many(c, nil, []int{n - len(all)}, l...)); no != api.OK || got != line(want) {
			t.Error(n, no)
		}
	}
}

// Give and Split of a part with many labels and keys: each label with each key.
func TestManyChoices(t *testing.T) {
	var labels, keys strings.Builder
	for i := range 300 {
		labels.WriteString(":L" + strconv.Itoa(i%100))
		keys.WriteString(", k" + strconv.Itoa(299-i) + ": 1")
	}
	c := clause(t, "("+labels.String()+" {"+keys.String()[2:]+"})-->()")
	const each = 1 + 100 + 100*300
	l := steps(t, "label 0 0 L7; rel 0 0")
	all, no := rewrite.All(c, nil, l...)
	if no != api.OK || len(all) != each-1+2 || toldAll(all[:2], no) != "give 0 all 0 0; give 0 label 0 0 L0" || toldAll(all[each-2:], no) != "give 0 seek 0 0 L99 k99; split 0 all 0 1; split 1 all 0 1" {
		t.Error(len(all), no)
	}
	if got := told(rewrite.Sharp(c, nil, l...)); got != "seek 0 0 L0 k0; rel 0 0" {
		t.Error(got)
	}
	all, no = rewrite.All(c, nil, steps(t, "all 0 1; rel 0 0 back")...)
	if no != api.OK || len(all) != 2*each || toldAll(all[each:each+2], no) != "split 1 all 0 0; split 1 label 0 0 L0" {
		t.Error(len(all), no)
	}
}

// A great many picks.
func TestManyPicks(t *testing.T) {
	c := clause(t, one)
	picks := make([]int, 5000)
	for i := range picks {
		picks[i] = i * i * 7919
	}
	l, no := rewrite.Many(c, nil, picks, steps(t, "all 0 0; rel 0 0; where 0")...)
	if no != api.OK || plan.Check(c, nil, l...) != api.OK {
		t.Error(line(l), no)
	}
}
