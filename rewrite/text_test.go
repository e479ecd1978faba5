package rewrite_test

import (
	"math"
	"strings"
	"testing"

	"lattice/api"
	"lattice/rewrite"
)

// P14.4: Text.

func TestText(t *testing.T) {
	full := api.Step{Kind: api.StepSeek, Path: 3, Part: 12, Label: "A", Key: "k"}
	for _, x := range []struct {
		r    api.Rewrite
		want string
	}{
		{api.Rewrite{}, "give 0 all 0 0"},
		{api.Rewrite{Kind: api.RewriteGive, At: 7, Step: full}, "give 7 seek 3 12 A k"},
		{api.Rewrite{Kind: api.RewriteGive, At: 7, Step: api.Step{Kind: api.StepLabel, Part: 1, Label: "B"}}, "give 7 label 0 1 B"},
		{api.Rewrite{Kind: api.RewriteSplit, At: 10, Step: full}, "split 10 seek 3 12 A k"},
		{api.Rewrite{Kind: api.RewriteSplit, Step: api.Step{Kind: api.StepBound, Path: 2}}, "split 0 bound 2 0"},
		{api.Rewrite{Kind: api.RewriteSwap}, "swap 0"}, {api.Rewrite{Kind: api.RewriteTurn, At: 2}, "turn 2"}, {api.Rewrite{Kind: api.RewriteFuse, At: 65536}, "fuse 65536"},
		// What a Kind does not use is not told, whatever it is.
		{api.Rewrite{Kind: api.RewriteSwap, At: 1, Step: full}, "swap 1"}, {api.Rewrite{Kind: api.RewriteTurn, At: 1, Step: full}, "turn 1"}, {api.Rewrite{Kind: api.RewriteFuse, At: 1, Step: full}, "fuse 1"},
		// Numbers and steps are told as they stand, whether they apply to something or not.
		{api.Rewrite{Kind: api.RewriteSwap, At: -1}, "swap -1"}, {api.Rewrite{Kind: api.RewriteTurn, At: math.MaxInt}, "turn 9223372036854775807"}, {api.Rewrite{Kind: api.RewriteFuse, At: math.MinInt}, "fuse -9223372036854775808"},
		{api.Rewrite{At: -3, Step: api.Step{Kind: api.StepRel, Path: 1, Back: true}}, "give -3 rel 1 0 back"}, {api.Rewrite{Kind: api.RewriteSplit, Step: api.Step{Kind: api.StepRel, Path: 1}}, "split 0 rel 1 0"},
		{api.Rewrite{Step: api.Step{Kind: api.StepWhere, Cond: 4}}, "give 0 where 4"}, {api.Rewrite{Step: api.Step{Kind: 6, Path: -1, Part: 2, Label: "A"}}, "give 0 ? -1 2"}, {api.Rewrite{Kind: api.RewriteSplit, Step: api.Step{Kind: -1}}, "split 0 ? 0 0"},
		{api.Rewrite{Step: api.Step{Back: true, Label: "A", Key: "k", Cond: 7}}, "give 0 all 0 0"},
		// Names stand as they are: only the line's own end is left out.
		{api.Rewrite{Step: api.Step{Kind: api.StepSeek, Label: "a b", Key: "match"}}, "give 0 seek 0 0 a b match"}, {api.Rewrite{Step: api.Step{Kind: api.StepLabel, Label: "A\n"}}, "give 0 label 0 0 A\n"}, {api.Rewrite{Kind: api.RewriteSplit, Step: api.Step{Kind: api.StepSeek, Label: "\n", Key: "k\n\n"}}, "split 0 seek 0 0 \n k\n\n"},
		{api.Rewrite{Step: api.Step{Kind: api.StepLabel}}, "give 0 label 0 0 "}, {api.Rewrite{Step: api.Step{Kind: api.StepLabel, Label: "\xff"}}, "give 0 label 0 0 \xff"}, {api.Rewrite{Step: api.Step{Kind: api.StepLabel, Label: strings.Repeat("é", 1<<20)}}, "give 0 label 0 0 " + strings.Repeat("é", 1<<20)},
		// Of no kind.
		{api.Rewrite{Kind: 5}, ""}, {api.Rewrite{Kind: -1, At: 3, Step: full}, ""}, {api.Rewrite{Kind: math.MaxInt}, ""}, {api.Rewrite{Kind: math.MinInt}, ""}, {api.Rewrite{Kind: 6, At: 1}, ""}, {api.Rewrite{Kind: 256}, ""}, {api.Rewrite{Kind: 1 << 32}, ""},
	} {
		if got := rewrite.Text(x.r); got != x.want {
			t.Errorf("%+v: %.60q", x.r.Kind, got)
		}
	}
}
