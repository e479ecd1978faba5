package rewrite

import (
	"strconv"
	"strings"

	"lattice/api"
	"lattice/plan"
)

// Text tells a rewrite.
func Text(r api.Rewrite) string {
	kinds := [...]string{"give", "swap", "turn", "fuse", "split"}
	if r.Kind < 0 || int(r.Kind) >= len(kinds) {
		return ""
	}
	s := kinds[r.Kind] + " " + strconv.Itoa(r.At)
	if r.Kind == api.RewriteGive || r.Kind == api.RewriteSplit {
		s += " " + strings.TrimSuffix(plan.Text(r.Step), "\n")
	}
	return s
}
