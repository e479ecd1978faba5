package plan

import (
	"strconv"
	"strings"

	"lattice/api"
)

// Text tells a plan, a line for each step.
func Text(steps ...api.Step) string {
	var b strings.Builder
	for _, s := range steps {
		b.WriteString(strings.Join(told(s), " ") + "\n")
	}
	return b.String()
}

// told are the words of a step's line. Names stand as they are.
func told(s api.Step) []string {
	path, at := strconv.Itoa(s.Path), strconv.Itoa(s.Part)
	switch s.Kind {
	case api.StepAll:
		return []string{"all", path, at}
	case api.StepLabel:
		return []string{"label", path, at, s.Label}
	case api.StepSeek:
		return []string{"seek", path, at, s.Label, s.Key}
	case api.StepBound:
		return []string{"bound", path, at}
	case api.StepRel:
		if s.Back {
			return []string{"rel", path, at, "back"}
		}
		return []string{"rel", path, at}
	case api.StepWhere:
		return []string{"where", strconv.Itoa(s.Cond)}
	}
	return []string{"?", path, at}
}
