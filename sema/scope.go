package sema

import "lattice/api"

// scope is variables, in the order in which they came, and by their names.
type scope struct {
	list  []api.Var
	kinds map[string]api.VarKind
}

func scopeOf(vars ...api.Var) *scope {
	s := &scope{kinds: map[string]api.VarKind{}}
	for _, v := range vars {
		s.add(v)
	}
	return s
}

// add keeps all variables that it is given, but of two of one name the first one counts.
func (s *scope) add(v api.Var) {
	s.list = append(s.list, v)
	if _, there := s.kinds[v.Name]; !there {
		s.kinds[v.Name] = v.Kind
	}
}

// fresh adds a variable that may not be there yet.
func (s *scope) fresh(name string, kind api.VarKind) {
	if _, there := s.kinds[name]; there {
		panic(api.ErrAgain)
	}
	s.add(api.Var{Name: name, Kind: kind})
}

// need is the kind of a variable that must be there.
func (s *scope) need(name string) api.VarKind {
	kind, there := s.kinds[name]
	if !there {
		panic(api.ErrVar)
	}
	return kind
}

// kindOf is the kind of the variable that an expression is; of anything else VarAny.
func (s *scope) kindOf(e api.Expr) api.VarKind {
	if e.Kind != api.ExprVar {
		return api.VarAny
	}
	return s.kinds[e.Name]
}

func (s *scope) copy() *scope { return scopeOf(s.list...) }

func (s *scope) names() []string {
	var l []string
	for _, v := range s.list {
		l = append(l, v.Name)
	}
	return l
}
