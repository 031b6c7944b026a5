package binder

import (
	"bitemporal/api"
	"bitemporal/expr"
	"bitemporal/schema"
)

// scope are the columns of sources, over which expressions are bound.
type scope struct {
	mode    int
	columns []api.Column     // in order; bounds have no names
	places  map[string][]int // the columns with a name, and with one after that of their source and a point
	ends    map[string]int   // the place behind the named columns of a source, where its bounds begin
}

func newScope(mode int) *scope {
	return &scope{mode: mode, places: map[string][]int{}, ends: map[string]int{}}
}

// add adds the columns of a source, and its bounds if these are columns.
func (s *scope) add(source string, l []api.Column) {
	for _, c := range l {
		for _, name := range []string{c.Name, source + "." + c.Name} {
			s.places[name] = append(s.places[name], len(s.columns))
		}
		s.columns = append(s.columns, c)
	}
	s.ends[source] = len(s.columns)
	if s.mode == api.ModeNonsequenced {
		for range api.Bounds {
			s.columns = append(s.columns, api.Column{Kind: api.KindInt})
		}
	}
}

func (s *scope) has(source string) bool {
	_, ok := s.ends[source]
	return ok
}

// condition binds a condition.
func (s *scope) condition(e api.Expr) (api.Expr, api.Errno) {
	e, kind, err := s.bind(e)
	if err == api.OK && kind != api.KindBool && kind != api.KindNull {
		err = api.ErrKind
	}
	if err != api.OK {
		return api.Expr{}, err
	}
	return e, api.OK
}

// bind binds an expression, and returns its kind.
func (s *scope) bind(e api.Expr) (api.Expr, int, api.Errno) {
	e, err := s.resolve(e)
	if err != api.OK {
		return api.Expr{}, 0, err
	}
	kind, err := expr.Check(e, schema.Kinds(api.Table{Columns: s.columns}))
	if err != api.OK {
		return api.Expr{}, 0, err
	}
	return e, kind, api.OK
}

// resolve replaces the names in an expression.
func (s *scope) resolve(e api.Expr) (api.Expr, api.Errno) {
	switch e.Op {
	case api.OpName:
		return s.find(e.Name)
	case api.OpPeriod:
		l, err := s.bounds(e.Name, e.Int)
		if err != api.OK {
			return api.Expr{}, err
		}
		return l[0], api.OK
	case api.OpRelate:
		return s.relation(e)
	}
	var args []api.Expr
	for _, a := range e.Args {
		arg, err := s.resolve(a)
		if err != api.OK {
			return api.Expr{}, err
		}
		args = append(args, arg)
	}
	e.Args = args
	return e, api.OK
}

// find returns the only column with a name.
func (s *scope) find(name string) (api.Expr, api.Errno) {
	l := s.places[name]
	switch len(l) {
	case 0:
		return api.Expr{}, api.ErrNotFound
	case 1:
		return column(l[0]), api.OK
	}
	return api.Expr{}, api.ErrAmbiguous
}

// bounds returns the columns of bounds of a source.
func (s *scope) bounds(source string, l ...int) ([]api.Expr, api.Errno) {
	switch {
	case s.mode != api.ModeNonsequenced:
		return nil, api.ErrMode
	case !s.has(source):
		return nil, api.ErrNotFound
	}
	var columns []api.Expr
	for _, b := range l {
		columns = append(columns, column(s.ends[source]+b))
	}
	return columns, api.OK
}

// relation returns the relation between the valid periods of the sources that are named by its arguments.
func (s *scope) relation(e api.Expr) (api.Expr, api.Errno) {
	var args []api.Expr
	for _, a := range e.Args {
		l, err := s.bounds(a.Name, api.BoundValidFrom, api.BoundValidTo)
		if err != api.OK {
			return api.Expr{}, err
		}
		args = append(args, l...)
	}
	return api.Expr{Op: api.OpAllen, Int: e.Int, Args: args}, api.OK
}

func column(i int) api.Expr { return api.Expr{Op: api.OpColumn, Int: i} }
