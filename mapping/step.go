package mapping

import (
	"slices"

	"bitemporal/api"
	"bitemporal/evolve"
	"bitemporal/schema"
	"bitemporal/value"
)

// step is a change that is passed on the way from one version to another one, forward or back.
type step struct {
	before api.Table
	change api.Change
	back   bool
}

// conversion converts a row, whose memory it may use for its result.
type conversion func(row []api.Value) []api.Value

// conversion returns the conversion of rows over the step.
func (s step) conversion() conversion {
	if s.back {
		return backward(s.before, s.change)
	}
	return forward(s.before, s.change)
}

// index returns the index of a column after the step, or -1 if it is lost.
func (s step) index(column int) int {
	if s.back {
		return former(s.before, s.change, column)
	}
	return evolve.Index(s.before, s.change, column)
}

// former returns the index, in t, of a column after a change of t, or -1 if the change added it.
func former(t api.Table, c api.Change, column int) int {
	switch {
	case c.Kind == api.ChangeAdd && column == len(t.Columns):
		return -1
	case c.Kind == api.ChangeDrop && column >= schema.Find(t, c.Name):
		return column + 1
	}
	return column
}

// forward returns the conversion over a change that can be applied to t.
func forward(t api.Table, c api.Change) conversion {
	place := schema.Find(t, c.Name)
	switch c.Kind {
	case api.ChangeAdd:
		return func(row []api.Value) []api.Value { return append(row, c.Default) }
	case api.ChangeDrop:
		return func(row []api.Value) []api.Value { return slices.Delete(row, place, place+1) }
	case api.ChangeText:
		return replaced(place, literal)
	}
	return unchanged
}

// backward returns the conversion back over a change that can be applied to t.
func backward(t api.Table, c api.Change) conversion {
	place := schema.Find(t, c.Name)
	switch c.Kind {
	case api.ChangeAdd:
		return func(row []api.Value) []api.Value { return row[:len(row)-1] }
	case api.ChangeDrop:
		return func(row []api.Value) []api.Value { return slices.Insert(row, place, value.Null()) }
	case api.ChangeText:
		kind := t.Columns[place].Kind
		return replaced(place, func(v api.Value) api.Value { return parsed(v, kind) })
	}
	return unchanged
}

func unchanged(row []api.Value) []api.Value { return row }

// replaced returns the conversion that replaces one value of a row.
func replaced(place int, by func(api.Value) api.Value) conversion {
	return func(row []api.Value) []api.Value {
		row[place] = by(row[place])
		return row
	}
}

// literal returns the literal of a value as a text, or a null.
func literal(v api.Value) api.Value {
	if v.Kind == api.KindNull {
		return v
	}
	return value.Text(value.Literal(v))
}

// parsed returns the value of a kind whose literal a text is, or a null. A null has an empty text, which is no literal.
func parsed(v api.Value, kind int) api.Value {
	if p, _ := value.Parse(v.Text); p.Kind == kind {
		return p
	}
	return value.Null()
}
