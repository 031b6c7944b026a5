package codec

import (
	"bitemporal/api"
	"bitemporal/value"
)

// The first byte of the encoding of a value.
const (
	tagNull = iota
	tagInt
	tagText
	tagFalse
	tagTrue
)

// PutValue appends a value.
func PutValue(b []byte, v api.Value) []byte { return appendValue(limited(b), v) }

// Value reads a value.
func Value(b []byte, at int) (api.Value, int, api.Errno) {
	if !isOffset(b, at) {
		return api.Value{}, 0, api.ErrRange
	}
	if at == len(b) {
		return api.Value{}, 0, api.ErrTruncated
	}
	switch tag := b[at]; tag {
	case tagNull:
		return value.Null(), at + 1, api.OK
	case tagInt:
		n, next, err := Int(b, at+1)
		return checked(api.Value{Kind: api.KindInt, Int: n}, next, err, api.ErrRange)
	case tagText:
		s, next, err := Text(b, at+1, api.MaxText)
		return checked(api.Value{Kind: api.KindText, Text: s}, next, err, api.ErrSyntax)
	case tagFalse, tagTrue:
		return value.Bool(tag == tagTrue), at + 1, api.OK
	}
	return api.Value{}, 0, api.ErrSyntax
}

// checked returns a value that was read and the offset after it: with the error of reading it, or with the error invalid if it is not a valid value, nothing.
func checked(v api.Value, next int, err, invalid api.Errno) (api.Value, int, api.Errno) {
	if err == api.OK && !value.Valid(v) {
		err = invalid
	}
	if err != api.OK {
		return api.Value{}, 0, err
	}
	return v, next, api.OK
}

// PutRow appends a row.
func PutRow(b []byte, row []api.Value) []byte {
	b = appendInt(limited(b), len(row))
	for _, v := range row {
		b = appendValue(b, v)
	}
	return b
}

// Row reads a row.
func Row(b []byte, at int) ([]api.Value, int, api.Errno) {
	n, at, err := Int(b, at)
	switch {
	case err != api.OK:
		return nil, 0, err
	case n < 0:
		return nil, 0, api.ErrSyntax
	case n > api.MaxColumns:
		return nil, 0, api.ErrTooLong
	}
	row := make([]api.Value, n)
	for i := range row {
		row[i], at, err = Value(b, at)
		if err != api.OK {
			return nil, 0, err
		}
	}
	return row, at, api.OK
}

func appendValue(b []byte, v api.Value) []byte {
	switch v.Kind {
	case api.KindInt:
		return appendInt(append(b, tagInt), v.Int)
	case api.KindText:
		return appendText(append(b, tagText), v.Text)
	case api.KindBool:
		if v == value.Bool(true) {
			return append(b, tagTrue)
		}
		return append(b, tagFalse)
	}
	return append(b, tagNull)
}
