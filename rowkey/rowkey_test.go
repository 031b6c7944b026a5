package rowkey_test

import (
	"testing"

	"bitemporal/api"
	"bitemporal/rowkey"
	"bitemporal/tuple"
)

// rows returns all rows of up to two columns of some values, whose texts resemble parts of keys.
func rows() [][]api.Value {
	const least, most = -1 << 63, 1<<63 - 1
	values := []api.Value{
		{}, {Int: 1}, {Kind: -1}, {Kind: 12}, {Kind: least, Int: most}, {Kind: most, Int: least},
		{Kind: api.KindInt}, {Kind: api.KindInt, Int: 1}, {Kind: api.KindInt, Int: -1}, {Kind: api.KindInt, Int: 12}, {Kind: api.KindInt, Text: "1"},
		{Kind: 11, Int: 1}, {Kind: 1, Int: 11}, {Kind: 1, Int: 1, Text: "0123456789a"}, {Kind: 1, Int: 11, Text: "0"},
		{Kind: api.KindBool}, {Kind: api.KindBool, Int: 1}, {Kind: api.KindBool, Int: 2},
	}
	for _, s := range []string{"", "0", "1", "1,", ",", "0,0,", "0,0,0,", "2,0,1,1", "\x00", "\x00\x00", "\xff", "é"} {
		values = append(values, api.Value{Kind: api.KindText, Text: s}, api.Value{Text: s})
	}
	l := [][]api.Value{nil, {}}
	for _, v := range values {
		l = append(l, []api.Value{v})
		for _, w := range values {
			l = append(l, []api.Value{v, w})
		}
	}
	return append(l, make([]api.Value, 3), make([]api.Value, 4))
}

func TestOf(t *testing.T) {
	l := rows()
	for _, a := range l {
		for _, b := range l {
			if (rowkey.Of(a) == rowkey.Of(b)) != tuple.Equal(a, b) {
				t.Errorf("%+v and %+v: %q and %q", a, b, rowkey.Of(a), rowkey.Of(b))
			}
		}
	}
}
