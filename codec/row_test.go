package codec_test

import (
	"math"
	"slices"
	"strings"
	"testing"

	"bitemporal/api"
	"bitemporal/codec"
)

func TestPutValue(t *testing.T) {
	for _, c := range []struct {
		v    api.Value
		want string
	}{
		{null(), "\x00"}, {number(0), "\x01\x00"}, {number(-1), "\x01\x01"}, {number(64), "\x01\x80\x01"}, {word(""), "\x02\x00"}, {word("ab"), "\x02\x04ab"}, {truth(0), "\x03"}, {truth(1), "\x04"},
		{number(api.MaxNumber), "\x01\x80\x80\x80\x80\x80\x80\x80\x04"}, {number(-api.MaxNumber), "\x01\xff\xff\xff\xff\xff\xff\xff\x03"}, {word(strings.Repeat("x", 200)), "\x02\x90\x03" + strings.Repeat("x", 200)},
	} {
		if got := codec.PutValue(nil, c.v); string(got) != c.want {
			t.Errorf("%v: % x", c.v, got)
		}
	}
	for _, v := range values() {
		for _, before := range []string{"", "\x02\x80"} {
			b := codec.PutValue([]byte(before), v)
			if string(b) != before+encoded(v) {
				t.Errorf("%v: % x", v, b)
			}
			end := len(b)
			if got, at, err := codec.Value(append(b, "\x00\xff"...), len(before)); got != v || at != end || err != api.OK {
				t.Error(v, got, at, err)
			}
			for cut := len(before); cut < end; cut++ {
				if got, at, err := codec.Value(b[:cut], len(before)); got != (api.Value{}) || at != 0 || err != api.ErrTruncated {
					t.Error(v, got, at, err)
				}
			}
		}
	}
}

func TestValueErrors(t *testing.T) {
	text := func(s string) string { return "\x02" + string(codec.PutText(nil, s)) }
	integer := func(n int) string { return "\x01" + string(codec.PutInt(nil, n)) }
	long := strings.Repeat("x", 201)
	for _, c := range []struct {
		b    string
		at   int
		want api.Errno
	}{
		{"\x00", 2, api.ErrRange}, {"\x00", -1, api.ErrRange}, {"", 1, api.ErrRange}, {"\x00", math.MinInt, api.ErrRange}, {"\x00", math.MaxInt, api.ErrRange},
		{"", 0, api.ErrTruncated}, {"\x00", 1, api.ErrTruncated}, {"\x01", 0, api.ErrTruncated}, {"\x01\x80", 0, api.ErrTruncated}, {"\x02", 0, api.ErrTruncated}, {"\x02\x02", 0, api.ErrTruncated},
		{"\x05", 0, api.ErrSyntax}, {"\x06\x00", 0, api.ErrSyntax}, {"\x7f", 0, api.ErrSyntax}, {"\x80\x01", 0, api.ErrSyntax}, {"\xff", 0, api.ErrSyntax}, {"\x00\x05", 1, api.ErrSyntax},
		{"\x01\x80\x00", 0, api.ErrSyntax}, {"\x01" + most[:9] + "\x02", 0, api.ErrSyntax},
		{integer(api.MaxNumber + 1), 0, api.ErrRange}, {integer(-api.MaxNumber - 1), 0, api.ErrRange}, {integer(math.MaxInt), 0, api.ErrRange}, {integer(math.MinInt), 0, api.ErrRange},
		{"\x02\x82\x00a", 0, api.ErrSyntax}, {"\x02\x01", 0, api.ErrSyntax},
		{text(long), 0, api.ErrTooLong}, {text("\n" + long), 0, api.ErrTooLong}, {text(long)[:50], 0, api.ErrTooLong}, {text(long)[:3], 0, api.ErrTooLong},
		{text("\n\n")[:3], 0, api.ErrTruncated}, {text(long[1:])[:202], 0, api.ErrTruncated},
		{text("\n"), 0, api.ErrSyntax}, {text("a\x1f"), 0, api.ErrSyntax}, {text("a\x7fb"), 0, api.ErrSyntax}, {text("\x00"), 0, api.ErrSyntax}, {text("\x80"), 0, api.ErrSyntax}, {text("\xff"), 0, api.ErrSyntax}, {text("é"), 0, api.ErrSyntax}, {text(long[2:] + "\t"), 0, api.ErrSyntax},
	} {
		if v, at, err := codec.Value([]byte(c.b), c.at); v != (api.Value{}) || at != 0 || err != c.want {
			t.Errorf("% x: %v %d %d", c.b, v, at, err)
		}
	}
}

func TestTextsOfOneByte(t *testing.T) {
	for c := range 256 {
		s := string([]byte{byte(c)})
		v, at, err := codec.Value([]byte("\x02\x02"+s), 0)
		if c >= 32 && c <= 126 {
			if v != word(s) || at != 3 || err != api.OK {
				t.Error(c, v, at, err)
			}
		} else if v != (api.Value{}) || at != 0 || err != api.ErrSyntax {
			t.Error(c, v, at, err)
		}
	}
}

func TestPutRow(t *testing.T) {
	for _, c := range []struct {
		r    []api.Value
		want string
	}{
		{nil, "\x00"}, {row(), "\x00"}, {row(null()), "\x02\x00"}, {row(number(7)), "\x02\x01\x0e"}, {row(number(1), word("x"), null(), truth(1), truth(0)), "\x0a\x01\x02\x02\x02x\x00\x04\x03"},
		{make([]api.Value, 12), "\x18" + strings.Repeat("\x00", 12)},
	} {
		if got := codec.PutRow([]byte("a"), c.r); string(got) != "a"+c.want {
			t.Errorf("%v: % x", c.r, got)
		}
	}
	next := random(1)
	for range 2000 {
		r := someRow(next, api.MaxColumns)
		before := "\x02\x80"[:next(3)]
		b := codec.PutRow([]byte(before), r)
		if string(b) != before+encodedRow(r) {
			t.Fatalf("%v: % x", r, b)
		}
		end := len(b)
		if got, at, err := codec.Row(append(b, "\x00\xff"...), len(before)); !slices.Equal(got, r) || at != end || err != api.OK {
			t.Fatal(r, got, at, err)
		}
		cut := len(before) + next(end-len(before))
		if got, at, err := codec.Row(b[:cut], len(before)); got != nil || at != 0 || err != api.ErrTruncated {
			t.Fatal(r, got, at, err)
		}
	}
}

func TestRowErrors(t *testing.T) {
	for _, c := range []struct {
		b    string
		at   int
		want api.Errno
	}{
		{"\x00", 2, api.ErrRange}, {"\x00", -1, api.ErrRange}, {"\x00", math.MinInt, api.ErrRange}, {"\x00", math.MaxInt, api.ErrRange},
		{"", 0, api.ErrTruncated}, {"\x00", 1, api.ErrTruncated}, {"\x80", 0, api.ErrTruncated}, {"\x02", 0, api.ErrTruncated}, {"\x18", 0, api.ErrTruncated}, {"\x04\x00", 0, api.ErrTruncated},
		{"\x80\x00", 0, api.ErrSyntax}, {"\x01", 0, api.ErrSyntax}, {"\x03\x00", 0, api.ErrSyntax}, {most, 0, api.ErrSyntax},
		{"\x1a", 0, api.ErrTooLong}, {"\x1a" + strings.Repeat("\x00", 13), 0, api.ErrTooLong}, {string(codec.PutInt(nil, math.MaxInt)), 0, api.ErrTooLong}, {"\x1a\x05", 0, api.ErrTooLong},
		{"\x02\x05", 0, api.ErrSyntax}, {"\x04\x00\x05", 0, api.ErrSyntax}, {"\x04\x05", 0, api.ErrSyntax}, {"\x04\x01\x80\x00", 0, api.ErrSyntax},
		{"\x04" + string(codec.PutInt([]byte{1}, api.MaxNumber+1)) + "\x05", 0, api.ErrRange}, {"\x04\x05" + string(codec.PutInt([]byte{1}, api.MaxNumber+1)), 0, api.ErrSyntax},
		{"\x04\x00\x02\x92\x03", 0, api.ErrTooLong}, {"\x04\x02\x02\n\x05", 0, api.ErrSyntax},
	} {
		if r, at, err := codec.Row([]byte(c.b), c.at); r != nil || at != 0 || err != c.want {
			t.Errorf("% x: %v %d %d", c.b, r, at, err)
		}
	}
	if r, at, err := codec.Row([]byte("\x18"+strings.Repeat("\x04", 12)), 0); len(r) != 12 || at != 13 || err != api.OK || r[11] != truth(1) {
		t.Error(r, at, err)
	}
	if r, at, err := codec.Row([]byte("\x00"), 0); len(r) != 0 || at != 1 || err != api.OK {
		t.Error(r, at, err)
	}
}
