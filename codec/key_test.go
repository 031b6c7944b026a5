package codec_test

import (
	"bytes"
	"slices"
	"strings"
	"testing"

	"bitemporal/api"
	"bitemporal/codec"
)

func TestKey(t *testing.T) {
	for _, c := range []struct {
		r    []api.Value
		want string
	}{
		{nil, ""}, {row(), ""}, {row(null()), "\x01"}, {row(null(), null()), "\x01\x01"}, {row(truth(0)), "\x04\x00"}, {row(truth(1)), "\x04\x01"},
		{row(number(0)), "\x02\x80\x00\x00\x00\x00\x00\x00\x00"}, {row(number(1)), "\x02\x80\x00\x00\x00\x00\x00\x00\x01"}, {row(number(-1)), "\x02\x7f\xff\xff\xff\xff\xff\xff\xff"}, {row(number(0x0102030405060)), "\x02\x80\x00\x10\x20\x30\x40\x50\x60"},
		{row(number(api.MaxNumber)), "\x02\x80\x04\x00\x00\x00\x00\x00\x00"}, {row(number(-api.MaxNumber)), "\x02\x7f\xfc\x00\x00\x00\x00\x00\x00"},
		{row(word("")), "\x03\x00"}, {row(word("a")), "\x03a\x00"}, {row(word("a b~")), "\x03a b~\x00"}, {row(word("a"), word("b")), "\x03a\x00\x03b\x00"}, {row(word(strings.Repeat("x", 200))), "\x03" + strings.Repeat("x", 200) + "\x00"},
		{row(number(-1), word("a")), "\x02\x7f\xff\xff\xff\xff\xff\xff\xff\x03a\x00"}, {row(truth(1), null(), word("")), "\x04\x01\x01\x03\x00"},
	} {
		if got := codec.Key(c.r); string(got) != c.want {
			t.Errorf("%v: % x", c.r, got)
		}
	}
	if got := codec.Key(slices.Repeat(row(word("ab"), truth(0)), 50000)); string(got) != strings.Repeat("\x03ab\x00\x04\x00", 50000) {
		t.Error("a long list", len(got))
	}
}

// checkOrder compares the keys of two rows with the rows.
func checkOrder(t *testing.T, a, b []api.Value) {
	x, y := codec.Key(a), codec.Key(b)
	if bytes.Compare(x, y) != order(a, b) || bytes.Compare(y, x) != order(b, a) {
		t.Fatalf("%v %v: % x, % x", a, b, x, y)
	}
	if len(a) <= len(b) && slices.Equal(a, b[:len(a)]) && !bytes.HasPrefix(y, x) {
		t.Fatalf("not a prefix: %v %v", a, b)
	}
}

func TestKeysOfShortRows(t *testing.T) {
	rows := [][]api.Value{nil}
	for _, v := range values() {
		rows = append(rows, row(v))
		for _, w := range row(null(), number(-1), number(0), number(256), word(""), word(" "), word("a"), truth(0), truth(1)) {
			rows = append(rows, row(v, w))
		}
	}
	if !slices.IsSortedFunc(rows, order) {
		t.Fatal("the rows are not in order")
	}
	for _, a := range rows {
		for _, b := range rows {
			checkOrder(t, a, b)
		}
	}
}

func TestKeysOfLongRows(t *testing.T) {
	next := random(2)
	for range 20000 {
		a := someRow(next, 20)
		b := append(slices.Clone(a[:next(len(a)+1)]), someRow(next, 3)...)
		checkOrder(t, a, b)
	}
	for _, a := range integers() {
		for _, b := range integers() {
			if max(a, b) <= api.MaxNumber && min(a, b) >= -api.MaxNumber {
				checkOrder(t, row(number(a)), row(number(b)))
			}
		}
	}
}
