package codec_test

import (
	"math"
	"strings"
	"testing"

	"bitemporal/api"
	"bitemporal/codec"
)

// most is the greatest number of groups: nine full ones, and one bit.
const most = "\xff\xff\xff\xff\xff\xff\xff\xff\xff\x01"

func TestPutInt(t *testing.T) {
	for n, want := range map[int]string{
		0: "\x00", -1: "\x01", 1: "\x02", -2: "\x03", 63: "\x7e", -64: "\x7f", 64: "\x80\x01", -65: "\x81\x01", 65: "\x82\x01",
		8191: "\xfe\x7f", -8192: "\xff\x7f", 8192: "\x80\x80\x01", -8193: "\x81\x80\x01",
		math.MaxInt: "\xfe\xff\xff\xff\xff\xff\xff\xff\xff\x01", math.MinInt: most,
		1 << 62: "\x80\x80\x80\x80\x80\x80\x80\x80\x80\x01", 1<<62 - 1: "\xfe\xff\xff\xff\xff\xff\xff\xff\x7f",
	} {
		if got := codec.PutInt(nil, n); string(got) != want {
			t.Errorf("%d: % x", n, got)
		}
		if got := codec.PutInt([]byte("ab"), n); string(got) != "ab"+want {
			t.Errorf("%d: % x", n, got)
		}
	}
	for _, n := range integers() {
		if got := codec.PutInt([]byte{}, n); string(got) != groups(n) || len(got) > 10 {
			t.Errorf("%d: % x", n, got)
		}
	}
}

func TestIntReadsWhatWasPut(t *testing.T) {
	for _, n := range integers() {
		for _, before := range []string{"", "\x80", "\xff\xff\xff"} {
			b := codec.PutInt([]byte(before), n)
			end := len(b)
			for _, after := range []string{"", "\x00", "\xff"} {
				if got, at, err := codec.Int(append(b, after...), len(before)); got != n || at != end || err != api.OK {
					t.Error(n, got, at, err)
				}
			}
			for cut := len(before); cut < end; cut++ {
				if got, at, err := codec.Int(b[:cut], len(before)); got != 0 || at != 0 || err != api.ErrTruncated {
					t.Error(n, got, at, err)
				}
			}
		}
	}
}

func TestIntErrors(t *testing.T) {
	for _, c := range []struct {
		b    string
		at   int
		want api.Errno
	}{
		{"", 0, api.ErrTruncated}, {"a", 1, api.ErrTruncated}, {"\x80", 0, api.ErrTruncated}, {most[:9], 0, api.ErrTruncated}, {"\x00\x80\x81", 1, api.ErrTruncated},
		{"", 1, api.ErrRange}, {"", -1, api.ErrRange}, {"a", 2, api.ErrRange}, {"a", -1, api.ErrRange}, {"a", math.MinInt, api.ErrRange}, {"a", math.MaxInt, api.ErrRange}, {most, 11, api.ErrRange},
		{"\x80\x00", 0, api.ErrSyntax}, {"\x81\x00", 0, api.ErrSyntax}, {"\x80\x80\x00", 0, api.ErrSyntax}, {"\xff\xff\x00\x01", 0, api.ErrSyntax}, {"\x07\x80\x00", 1, api.ErrSyntax},
		{most[:9] + "\x00", 0, api.ErrSyntax}, {most[:9] + "\x02", 0, api.ErrSyntax}, {most[:9] + "\x7f", 0, api.ErrSyntax}, {most[:9] + "\x80", 0, api.ErrSyntax}, {most[:9] + "\x81\x01", 0, api.ErrSyntax}, {most[:9] + "\xff", 0, api.ErrSyntax},
		{strings.Repeat("\x80", 30), 0, api.ErrSyntax}, {strings.Repeat("\x80", 9), 0, api.ErrTruncated},
	} {
		if n, at, err := codec.Int([]byte(c.b), c.at); n != 0 || at != 0 || err != c.want {
			t.Errorf("% x: %d %d %d", c.b, n, at, err)
		}
	}
	if n, at, err := codec.Int(nil, 0); n != 0 || at != 0 || err != api.ErrTruncated {
		t.Error(n, at, err)
	}
}

// lastBytes calls f with groups that are followed by each byte.
func lastBytes(f func(b []byte)) {
	for groups := range 12 {
		for _, first := range []byte{128, 129, 255} {
			b := []byte(strings.Repeat(string([]byte{first}), groups))
			for c := range 256 {
				f(append(b, byte(c)))
			}
		}
	}
}

func TestIntWithEachLastByte(t *testing.T) {
	lastBytes(func(b []byte) {
		n, at, err := codec.Int(b, 0)
		wantN, wantAt, want := readInt(b, 0)
		if n != wantN || at != wantAt || err != want {
			t.Errorf("% x: %d %d %d", b, n, at, err)
		}
	})
}

func TestPutText(t *testing.T) {
	for s, want := range map[string]string{
		"": "\x00", "ab": "\x04ab", "\x00": "\x02\x00", "é\xff\n": "\x08é\xff\n",
		strings.Repeat("x", 63): "\x7e" + strings.Repeat("x", 63), strings.Repeat("x", 64): "\x80\x01" + strings.Repeat("x", 64), strings.Repeat("\x80", 10000): "\xa0\x9c\x01" + strings.Repeat("\x80", 10000),
	} {
		for _, before := range []string{"", "\x80\x00"} {
			b := codec.PutText([]byte(before), s)
			if string(b) != before+want {
				t.Errorf("%.20q: % .20x", s, b)
			}
			end := len(b)
			for _, limit := range []int{len(s), len(s) + 1, math.MaxInt} {
				if got, at, err := codec.Text(append(b, "xyz"...), len(before), limit); got != s || at != end || err != api.OK {
					t.Errorf("%.20q: %.20q %d %d", s, got, at, err)
				}
			}
			for _, limit := range []int{len(s) - 1, 0, -1, math.MinInt} {
				if got, at, err := codec.Text(b, len(before), limit); s != "" && (got != "" || at != 0 || err != api.ErrTooLong) {
					t.Errorf("%.20q: %.20q %d %d", s, got, at, err)
				}
			}
		}
	}
}

func TestTextErrors(t *testing.T) {
	huge := string(codec.PutInt(nil, math.MaxInt))
	for _, c := range []struct {
		b        string
		at, most int
		want     api.Errno
	}{
		{"", 0, 9, api.ErrTruncated}, {"\x02a", 3, 9, api.ErrRange}, {"\x02a", -1, 9, api.ErrRange}, {"\x02a", math.MaxInt, 9, api.ErrRange}, {"\x02a", math.MinInt, 9, api.ErrRange},
		{"\x80", 0, 9, api.ErrTruncated}, {"\x82\x00a", 0, 9, api.ErrSyntax}, {most[:9] + "\x02", 0, 9, api.ErrSyntax},
		{"\x01", 0, 9, api.ErrSyntax}, {"\x05", 0, 0, api.ErrSyntax}, {"\x05abc", 0, -5, api.ErrSyntax}, {most, 0, math.MaxInt, api.ErrSyntax},
		{"\x06abc", 0, 2, api.ErrTooLong}, {"\x06", 0, 2, api.ErrTooLong}, {"\x02a", 0, 0, api.ErrTooLong}, {"\x02a", 0, -1, api.ErrTooLong}, {"\x02a", 0, math.MinInt, api.ErrTooLong}, {huge + "abc", 0, math.MaxInt - 1, api.ErrTooLong},
		{"\x06ab", 0, 3, api.ErrTruncated}, {"\x06", 0, 3, api.ErrTruncated}, {"\x06ab", 0, math.MaxInt, api.ErrTruncated}, {huge + "abc", 0, math.MaxInt, api.ErrTruncated}, {"abc" + huge, 3, math.MaxInt, api.ErrTruncated},
	} {
		if s, at, err := codec.Text([]byte(c.b), c.at, c.most); s != "" || at != 0 || err != c.want {
			t.Errorf("% x: %q %d %d", c.b, s, at, err)
		}
	}
	for _, limit := range []int{0, -1, math.MinInt} {
		if s, at, err := codec.Text([]byte("\x00"), 0, limit); s != "" || at != 1 || err != api.OK {
			t.Error(limit, s, at, err)
		}
	}
}

func TestPeriods(t *testing.T) {
	for _, p := range []api.Period{{From: 0, To: 1}, {From: 3, To: 7}, {From: 0, To: api.Forever}, {From: api.Forever - 1, To: api.Forever}, {From: 63, To: 64}} {
		for _, before := range []string{"", "\x80\x00"} {
			b := codec.PutPeriod([]byte(before), p)
			if string(b) != before+groups(p.From)+groups(p.To) {
				t.Errorf("%v: % x", p, b)
			}
			end := len(b)
			if got, at, err := codec.Period(append(b, 1, 2, 3), len(before)); got != p || at != end || err != api.OK {
				t.Error(p, got, at, err)
			}
			for cut := len(before); cut < end; cut++ {
				if got, at, err := codec.Period(b[:cut], len(before)); got != (api.Period{}) || at != 0 || err != api.ErrTruncated {
					t.Error(p, got, at, err)
				}
			}
		}
	}
}

func TestInvalidPeriods(t *testing.T) {
	for _, p := range []api.Period{{}, {From: 3, To: 3}, {From: 7, To: 3}, {From: -1, To: 3}, {From: 0, To: -1}, {From: 0, To: api.Forever + 1}, {From: api.Forever, To: api.Forever}, {From: math.MinInt, To: math.MaxInt}, {From: math.MaxInt, To: math.MinInt}} {
		b := codec.PutPeriod([]byte("a"), p)
		if string(b) != "a"+groups(p.From)+groups(p.To) {
			t.Errorf("%v: % x", p, b)
		}
		if got, at, err := codec.Period(b, 1); got != (api.Period{}) || at != 0 || err != api.ErrRange {
			t.Error(p, got, at, err)
		}
	}
}

func TestPeriodErrors(t *testing.T) {
	for _, c := range []struct {
		b    string
		at   int
		want api.Errno
	}{
		{"\x06\x0e", 3, api.ErrRange}, {"\x06\x0e", -1, api.ErrRange}, {"", math.MinInt, api.ErrRange}, {"", math.MaxInt, api.ErrRange},
		{"", 0, api.ErrTruncated}, {"\x06", 0, api.ErrTruncated}, {"\x06\x0e", 1, api.ErrTruncated}, {"\x06\x0e", 2, api.ErrTruncated}, {"\x06\x80", 0, api.ErrTruncated},
		{"\x80\x00\x0e", 0, api.ErrSyntax}, {"\x06\x8e\x00", 0, api.ErrSyntax}, {"\x06" + most[:9] + "\x02", 0, api.ErrSyntax}, {"\x05\x8e\x00", 0, api.ErrSyntax}, {"\x05", 0, api.ErrTruncated},
		{"\x06\x06", 0, api.ErrRange}, {"\x0e\x06", 0, api.ErrRange}, {"\x05\x06", 0, api.ErrRange}, {most + most, 0, api.ErrRange},
	} {
		if p, at, err := codec.Period([]byte(c.b), c.at); p != (api.Period{}) || at != 0 || err != c.want {
			t.Errorf("% x: %v %d %d", c.b, p, at, err)
		}
	}
}
