package frame_test

import (
	"bytes"
	"hash/crc32"
	"math"
	"slices"
	"strings"
	"testing"

	"bitemporal/api"
	"bitemporal/frame"
)

func TestSum(t *testing.T) {
	var ascending, descending []byte
	for i := range 32 {
		ascending, descending = append(ascending, byte(i)), append(descending, byte(31-i))
	}
	for s, want := range map[string]uint32{
		"": 0, "123456789": 0xe3069283, "a": 0xc1d04330, "\x00": 0x527d5351,
		strings.Repeat("\x00", 32): 0x8a9136aa, strings.Repeat("\xff", 32): 0x62a8ab43, string(ascending): 0x46dd794e, string(descending): 0x113fdb5c,
	} {
		if got := frame.Sum([]byte(s)); got != want {
			t.Errorf("%q: %08x", s, got)
		}
	}
	if got := frame.Sum(nil); got != 0 {
		t.Error(got)
	}
}

func TestSumOfManyBytes(t *testing.T) {
	for a := range 256 {
		for b := range 256 {
			l := []byte{byte(a), byte(b)}
			if got := frame.Sum(l); got != sum(l) {
				t.Fatalf("% x: %08x", l, got)
			}
		}
	}
	next := random(1)
	for range 2000 {
		l := someBytes(next, 200)
		if got := frame.Sum(l); got != sum(l) {
			t.Fatalf("% x: %08x", l, got)
		}
	}
	l := someBytes(next, 1<<22)
	if got := frame.Sum(l); got != crc32.Checksum(l, crc32.MakeTable(crc32.Castagnoli)) {
		t.Errorf("%d bytes: %08x", len(l), got)
	}
}

func TestLen(t *testing.T) {
	for n, want := range map[int]int{
		0: 8, 1: 9, 3: 11, 1000: 1008, api.MaxRecord - 1: api.MaxRecord + 7, api.MaxRecord: api.MaxRecord + 8,
		-1: 0, -8: 0, api.MaxRecord + 1: 0, math.MaxInt: 0, math.MinInt: 0, 1 << 32: 0,
	} {
		if got := frame.Len(n); got != want {
			t.Error(n, got)
		}
	}
}

func TestAppend(t *testing.T) {
	for _, before := range []string{"", "x", "\x00\x00\x00\x03abc"} {
		for _, body := range []string{"", "a", "abc", "\x00", strings.Repeat("\xff", 255), strings.Repeat("x", 256), strings.Repeat("y", 65536), strings.Repeat("z", api.MaxRecord-1), strings.Repeat("z", api.MaxRecord)} {
			b, err := frame.Append([]byte(before), []byte(body))
			if err != api.OK || string(b) != before+framed(body) || len(b) != len(before)+frame.Len(len(body)) {
				t.Error(before, len(body), len(b), err)
			}
			if got, at, err := frame.Next(b, len(before)); string(got) != body || at != len(b) || err != api.OK {
				t.Error(before, len(body), len(got), at, err)
			}
		}
		for _, n := range []int{api.MaxRecord + 1, api.MaxRecord + 2, 2 * api.MaxRecord} {
			if b, err := frame.Append([]byte(before), make([]byte, n)); b != nil || err != api.ErrTooLong {
				t.Error(n, len(b), err)
			}
		}
	}
	if b, err := frame.Append(nil, []byte("abc")); string(b[:4]) != "\x00\x00\x00\x03" || string(b[8:]) != "abc" || err != api.OK {
		t.Error(b, err)
	}
	if b, err := frame.Append(nil, nil); string(b) != framed("") || err != api.OK {
		t.Error(b, err)
	}
}

func TestNextErrors(t *testing.T) {
	whole := framed("abc")
	over, limit := big(api.MaxRecord+1), big(api.MaxRecord)
	wrong := strings.Repeat("\x00", 4)
	for _, c := range []struct {
		b    string
		at   int
		want api.Errno
	}{
		{whole, 12, api.ErrRange}, {whole, -1, api.ErrRange}, {whole, math.MaxInt, api.ErrRange}, {whole, math.MinInt, api.ErrRange}, {"", 1, api.ErrRange}, {"", -1, api.ErrRange},
		{"", 0, api.ErrTruncated}, {whole, 11, api.ErrTruncated}, {whole[:7], 0, api.ErrTruncated}, {whole + whole[:7], 11, api.ErrTruncated}, {"\xff\xff\xff\xff\xff\xff\xff", 0, api.ErrTruncated},
		{over + wrong, 0, api.ErrTooLong}, {over + wrong + whole, 0, api.ErrTooLong}, {"\xff\xff\xff\xff\xff\xff\xff\xff", 0, api.ErrTooLong}, {"\x80\x00\x00\x00\x00\x00\x00\x00", 0, api.ErrTooLong}, {whole + over + wrong, 11, api.ErrTooLong},
		{over + wrong + strings.Repeat("x", api.MaxRecord+1), 0, api.ErrTooLong},
		{limit + wrong, 0, api.ErrTruncated}, {limit + wrong + strings.Repeat("x", api.MaxRecord-1), 0, api.ErrTruncated}, {whole[:8], 0, api.ErrTruncated}, {whole[:10], 0, api.ErrTruncated}, {"\x00\x00\x00\x01" + wrong, 0, api.ErrTruncated},
		{limit + wrong + strings.Repeat("x", api.MaxRecord), 0, api.ErrChecksum}, {"\x00\x00\x00\x00\x00\x00\x00\x00", 0, api.ErrChecksum}, {whole[:4] + wrong + "abc", 0, api.ErrChecksum}, {whole[:10] + "d", 0, api.ErrChecksum}, {whole, 1, api.ErrTruncated}, {whole, 3, api.ErrTooLong},
		{"\x00\x00\x00\x03" + big(sum([]byte("abc"))) + "abc", 0, api.ErrChecksum},
		{"\x00\x00\x00\x02" + whole[4:], 0, api.ErrChecksum}, {"\x00\x00\x00\x04" + whole[4:] + "d", 0, api.ErrChecksum}, {"\x00\x00\x00\x04" + whole[4:], 0, api.ErrTruncated},
	} {
		if body, at, err := frame.Next([]byte(c.b), c.at); body != nil || at != 0 || err != c.want {
			t.Errorf("%.30q of %d bytes at %d: %q %d %d", c.b, len(c.b), c.at, body, at, err)
		}
	}
}

func TestNextAtOffsets(t *testing.T) {
	b := []byte("x" + framed("abc") + framed("") + framed("d") + "yz")
	for _, c := range []struct {
		at    int
		body  string
		after int
	}{{1, "abc", 12}, {12, "", 20}, {20, "d", 29}} {
		if body, after, err := frame.Next(b, c.at); string(body) != c.body || after != c.after || err != api.OK {
			t.Error(c, body, after, err)
		}
	}
}

func TestScan(t *testing.T) {
	abc, none, d := framed("abc"), framed(""), framed("d")
	for _, c := range []struct {
		b    string
		want []string
		at   int
	}{
		{"", nil, 0}, {abc, []string{"abc"}, 11}, {none, []string{""}, 8}, {abc + none + d, []string{"abc", "", "d"}, 28}, {d + d + d, []string{"d", "d", "d"}, 27},
		{abc + "1234567", []string{"abc"}, 11}, {abc + "12345678", []string{"abc"}, 11}, {"x" + abc, nil, 0}, {abc + "x" + d, []string{"abc"}, 11},
		{abc + "\x00\x00\x00\x00\x00\x00\x00\x00" + d, []string{"abc"}, 11}, {abc + none + d[:8] + "e" + abc, []string{"abc", ""}, 19}, {abc + big(api.MaxRecord+1) + "\x00\x00\x00\x00", []string{"abc"}, 11},
	} {
		if got, at := frame.Scan([]byte(c.b)); !sameBodies(got, c.want) || at != c.at {
			t.Errorf("%q: %q %d", c.b, got, at)
		}
	}
	if got, at := frame.Scan(nil); len(got) != 0 || at != 0 {
		t.Error(got, at)
	}
}

func TestTornEnds(t *testing.T) {
	next := random(2)
	for range 100 {
		var bodies []string
		for range next(6) {
			bodies = append(bodies, string(someBytes(next, 30)))
		}
		b, ends := appended(t, bodies)
		for n := range len(b) + 1 {
			whole, at := 0, 0
			for whole < len(ends) && ends[whole] <= n {
				at = ends[whole]
				whole++
			}
			if got, end := frame.Scan(b[:n]); !sameBodies(got, bodies[:whole]) || end != at {
				t.Fatal(bodies, n, got, end)
			}
		}
	}
}

func TestManyFrames(t *testing.T) {
	one, _ := frame.Append(nil, []byte("abc"))
	bodies, at := frame.Scan(bytes.Repeat(one, 100000))
	if len(bodies) != 100000 || at != 1100000 || string(bodies[99999]) != "abc" {
		t.Error(len(bodies), at)
	}
}

func TestDamage(t *testing.T) {
	next := random(3)
	for _, body := range []string{"", "\x00", "a", "abc", string(someBytes(next, 300)), strings.Repeat("\x00", 200), strings.Repeat("\xff", 200)} {
		before, _ := frame.Append(nil, []byte("before"))
		b, _ := frame.Append(before, []byte(body))
		b, _ = frame.Append(b, []byte("after"))
		end := len(before) + frame.Len(len(body))
		for i := len(before) + 4; i < end; i++ {
			for bit := range 8 {
				b[i] ^= 1 << bit
				if got, at, err := frame.Next(b, len(before)); got != nil || at != 0 || err != api.ErrChecksum {
					t.Fatal(len(body), i, bit, err)
				}
				if got, at := frame.Scan(b); !sameBodies(got, []string{"before"}) || at != len(before) {
					t.Fatal(len(body), i, bit, at)
				}
				b[i] ^= 1 << bit
			}
		}
		if got, at := frame.Scan(b); !sameBodies(got, []string{"before", body, "after"}) || at != len(b) {
			t.Error(len(body), at)
		}
	}
}

func TestArgumentsAreKept(t *testing.T) {
	const rest = "the array after the bytes"
	for _, before := range []string{"", "x", framed("abc")} {
		for _, body := range []string{"", "a", strings.Repeat("b", 100)} {
			whole, bodyWhole := []byte(before+rest), []byte(body+rest)
			b := whole[:len(before)]
			first, _ := frame.Append(b, bodyWhole[:len(body)])
			second, _ := frame.Append(b, bodyWhole[:len(body)])
			clear(first[:cap(first)])
			if string(whole) != before+rest || string(bodyWhole) != body+rest || string(second) != before+framed(body) {
				t.Error("memory is shared", before, body, whole, bodyWhole)
			}
		}
	}
	if _, err := frame.Append([]byte("x"), make([]byte, api.MaxRecord+1)); err != api.ErrTooLong {
		t.Error(err)
	}
}

func TestBodiesAreNewMemory(t *testing.T) {
	b := []byte(framed("abc") + framed("def"))
	kept := slices.Clone(b)
	first, _, _ := frame.Next(b, 0)
	bodies, _ := frame.Scan(b)
	clear(first[:cap(first)])
	clear(bodies[0][:cap(bodies[0])])
	if !bytes.Equal(b, kept) || string(bodies[1]) != "def" {
		t.Error("memory is shared", b, bodies)
	}
	clear(b)
	if string(bodies[1]) != "def" {
		t.Error("a body shares memory with the bytes", bodies)
	}
}
