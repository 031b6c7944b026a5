package codec_test

import (
	"slices"
	"testing"

	"bitemporal/api"
	"bitemporal/codec"
)

// checkReading compares all reading functions with their definitions, and what they have read with what is put for it.
func checkReading(t *testing.T, b []byte, at int) {
	agrees := func(name string, same bool, after, wantAfter int, err, wantErr api.Errno, put []byte) {
		if !same || after != wantAfter || err != wantErr {
			t.Fatalf("%s of % x at %d: %d %d", name, b, at, after, err)
		}
		if err == api.OK && string(b[at:after]) != string(put) {
			t.Fatalf("%s of % x at %d: % x", name, b, at, put)
		}
	}
	n, after, err := codec.Int(b, at)
	wantN, wantAfter, want := readInt(b, at)
	agrees("Int", n == wantN, after, wantAfter, err, want, codec.PutInt(nil, n))
	for _, limit := range []int{-1, 0, 1, 3, 1000} {
		s, after, err := codec.Text(b, at, limit)
		wantS, wantAfter, want := readText(b, at, limit)
		agrees("Text", s == wantS, after, wantAfter, err, want, codec.PutText(nil, s))
	}
	v, after, err := codec.Value(b, at)
	wantV, wantAfter, want := readValue(b, at)
	agrees("Value", v == wantV, after, wantAfter, err, want, codec.PutValue(nil, v))
	r, after, err := codec.Row(b, at)
	wantR, wantAfter, want := readRow(b, at)
	agrees("Row", slices.Equal(r, wantR), after, wantAfter, err, want, codec.PutRow(nil, r))
	p, after, err := codec.Period(b, at)
	wantP, wantAfter, want := readPeriod(b, at)
	agrees("Period", p == wantP, after, wantAfter, err, want, codec.PutPeriod(nil, p))
}

// TestAllShortInputs tries all lists of up to four bytes from a small alphabet, at each offset.
func TestAllShortInputs(t *testing.T) {
	alphabet := []byte{0, 1, 2, 3, 4, 5, 6, 24, 26, 31, 'a', 126, 127, 128, 129, 255}
	inputs := [][]byte{{}}
	for len(inputs[0]) <= 4 {
		var longer [][]byte
		for _, b := range inputs {
			for at := -1; at <= len(b)+1; at++ {
				checkReading(t, b, at)
			}
			for _, c := range alphabet {
				longer = append(longer, append(slices.Clone(b), c))
			}
		}
		inputs = longer
	}
}

// TestDamagedInputs changes, removes and inserts bytes of encodings.
func TestDamagedInputs(t *testing.T) {
	next := random(3)
	l := integers()
	for range 30000 {
		var b []byte
		for range 3 {
			switch next(5) {
			case 0:
				b = codec.PutInt(b, l[next(len(l))])
			case 1:
				b = codec.PutValue(b, number(l[next(len(l))]))
			case 2:
				b = codec.PutRow(b, someRow(next, 14))
			case 3:
				b = codec.PutPeriod(b, api.Period{From: l[next(len(l))], To: l[next(len(l))]})
			case 4:
				b = codec.PutPeriod(b, api.Period{From: next(100), To: 100 + next(100)})
			}
		}
		for range next(3) {
			i := next(len(b))
			switch next(3) {
			case 0:
				b[i] ^= 1 << next(8)
			case 1:
				b = slices.Insert(b, i, byte(next(256)))
			case 2:
				b = b[:i+1]
			}
		}
		for range 5 {
			checkReading(t, b, next(len(b)+1))
		}
		checkReading(t, b, 0)
	}
}

// puts are calls of all functions named Put, with valid and with invalid arguments.
func puts() []func(b []byte) []byte {
	l := []func(b []byte) []byte{}
	for _, n := range integers() {
		l = append(l,
			func(b []byte) []byte { return codec.PutInt(b, n) },
			func(b []byte) []byte { return codec.PutPeriod(b, api.Period{From: n, To: -n}) })
	}
	for _, v := range append(values(), invalidValues()...) {
		l = append(l,
			func(b []byte) []byte { return codec.PutText(b, v.Text) },
			func(b []byte) []byte { return codec.PutValue(b, v) },
			func(b []byte) []byte { return codec.PutRow(b, row(v, v)) })
	}
	return append(l,
		func(b []byte) []byte { return codec.PutRow(b, nil) },
		func(b []byte) []byte { return codec.PutRow(b, make([]api.Value, 1000)) })
}

func TestPutDoesNotChangeTheBuffer(t *testing.T) {
	const rest = "the array after the bytes"
	for i, put := range puts() {
		for _, before := range []string{"", "x", "\x80\xff\x00"} {
			whole := []byte(before + rest)
			b := whole[:len(before)]
			first := put(b)
			if string(whole) != before+rest {
				t.Error("an array was changed", i, whole)
			}
			if string(first) != before+string(put(nil)) {
				t.Error("other bytes were appended", i, first)
			}
			second := put(b)
			clear(first[:cap(first)])
			if string(whole) != before+rest || string(second) != before+string(put(nil)) {
				t.Error("results share memory", i, whole, second)
			}
		}
	}
}

func TestArgumentsAreKept(t *testing.T) {
	whole := row(number(1), word("a"), truth(1), number(77))
	r := whole[:3]
	b, key := codec.PutRow(nil, r), codec.Key(r)
	before := string(b)
	read, _, err := codec.Row(b, 0)
	if err != api.OK || string(b) != before || !slices.Equal(whole, row(number(1), word("a"), truth(1), number(77))) {
		t.Error("an argument was changed", b, whole)
	}
	clear(b)
	clear(key[:cap(key)])
	if !slices.Equal(read, r) || string(codec.PutRow(nil, r)) != before || string(codec.Key(r)) != "\x02\x80\x00\x00\x00\x00\x00\x00\x01\x03a\x00\x04\x01" {
		t.Error("a result shares memory", read)
	}
	clear(read[:cap(read)])
	if !slices.Equal(r, row(number(1), word("a"), truth(1))) {
		t.Error("a result shares memory", r)
	}
	text := []byte("\x04ab")
	s, _, _ := codec.Text(text, 0, 2)
	clear(text)
	if s != "ab" {
		t.Error("a result shares memory", s)
	}
}

// TestKeysOfInvalidValues checks that Key returns; its result is not specified for them.
func TestKeysOfInvalidValues(t *testing.T) {
	for _, v := range invalidValues() {
		if codec.Key(row(v, null(), v)) == nil {
			t.Error(v)
		}
	}
}
