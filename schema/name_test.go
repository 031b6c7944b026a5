package schema_test

import (
	"strings"
	"testing"

	"bitemporal/schema"
)

func TestName(t *testing.T) {
	for s, want := range map[string]bool{
		"a": true, "z": true, "_": true, "__": true, "x_1": true, "_1": true, "a0": true, "a9": true, "z_": true,
		"selects": true, "select_": true, "_select": true, "selec": true, "elect": true, "or1": true, "nul": true, "validfro": true, "where_": true, "ad": true,
		"": false, "0": false, "9": false, "1a": false, "0_": false, "A": false, "Z": false, "aB": false, "Ab": false, "SELECT": false, "Select": false,
		"select": false, "add": false, "where": false, "values": false, "tx": false, "true": false, "a b": false, " ": false, " a": false, "a ": false,
		"add after": false, "a-b": false, "a.b": false, "a'": false, "`": false, "{": false, "@": false, "[": false, "/": false, ":": false, "a/": false, "a:": false,
		"ä": false, "aä": false, "a\x00": false, "\n": false, "a\n": false, "\x80": false, "a\xff": false, "ａ": false, "a\u0661": false,
		strings.Repeat("a", 24): true, strings.Repeat("a", 25): false, "_" + strings.Repeat("0", 23): true, strings.Repeat("a", 1<<16): false,
	} {
		if got := schema.Name(s); got != want {
			t.Errorf("%q %v", s, got)
		}
	}
}

func TestNameOfKeywords(t *testing.T) {
	l := keywords()
	for _, w := range l {
		if schema.Name(w) || schema.Name(strings.ToUpper(w)) || !schema.Name(w+"_") || !schema.Name("_"+w) || !schema.Name(w+"0") {
			t.Error(w)
		}
		for i := range len(w) {
			for _, s := range []string{w[:i], w[i:], w[:i] + w[i+1:], w[:i] + "_" + w[i:], w[:i] + " " + w[i:], w[:i] + "x" + w[i+1:]} {
				if got := schema.Name(s); got != isName(s, l) {
					t.Errorf("%q %v", s, got)
				}
			}
		}
		for _, v := range l {
			if s := w + v; schema.Name(s) != isName(s, l) || schema.Name(w+" "+v) {
				t.Errorf("%q %q", w, v)
			}
		}
	}
}

func TestNameOfAllShortStrings(t *testing.T) {
	l := keywords()
	for i := range 256 * 257 {
		s := string([]byte{byte(i), byte(i >> 8)})
		if i >= 256*256 {
			s = s[:1]
		}
		if got := schema.Name(s); got != isName(s, l) {
			t.Errorf("%q %v", s, got)
		}
	}
}

func TestNameOfRandomStrings(t *testing.T) {
	next, l := random(1), keywords()
	names := 0
	for range 200000 {
		b := make([]byte, next(28))
		for i := range b {
			b[i] = "abcxyz_0189"[next(11)]
		}
		if len(b) > 0 && next(4) == 0 {
			b[next(len(b))] = byte(next(256))
		}
		s := string(b)
		if got := schema.Name(s); got != isName(s, l) {
			t.Errorf("%q %v", s, got)
		}
		if isName(s, l) {
			names++
		}
	}
	if names < 20000 {
		t.Error("only", names, "names")
	}
}
