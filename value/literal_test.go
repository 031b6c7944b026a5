package value_test

import (
	"strconv"
	"strings"
	"testing"

	"bitemporal/api"
	"bitemporal/value"
)

func TestLiteral(t *testing.T) {
	for s, v := range map[string]api.Value{
		"NULL": value.Null(), "TRUE": value.Bool(true), "FALSE": value.Bool(false),
		"0": value.Int(0), "7": value.Int(7), "-7": value.Int(-7), "1000": value.Int(1000),
		"1125899906842624": value.Int(most), "-1125899906842624": value.Int(-most),
		"''": value.Text(""), "' '": value.Text(" "), "'a b'": value.Text("a b"), "'NULL'": value.Text("NULL"), "'7'": value.Text("7"),
		"''''": value.Text("'"), "''''''": value.Text("''"), "'it''s'": value.Text("it's"), "'''a'''": value.Text("'a'"), `'\"'`: value.Text(`\"`),
		"'" + strings.Repeat("x", 200) + "'": value.Text(strings.Repeat("x", 200)), strings.Repeat("'", 402): value.Text(strings.Repeat("'", 200)),
	} {
		if got := value.Literal(v); got != s {
			t.Error(v, got)
		}
		if got, err := value.Parse(s); got != v || err != api.OK {
			t.Error(s, got, err)
		}
	}
	for _, v := range invalidValues() {
		if got := value.Literal(v); got != "" {
			t.Error(v, got)
		}
	}
}

func TestParseRejectsOtherForms(t *testing.T) {
	for _, s := range []string{
		"", " ", "null", "Null", "NULL ", " NULL", "NULLS", "NUL", "true", "True", "TRUE ", "false", "FALSE'", "T", "1 ",
		"-", "--1", "+1", "-0", "-00", "00", "007", "-07", "01125899906842625", " 1", "1_000", "0x10", "1.0", "1e3", "12a", "a12", "1-", "1 2", "٣", "９", "1\x00", "\xff", "-NULL", "-'a'",
		"'", "'a", "a'", "'''", "'a''", "''a'", "'a'b'", "'a'''b'", "'a' ", " 'a'", "'a''b", "'''''", "'''a''", "''a''", "'a'''''b'", "\"a\"", "'a''", "'a'NULL",
		"'\t'", "'\x1f'", "'\x7f'", "'a\n'", "'\x00'", "'é'", "'\x80'", "'\xff'", "''\n''",
	} {
		if got, err := value.Parse(s); got != (api.Value{}) || err != api.ErrSyntax {
			t.Errorf("%q: %v %v", s, got, err)
		}
	}
}

func TestParseRejectsOtherRanges(t *testing.T) {
	many := strings.Repeat("9", 5000)
	for _, s := range []string{
		"1125899906842625", "-1125899906842625", "1125899906842630", "9223372036854775807", "9223372036854775808", "-9223372036854775808", "-9223372036854775809",
		"18446744073709551616", "18446744073709551623", "-18446744073709551617", many, "-" + many,
	} {
		if got, err := value.Parse(s); got != (api.Value{}) || err != api.ErrRange {
			t.Error(s, got, err)
		}
	}
}

func TestParseRejectsLongTexts(t *testing.T) {
	x, q := strings.Repeat("x", 201), strings.Repeat("''", 201)
	for _, s := range []string{"'" + x + "'", "'" + q + "'", "'" + x + x + "'", "'" + x[1:] + "'''"} {
		if got, err := value.Parse(s); got != (api.Value{}) || err != api.ErrTooLong {
			t.Error(s, got, err)
		}
	}
}

func TestParseNamesTheFormFirst(t *testing.T) {
	x := strings.Repeat("x", 201)
	for _, s := range []string{
		"1125899906842625 ", "01125899906842625", "1125899906842625x", "--1125899906842625", "00" + strings.Repeat("9", 50),
		"'" + x, "'" + x + "\n'", "'\n" + x + "'", "'" + x + "'x'", "'" + x + "''", "'" + x + "' ", "'" + x + "é'",
	} {
		if got, err := value.Parse(s); got != (api.Value{}) || err != api.ErrSyntax {
			t.Error(s, got, err)
		}
	}
}

func TestParseReadsWhatLiteralWrites(t *testing.T) {
	l := validValues()
	for n := range 3000 {
		l = append(l, value.Int(n-1500), value.Int(n*n*n*40000-most), value.Text(strconv.Itoa(n)))
	}
	for _, v := range l {
		if got, err := value.Parse(value.Literal(v)); got != v || err != api.OK {
			t.Error(v, got, err)
		}
	}
}

// TestLiteralWritesWhatParseReads tries all texts of up to six bytes from a small alphabet.
func TestLiteralWritesWhatParseReads(t *testing.T) {
	const alphabet = "'a0-1\n"
	texts := []string{""}
	accepted := 0
	for len(texts[0]) < 7 {
		var longer []string
		for _, s := range texts {
			v, err := value.Parse(s)
			switch {
			case err == api.OK:
				accepted++
				if !value.Valid(v) || value.Literal(v) != s {
					t.Errorf("%q: %v", s, v)
				}
			case v != (api.Value{}) || err != api.ErrSyntax:
				t.Errorf("%q: %v %v", s, v, err)
			}
			for i := range len(alphabet) {
				longer = append(longer, s+alphabet[i:i+1])
			}
		}
		texts = longer
	}
	if want := wellFormed(6); accepted != want {
		t.Error(accepted, want)
	}
}

// wellFormed counts the literals of up to n bytes from that alphabet: numbers of the digits 0 and 1, and texts.
func wellFormed(n int) int {
	count := 0
	if n >= 1 {
		count++ // 0
	}
	for length := 1; length <= n; length++ {
		count += 1 << (length - 1) // a 1 and other digits
		if length >= 2 {
			count += 1 << (length - 2) // the same after a sign
		}
	}
	// Texts of each length of the literal: a byte of four others, or two quotes.
	texts := []int{1, 4}
	for len(texts) <= n {
		texts = append(texts, 4*texts[len(texts)-1]+texts[len(texts)-2])
	}
	for inner := 0; inner+2 <= n; inner++ {
		count += texts[inner]
	}
	return count
}
