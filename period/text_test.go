package period_test

import (
	"strconv"
	"strings"
	"testing"

	"bitemporal/api"
	"bitemporal/period"
)

func TestText(t *testing.T) {
	for _, c := range []struct {
		p    api.Period
		want string
	}{
		{api.Period{From: 0, To: 1}, "[0, 1)"},
		{api.Period{From: 3, To: 9}, "[3, 9)"},
		{api.Period{From: 10, To: 200}, "[10, 200)"},
		{api.Period{From: 3, To: api.Forever}, "[3, forever)"},
		{api.Period{From: 3, To: api.Forever - 1}, "[3, 1099511627775)"},
		{api.Period{From: api.Forever - 1, To: api.Forever}, "[1099511627775, forever)"},
		{api.Period{}, ""},
		{api.Period{From: 3, To: 3}, ""},
		{api.Period{From: 9, To: 3}, ""},
		{api.Period{From: -1, To: 3}, ""},
		{api.Period{From: 3, To: api.Forever + 1}, ""},
		{api.Period{From: api.Forever, To: api.Forever}, ""},
	} {
		if got := period.Text(c.p); got != c.want {
			t.Error(c, got)
		}
	}
}

func TestParse(t *testing.T) {
	for _, c := range []struct {
		s    string
		want api.Period
	}{
		{"[0, 1)", api.Period{From: 0, To: 1}},
		{"[3, 9)", api.Period{From: 3, To: 9}},
		{"[9, 10)", api.Period{From: 9, To: 10}},
		{"[0, forever)", api.Period{From: 0, To: api.Forever}},
		{"[3, 1099511627775)", api.Period{From: 3, To: api.Forever - 1}},
		{"[1099511627775, forever)", api.Period{From: api.Forever - 1, To: api.Forever}},
	} {
		if got, err := period.Parse(c.s); got != c.want || err != api.OK {
			t.Error(c, got, err)
		}
	}
}

func TestParseRejectsOtherForms(t *testing.T) {
	for _, s := range []string{
		"", "[", ")", "[)", "[,)", "[, )", "[3)", "[3, )", "[, 9)", "3, 9",
		"[3, 9", "3, 9)", "[3, 9]", "(3, 9)", "(3, 9]", "[[3, 9)", "[3, 9))",
		"[3,9)", "[3 9)", "[3 , 9)", "[3,  9)", "[ 3, 9)", "[3, 9 )", " [3, 9)", "[3, 9) ", "[3, 9)\n", "[3,\t9)",
		"[07, 9)", "[7, 09)", "[00, 9)", "[0, 00)", "[-1, 9)", "[3, -9)", "[-0, 9)", "[+3, 9)", "[3, +9)",
		"[3, 9, 12)", "[3, 9)[3, 9)", "[3.0, 9)", "[0x3, 9)", "[3_0, 99)", "[1e1, 99)", "[a, 9)", "[3, b)", "[3/, 9)", "[3, 9:)", "[:, 9)",
		"[forever, 9)", "[forever, forever)", "[3, Forever)", "[3, FOREVER)", "[3, foreve)", "[3, forever )", "[3, foreverr)", "[3, )forever)",
		"[٣, 9)", "[3, ９)", "[3, 9\x00)", "[\xff, 9)",
	} {
		if got, err := period.Parse(s); got != (api.Period{}) || err != api.ErrSyntax {
			t.Errorf("%q: %v %v", s, got, err)
		}
	}
}

func TestParseRejectsOtherRanges(t *testing.T) {
	long := "1" + strings.Repeat("0", 5000)
	for _, s := range []string{
		"[9, 7)", "[3, 3)", "[0, 0)", "[10, 9)",
		"[3, 1099511627776)", "[1099511627776, forever)", "[1099511627776, 1099511627777)", "[3, 1099511627777)",
		"[3, 18446744073709551625)", "[18446744073709551619, forever)", "[18446744073709551619, 9)", "[3, 9223372036854775808)",
		"[3, " + long + ")", "[" + long + ", 9)", "[" + long + ", forever)", "[" + long + ", " + long + "0)",
	} {
		if got, err := period.Parse(s); got != (api.Period{}) || err != api.ErrRange {
			t.Error(s, got, err)
		}
	}
}

func TestParseNamesTheFormFirst(t *testing.T) {
	for _, s := range []string{
		"[9, 07)", "[1099511627776, x)", "[1099511627776, 7", "[9, 7]", "[9, 7) ", "[1099511627776, 07)", "[07, 1099511627776)", "[3, 01099511627776)",
	} {
		if got, err := period.Parse(s); got != (api.Period{}) || err != api.ErrSyntax {
			t.Error(s, got, err)
		}
	}
}

func TestParseReadsWhatTextWrites(t *testing.T) {
	for _, p := range append(near(), far()...) {
		got, err := period.Parse(period.Text(p))
		if period.Valid(p) && (got != p || err != api.OK) || !period.Valid(p) && err != api.ErrSyntax {
			t.Error(p, got, err)
		}
	}
}

func TestTextWritesWhatParseReads(t *testing.T) {
	for from := range 12 {
		for to := range 12 {
			s := "[" + strconv.Itoa(from) + ", " + strconv.Itoa(to) + ")"
			got, err := period.Parse(s)
			if from < to && period.Text(got) != s || from >= to && err != api.ErrRange {
				t.Error(s, got, err)
			}
		}
	}
}
