package period

import (
	"strconv"
	"strings"

	"bitemporal/api"
)

const forever = "forever"

// Text returns the text of a period, or the empty string if it is not valid.
func Text(p api.Period) string {
	if !Valid(p) {
		return ""
	}
	to := forever
	if p.To != api.Forever {
		to = strconv.Itoa(p.To)
	}
	return "[" + strconv.Itoa(p.From) + ", " + to + ")"
}

// Parse returns the period with a text.
func Parse(s string) (api.Period, api.Errno) {
	first, second, whole := bounds(s)
	if !whole {
		return api.Period{}, api.ErrSyntax
	}
	from, isNumber := number(first)
	if !isNumber {
		return api.Period{}, api.ErrSyntax
	}
	if second == forever {
		return checked(api.Period{From: from, To: api.Forever})
	}
	to, isNumber := number(second)
	if !isNumber {
		return api.Period{}, api.ErrSyntax
	}
	// The end of time has a word of its own, so that a text has only one form.
	if to == api.Forever {
		return api.Period{}, api.ErrRange
	}
	return checked(api.Period{From: from, To: to})
}

// bounds returns the texts of both bounds, and whether everything around them is as required.
func bounds(s string) (first, second string, whole bool) {
	s, opened := strings.CutPrefix(s, "[")
	s, closed := strings.CutSuffix(s, ")")
	first, second, divided := strings.Cut(s, ", ")
	return first, second, opened && closed && divided
}

// number returns the number that decimal digits without leading zeros stand for, and whether s has this form. Numbers of Forever or more count as Forever, since there is no bound on their length.
func number(s string) (int, bool) {
	if s == "" || s[0] == '0' && s != "0" {
		return 0, false
	}
	n := 0
	for i := range len(s) {
		if s[i] < '0' || s[i] > '9' {
			return 0, false
		}
		n = min(10*n+int(s[i]-'0'), api.Forever)
	}
	return n, true
}

// checked returns p if it is valid.
func checked(p api.Period) (api.Period, api.Errno) {
	if !Valid(p) {
		return api.Period{}, api.ErrRange
	}
	return p, api.OK
}
