package lexer

import (
	"strings"

	"bitemporal/api"
)

// keywords are the keywords in ascending order, each between two spaces.
const keywords = " ADD AFTER ALL ALTER AND AS BEFORE BEGIN BETWEEN BOOL BY CHECK COALESCE COMMIT CONTAINS COUNT CREATE DEFAULT DELETE DESC DISTINCT DROP DURING EQUALS EXCEPT FALSE FINISHEDBY FINISHES FOREIGN FOREVER FROM GROUP HOLD IF INSERT INT INTERSECT INTO IS JOIN KEY LEFT LENGTH LIMIT MAX MEETS METBY MIN NONSEQUENCED NOT NOW NULL OF ON OR ORDER OVERLAPPEDBY OVERLAPS PRIMARY PRUNE REFERENCES RELEASE RENAME RETAIN ROLLBACK SELECT SEQUENCED SET STARTEDBY STARTS SUM SYSTEM SYSTEMFROM SYSTEMTO TABLE TEXT TO TRUE TX UNDER UNION UPDATE VALID VALIDFROM VALIDTO VALUES WHERE "

// Words returns the keywords in ascending order.
func Words() []string { return strings.Fields(keywords) }

// Word reports whether s, in any case, is a keyword.
func Word(s string) bool {
	return end(s, 0, isLetter) == len(s) && strings.Contains(keywords, " "+strings.ToUpper(s)+" ")
}

// Name reports whether s is a name.
func Name(s string) bool {
	return s != "" && beginsWord(s[0]) && end(s, 0, continuesWord) == len(s) && named(s) == api.OK && !Word(s)
}

// named returns the error of a word that is no keyword as a name.
func named(s string) api.Errno {
	if s != strings.ToLower(s) {
		return api.ErrSyntax
	}
	if len(s) > api.MaxName {
		return api.ErrTooLong
	}
	return api.OK
}

// end returns the end of the bytes of s from at on for which is holds.
func end(s string, at int, is func(c byte) bool) int {
	for at < len(s) && is(s[at]) {
		at++
	}
	return at
}

func afterBlanks(s string, at int) int { return end(s, at, isBlank) }

func isBlank(c byte) bool { return c == ' ' || c == '\t' || c == '\n' }

func isDigit(c byte) bool { return '0' <= c && c <= '9' }

func isLetter(c byte) bool { return 'a' <= c && c <= 'z' || 'A' <= c && c <= 'Z' }

func beginsWord(c byte) bool { return isLetter(c) || c == '_' }

func continuesWord(c byte) bool { return beginsWord(c) || isDigit(c) }
