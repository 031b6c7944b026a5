package schema

import (
	"strings"

	"bitemporal/api"
)

// keywords are the words that are not names, each between two spaces.
const keywords = " add after all alter and as before begin between bool by check coalesce commit contains count create default delete desc distinct drop during equals except false finishedby finishes foreign forever from group hold if insert int intersect into is join key left length limit max meets metby min nonsequenced not now null of on or order overlappedby overlaps primary prune references release rename retain rollback select sequenced set startedby starts sum system systemfrom systemto table text to true tx under union update valid validfrom validto values where "

// Name reports whether s is a valid name.
func Name(s string) bool {
	if s == "" || len(s) > api.MaxName || isDigit(rune(s[0])) {
		return false
	}
	for _, c := range s {
		if !isDigit(c) && !isLower(c) && c != '_' {
			return false
		}
	}
	return !strings.Contains(keywords, " "+s+" ")
}

func isDigit(c rune) bool { return '0' <= c && c <= '9' }

func isLower(c rune) bool { return 'a' <= c && c <= 'z' }
