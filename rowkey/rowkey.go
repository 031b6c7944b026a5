// Package rowkey turns rows into keys of maps, for the layers that collect rows.
package rowkey

import (
	"strconv"

	"bitemporal/api"
)

// Of returns a string that two rows have in common exactly if they are the same (tuple.Compare), whether their values are valid or not. The encoding of package codec would not do: it has none for values that are not valid.
func Of(row []api.Value) string {
	var key []byte
	for _, v := range row {
		key = appendNumber(key, v.Kind)
		key = appendNumber(key, v.Int)
		key = appendNumber(key, len(v.Text))
		key = append(key, v.Text...)
	}
	return string(key)
}

// appendNumber appends a number and a byte that shows where it ends.
func appendNumber(key []byte, n int) []byte {
	return append(strconv.AppendInt(key, int64(n), 10), ',')
}
