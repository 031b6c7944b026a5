package codec

import (
	"bitemporal/api"
	"bitemporal/value"
)

// The first byte of a value in a key.
const (
	keyNull = iota + 1
	keyInt
	keyText
	keyBool
)

// endOfText precedes every byte of a text, so that the beginning of a longer text precedes it.
const endOfText = 0

// Key returns bytes that are ordered as rows of the same kinds are.
func Key(row []api.Value) []byte {
	var key []byte
	for _, v := range row {
		key = appendKey(key, v)
	}
	return key
}

func appendKey(key []byte, v api.Value) []byte {
	switch v.Kind {
	case api.KindInt:
		return appendOrdered(append(key, keyInt), v.Int)
	case api.KindText:
		return append(appendBytes(append(key, keyText), v.Text), endOfText)
	case api.KindBool:
		if v == value.Bool(true) {
			return append(key, keyBool, 1)
		}
		return append(key, keyBool, 0)
	}
	return append(key, keyNull)
}

// appendOrdered appends eight bytes that are ordered as integers are.
func appendOrdered(key []byte, n int) []byte {
	shifted := uint64(n) + 1<<63
	for bits := 56; bits >= 0; bits -= 8 {
		key = append(key, byte(shifted>>bits))
	}
	return key
}
