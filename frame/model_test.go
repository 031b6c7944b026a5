package frame_test

import (
	"testing"

	"bitemporal/api"
	"bitemporal/frame"
)

// random returns a function that continues a fixed sequence of numbers from 0 to n - 1.
func random(seed uint64) func(n int) int {
	return func(n int) int {
		seed = seed*6364136223846793005 + 1442695040888963407
		return int(seed >> 33 % uint64(n))
	}
}

// someBytes returns fewer than n bytes.
func someBytes(next func(n int) int, n int) []byte {
	b := make([]byte, next(n))
	for i := range b {
		b[i] = byte(next(256))
	}
	return b
}

// sum is the definition of the checksum.
func sum(b []byte) uint32 {
	register := uint32(0xffffffff)
	for _, c := range b {
		register ^= uint32(c)
		for range 8 {
			out := register & 1
			register >>= 1
			if out == 1 {
				register ^= 0x82f63b78
			}
		}
	}
	return ^register
}

// big returns the four bytes of a number, the most significant one first.
func big(n uint32) string {
	return string([]byte{byte(n >> 24), byte(n >> 16), byte(n >> 8), byte(n)})
}

// framed is the definition of a frame.
func framed(body string) string {
	length := big(uint32(len(body)))
	return length + big(sum([]byte(length+body))) + body
}

// appended returns the frames of bodies, and the offsets at which they end.
func appended(t *testing.T, bodies []string) ([]byte, []int) {
	var b []byte
	var ends []int
	for _, body := range bodies {
		longer, err := frame.Append(b, []byte(body))
		if err != api.OK || string(longer) != string(b)+framed(body) {
			t.Fatal(len(b), len(body), len(longer), err)
		}
		b = longer
		ends = append(ends, len(b))
	}
	return b, ends
}

// sameBodies reports whether Scan has returned bodies.
func sameBodies(got [][]byte, want []string) bool {
	for i := range min(len(got), len(want)) {
		if string(got[i]) != want[i] {
			return false
		}
	}
	return len(got) == len(want)
}
