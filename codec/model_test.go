package codec_test

import (
	"math"
	"math/big"
	"slices"
	"strings"

	"bitemporal/api"
)

// random returns a function that continues a fixed sequence of numbers from 0 to n - 1.
func random(seed uint64) func(n int) int {
	return func(n int) int {
		seed = seed*6364136223846793005 + 1442695040888963407
		return int(seed >> 33 % uint64(n))
	}
}

func null() api.Value                { return api.Value{} }
func number(n int) api.Value         { return api.Value{Kind: api.KindInt, Int: n} }
func word(s string) api.Value        { return api.Value{Kind: api.KindText, Text: s} }
func truth(n int) api.Value          { return api.Value{Kind: api.KindBool, Int: n} }
func row(l ...api.Value) []api.Value { return l }

// integers are integers at which the number of groups changes, and others.
func integers() []int {
	l := []int{0, 1, 2, 10, 100, 1000, api.MaxNumber, api.MaxNumber + 1, api.Forever, math.MaxInt, math.MaxInt - 1, math.MaxInt32, math.MaxUint32}
	for bits := 1; bits < 63; bits++ {
		l = append(l, 1<<bits-1, 1<<bits, 1<<bits+1)
	}
	for _, n := range l {
		l = append(l, -n, -n-1)
	}
	slices.Sort(l)
	return slices.Compact(l)
}

// values are valid values of all kinds, in ascending order.
func values() []api.Value {
	long := strings.Repeat("x", api.MaxText)
	return []api.Value{
		null(),
		number(-api.MaxNumber), number(-api.MaxNumber + 1), number(-1 << 32), number(-65536), number(-257), number(-256), number(-255), number(-2), number(-1), number(0),
		number(1), number(2), number(63), number(64), number(127), number(128), number(255), number(256), number(1 << 32), number(api.MaxNumber - 1), number(api.MaxNumber),
		word(""), word(" "), word("  "), word(" a"), word("1"), word("A"), word("a"), word("a "), word("a  "), word("aa"), word("ab"), word("a~"), word("b"), word(long[1:]), word(long), word("~"), word("~~"),
		truth(0), truth(1),
	}
}

// invalidValues break each condition of a valid value.
func invalidValues() []api.Value {
	return []api.Value{
		{Int: 1}, {Text: "a"}, number(api.MaxNumber + 1), number(math.MinInt), {Kind: api.KindInt, Int: 3, Text: "a"},
		word("\n"), word("\x7f"), word("é"), word(strings.Repeat("x", api.MaxText+1)), {Kind: api.KindText, Int: 1, Text: "a"},
		truth(2), truth(-1), {Kind: api.KindBool, Int: 1, Text: "a"}, {Kind: 4}, {Kind: -1, Int: 5, Text: "a"}, {Kind: math.MaxInt}, {Kind: math.MinInt},
	}
}

// someRow returns a row of up to so many valid values.
func someRow(next func(n int) int, most int) []api.Value {
	l := values()
	r := []api.Value{}
	for range next(most + 1) {
		r = append(r, l[next(len(l))])
	}
	return r
}

// groups is the definition of the encoding of an integer: the groups of its zigzag number.
func groups(n int) string {
	z := new(big.Int).Mul(big.NewInt(int64(n)), big.NewInt(2))
	if n < 0 {
		z.Neg(z).Sub(z, big.NewInt(1))
	}
	var b []byte
	for {
		rest, group := new(big.Int).DivMod(z, big.NewInt(128), new(big.Int))
		if rest.Sign() == 0 {
			return string(append(b, byte(group.Int64())))
		}
		b = append(b, byte(group.Int64()+128))
		z = rest
	}
}

// encoded is the definition of the encoding of a valid value.
func encoded(v api.Value) string {
	switch v.Kind {
	case api.KindInt:
		return "\x01" + groups(v.Int)
	case api.KindText:
		return "\x02" + groups(len(v.Text)) + v.Text
	case api.KindBool:
		return []string{"\x03", "\x04"}[v.Int]
	}
	return "\x00"
}

// encodedRow is the definition of the encoding of a valid row.
func encodedRow(r []api.Value) string {
	s := groups(len(r))
	for _, v := range r {
		s += encoded(v)
	}
	return s
}

// readInt is the definition of Int.
func readInt(b []byte, at int) (int, int, api.Errno) {
	if at < 0 || at > len(b) {
		return 0, 0, api.ErrRange
	}
	z, factor := new(big.Int), big.NewInt(1)
	for count := 1; ; count++ {
		if at == len(b) {
			return 0, 0, api.ErrTruncated
		}
		c := b[at]
		at++
		if count == 10 && c > 1 {
			return 0, 0, api.ErrSyntax
		}
		if count > 1 && c == 0 {
			return 0, 0, api.ErrSyntax
		}
		z.Add(z, new(big.Int).Mul(factor, big.NewInt(int64(c%128))))
		factor.Mul(factor, big.NewInt(128))
		if c < 128 {
			half, odd := new(big.Int).DivMod(z, big.NewInt(2), new(big.Int))
			if odd.Sign() != 0 {
				half.Neg(half).Sub(half, big.NewInt(1))
			}
			return int(half.Int64()), at, api.OK
		}
	}
}

// readText is the definition of Text.
func readText(b []byte, at, most int) (string, int, api.Errno) {
	n, at, err := readInt(b, at)
	if err != api.OK {
		return "", 0, err
	}
	if n < 0 {
		return "", 0, api.ErrSyntax
	}
	if n > 0 && n > most {
		return "", 0, api.ErrTooLong
	}
	if len(b)-at < n {
		return "", 0, api.ErrTruncated
	}
	return string(b[at : at+n]), at + n, api.OK
}

// readValue is the definition of Value.
func readValue(b []byte, at int) (api.Value, int, api.Errno) {
	if at < 0 || at > len(b) {
		return api.Value{}, 0, api.ErrRange
	}
	if at == len(b) {
		return api.Value{}, 0, api.ErrTruncated
	}
	switch b[at] {
	case 0:
		return null(), at + 1, api.OK
	case 1:
		n, after, err := readInt(b, at+1)
		if err != api.OK {
			return api.Value{}, 0, err
		}
		if n < -api.MaxNumber || n > api.MaxNumber {
			return api.Value{}, 0, api.ErrRange
		}
		return number(n), after, api.OK
	case 2:
		s, after, err := readText(b, at+1, 200)
		if err != api.OK {
			return api.Value{}, 0, err
		}
		for i := range len(s) {
			if s[i] < 32 || s[i] > 126 {
				return api.Value{}, 0, api.ErrSyntax
			}
		}
		return word(s), after, api.OK
	case 3:
		return truth(0), at + 1, api.OK
	case 4:
		return truth(1), at + 1, api.OK
	}
	return api.Value{}, 0, api.ErrSyntax
}

// readRow is the definition of Row.
func readRow(b []byte, at int) ([]api.Value, int, api.Errno) {
	n, at, err := readInt(b, at)
	if err != api.OK {
		return nil, 0, err
	}
	if n < 0 {
		return nil, 0, api.ErrSyntax
	}
	if n > 12 {
		return nil, 0, api.ErrTooLong
	}
	var r []api.Value
	for range n {
		v, after, err := readValue(b, at)
		if err != api.OK {
			return nil, 0, err
		}
		r, at = append(r, v), after
	}
	return r, at, api.OK
}

// readPeriod is the definition of Period.
func readPeriod(b []byte, at int) (api.Period, int, api.Errno) {
	from, at, err := readInt(b, at)
	if err != api.OK {
		return api.Period{}, 0, err
	}
	to, at, err := readInt(b, at)
	if err != api.OK {
		return api.Period{}, 0, err
	}
	if from < 0 || from >= to || to > api.Forever {
		return api.Period{}, 0, api.ErrRange
	}
	return api.Period{From: from, To: to}, at, api.OK
}

// order is the definition of the order of rows.
func order(a, b []api.Value) int {
	for i := 0; i < len(a) && i < len(b); i++ {
		x, y := a[i], b[i]
		if x.Kind != y.Kind {
			return sign(x.Kind < y.Kind)
		}
		if x.Int != y.Int {
			return sign(x.Int < y.Int)
		}
		if x.Text != y.Text {
			return sign(x.Text < y.Text)
		}
	}
	if len(a) == len(b) {
		return 0
	}
	return sign(len(a) < len(b))
}

func sign(less bool) int {
	if less {
		return -1
	}
	return 1
}
