package value_test

import (
	"math"
	"math/big"
	"math/rand"
	"strings"

	"tuckmill/api"
)

// These stand for values: nothing, what is false, and what is true.
var (
	null = api.Value{Null: true}
	no   = api.Value{}
	yes  = api.Value{N: 1}
)

func num(n int64) api.Value   { return api.Value{N: n} }
func text(s string) api.Value { return api.Value{S: s} }

var (
	integer = api.Type{Kind: api.Int}
	bytes   = api.Type{Kind: api.Bytes}
	boolean = api.Type{Kind: api.Bool}
)

// dec is the type of numbers with so many places; of 0 places it is integer.
func dec(places int) api.Type {
	if places == 0 {
		return integer
	}
	return api.Type{Kind: api.Dec, Scale: places}
}

// numbers are all types of numbers, each at the place of its scale.
func numbers() []api.Type {
	var l []api.Type
	for places := range 10 {
		l = append(l, dec(places))
	}
	return l
}

// rights are all types that are right.
func rights() []api.Type { return append(numbers(), bytes, boolean) }

// wrongs are types that are none, of all sorts.
func wrongs() []api.Type {
	var l []api.Type
	kinds := []int{math.MinInt, -1, 0, 5, 6, 7, 255, 256, 257, 258, 260, 1<<32 + 1, 1<<32 + 2, math.MaxInt}
	scales := []int{math.MinInt, math.MinInt + 1, math.MinInt32, -256, -9, -2, -1, 10, 11, 12, 255, 256, 257, 1 << 32, 1<<32 + 1, 1<<32 + 5, math.MaxInt}
	for _, kind := range kinds {
		for scale := range 11 {
			l = append(l, api.Type{Kind: kind, Scale: scale})
		}
	}
	for kind := api.Int; kind <= api.Bool; kind++ {
		for _, scale := range scales {
			l = append(l, api.Type{Kind: kind, Scale: scale})
		}
	}
	for scale := 1; scale < 10; scale++ {
		l = append(l, api.Type{Kind: api.Int, Scale: scale}, api.Type{Kind: api.Bytes, Scale: scale}, api.Type{Kind: api.Bool, Scale: scale})
	}
	return append(l, api.Type{Kind: api.Dec})
}

// misfits are values that are of no type, whatever may be nothing.
func misfits() []api.Value {
	return []api.Value{
		{Null: true, N: 1}, {Null: true, N: -1}, {Null: true, N: 1 << 32}, {Null: true, N: math.MinInt64}, {Null: true, S: "a"}, {Null: true, S: "\x00"}, {Null: true, N: 1, S: "a"},
		{N: 1, S: "a"}, {N: -1, S: "a"}, {N: 1 << 32, S: "a"}, {N: math.MinInt64, S: "\x00"}, {S: long(201)}, {S: long(256)}, {S: long(1000)}, {N: 1, S: long(200)},
	}
}

// long is a text of so many bytes.
func long(size int) string { return strings.Repeat("x", size) }

// edges are numbers about 0, about powers of two and of ten, and about what still has room when it is scaled.
func edges() []int64 {
	var l []int64
	about := func(n int64, by int64) {
		for d := -by; d <= by; d++ {
			l = append(l, n+d, -n+d)
		}
	}
	about(0, 12)
	about(1<<31, 2)
	about(1<<32, 2)
	about(3037000499, 1) // the root of the greatest one
	about(1<<62, 1)
	about(math.MaxInt64-1, 1)
	about(math.MinInt64+1, 1)
	for p := int64(10); p <= 1e18; p *= 10 {
		about(p, 1)
		about(math.MaxInt64/p, 1)
		if p == 1e18 {
			break
		}
	}
	return l
}

// chance is a source of numbers that is the same on each run.
func chance() *rand.Rand { return rand.New(rand.NewSource(10)) }

// any64 is a number of any length and sign.
func any64(r *rand.Rand) int64 { return int64(r.Uint64()) >> r.Intn(64) }

// chosen is one of l.
func chosen[T any](r *rand.Rand, l []T) T { return l[r.Intn(len(l))] }

// ten is 10 to the power of n.
func ten(n int) *big.Int { return new(big.Int).Exp(big.NewInt(10), big.NewInt(int64(n)), nil) }

// meant is the number that n with so many places stands for.
func meant(n int64, places int) *big.Rat { return new(big.Rat).SetFrac(big.NewInt(n), ten(places)) }

// values are such as fit t: all of Bool, and some of all others, with nothing if null.
func values(t api.Type, null bool) []api.Value {
	var l []api.Value
	switch t.Kind {
	case api.Bool:
		l = append(l, no, yes)
	case api.Bytes:
		for _, s := range texts() {
			l = append(l, text(s))
		}
	default:
		for _, n := range edges() {
			l = append(l, num(n))
		}
	}
	if null {
		l = append(l, api.Value{Null: true})
	}
	return l
}

// texts are texts in their order.
func texts() []string {
	return []string{"", "\x00", "\x00\x00", "\x00a", "\x01", "\n", " ", "'", "''", "'''", "'a'", "0", "1", "10", "2", "A", "AA", "AB", "Aa", "B", "a", "a\x00", "a'", "a'b", "aa", "ab", "b", long(1), long(2), long(199), long(199) + "'", long(199) + "w", long(200), long(199) + "y", "z", "\x7f", "\x80", "\xc3", "\xc3\xa4", "\xe4\xb8\x96", "\xff", "\xff\x00", "\xff\xff"}
}
