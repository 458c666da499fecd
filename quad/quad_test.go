package quad

import (
	"math"
	"math/big"
	"math/rand"
	"testing"

	"glebe/api"
)

func pair(hi, lo uint64) api.Quad { return api.Quad{Hi: hi, Lo: lo} }

// whole is the number as math/big holds it: a second way to count, to hold the package's answers against.
func whole(a api.Quad) *big.Int {
	n := new(big.Int).Lsh(new(big.Int).SetUint64(a.Hi), 64)
	return n.Or(n, new(big.Int).SetUint64(a.Lo))
}

// narrow is false of a number that 128 bits do not hold.
func narrow(n *big.Int) (api.Quad, bool) {
	if n.Sign() < 0 || n.BitLen() > 128 {
		return api.Quad{}, false
	}
	lo := new(big.Int).And(n, new(big.Int).SetUint64(ones))
	hi := new(big.Int).Rsh(n, 64)
	return pair(hi.Uint64(), lo.Uint64()), true
}

// samples are the numbers around each edge of a half, and some in between, the same ones on every run.
func samples() []api.Quad {
	halves := []uint64{0, 1, 2, 1<<32 - 1, 1 << 32, 1<<63 - 1, 1 << 63, 1<<63 + 1, ones - 1, ones}
	var all []api.Quad
	for _, hi := range halves {
		for _, lo := range halves {
			all = append(all, pair(hi, lo))
		}
	}
	source := rand.New(rand.NewSource(1))
	for range 100 {
		all = append(all, pair(source.Uint64(), source.Uint64()))
	}
	return all
}

// counts are numbers of bits within, at and far beyond every bound that the chapter names.
func counts() []int {
	all := []int{math.MinInt, math.MinInt + 1, math.MinInt32, -1 << 40, 1 << 40, math.MaxInt32, math.MaxInt - 1, math.MaxInt}
	for n := -300; n <= 300; n++ {
		all = append(all, n)
	}
	return all
}

func TestAddEdges(t *testing.T) {
	for _, x := range []struct {
		name      string
		a, b, sum api.Quad
		ok        bool
	}{
		{"nothing", pair(0, 0), pair(0, 0), pair(0, 0), true},
		{"ordinary", pair(1, 2), pair(3, 4), pair(4, 6), true},
		{"carry", pair(0, ones), pair(0, 1), pair(1, 0), true},
		{"carry to the greatest", pair(ones-1, ones), pair(0, ones), pair(ones, ones-1), true},
		{"the greatest", pair(ones, ones), pair(0, 0), pair(ones, ones), true},
		{"2^128 by the low halves", pair(ones, ones), pair(0, 1), pair(0, 0), false},
		{"2^128 by the high halves", pair(1<<63, 0), pair(1<<63, 0), pair(0, 0), false},
		{"2^128 by the carry alone", pair(ones-1, ones), pair(1, 1), pair(0, 0), false},
		{"more than 2^128", pair(ones, ones), pair(ones, ones), pair(0, 0), false},
	} {
		if sum, ok := Add(x.a, x.b); sum != x.sum || ok != x.ok {
			t.Errorf("%s: Add(%v, %v) = %v, %v, want %v, %v", x.name, x.a, x.b, sum, ok, x.sum, x.ok)
		}
		if sum, ok := Add(x.b, x.a); sum != x.sum || ok != x.ok {
			t.Errorf("%s: Add(%v, %v) = %v, %v, want %v, %v", x.name, x.b, x.a, sum, ok, x.sum, x.ok)
		}
	}
}

func TestSubEdges(t *testing.T) {
	for _, x := range []struct {
		name       string
		a, b, diff api.Quad
		ok         bool
	}{
		{"ordinary", pair(5, 6), pair(2, 3), pair(3, 3), true},
		{"borrow", pair(1, 0), pair(0, 1), pair(0, ones), true},
		{"0 is no failure", pair(3, 2), pair(3, 2), pair(0, 0), true},
		{"the greatest", pair(ones, ones), pair(0, 0), pair(ones, ones), true},
		{"all of it", pair(ones, ones), pair(ones, ones), pair(0, 0), true},
		{"below 0 by 1", pair(0, 0), pair(0, 1), pair(0, 0), false},
		{"below 0 by the borrow alone", pair(3, 1), pair(3, 2), pair(0, 0), false},
		{"below 0 by the high halves", pair(2, ones), pair(3, 0), pair(0, 0), false},
		{"far below 0", pair(0, 0), pair(ones, ones), pair(0, 0), false},
	} {
		if diff, ok := Sub(x.a, x.b); diff != x.diff || ok != x.ok {
			t.Errorf("%s: Sub(%v, %v) = %v, %v, want %v, %v", x.name, x.a, x.b, diff, ok, x.diff, x.ok)
		}
	}
}

// Promises 1.1 and 1.2: sums and differences are those of whole numbers, and false is answered just where 128 bits do not hold them.
func TestNeverWrapsUnseen(t *testing.T) {
	all := samples()
	for _, a := range all {
		for _, b := range all {
			want, held := narrow(new(big.Int).Add(whole(a), whole(b)))
			if got, ok := Add(a, b); got != want || ok != held {
				t.Fatalf("Add(%v, %v) = %v, %v, want %v, %v", a, b, got, ok, want, held)
			}
			want, held = narrow(new(big.Int).Sub(whole(a), whole(b)))
			if got, ok := Sub(a, b); got != want || ok != held {
				t.Fatalf("Sub(%v, %v) = %v, %v, want %v, %v", a, b, got, ok, want, held)
			}
		}
	}
}

func TestLess(t *testing.T) {
	all := samples()
	for _, a := range all {
		for _, b := range all {
			if got, want := Less(a, b), whole(a).Cmp(whole(b)) < 0; got != want {
				t.Fatalf("Less(%v, %v) = %v, want %v", a, b, got, want)
			}
		}
	}
}

func TestBitByBit(t *testing.T) {
	all := samples()
	greatest := whole(pair(ones, ones))
	for _, a := range all {
		if want, _ := narrow(new(big.Int).Xor(whole(a), greatest)); Not(a) != want {
			t.Fatalf("Not(%v) = %v, want %v", a, Not(a), want)
		}
		for _, b := range all {
			if want, _ := narrow(new(big.Int).And(whole(a), whole(b))); And(a, b) != want {
				t.Fatalf("And(%v, %v) = %v, want %v", a, b, And(a, b), want)
			}
			if want, _ := narrow(new(big.Int).Or(whole(a), whole(b))); Or(a, b) != want {
				t.Fatalf("Or(%v, %v) = %v, want %v", a, b, Or(a, b), want)
			}
		}
	}
}

func TestMaskEdges(t *testing.T) {
	for _, x := range []struct {
		n    int
		want api.Quad
	}{
		{-1, pair(0, 0)}, {0, pair(0, 0)}, {1, pair(1<<63, 0)}, {63, pair(ones-1, 0)}, {64, pair(ones, 0)},
		{65, pair(ones, 1<<63)}, {127, pair(ones, ones-1)}, {128, pair(ones, ones)}, {129, pair(ones, ones)},
		{math.MinInt, pair(0, 0)}, {math.MaxInt, pair(ones, ones)},
	} {
		if got := Mask(x.n); got != x.want {
			t.Errorf("Mask(%d) = %v, want %v", x.n, got, x.want)
		}
	}
}

func TestMaskSetsJustTheHighest(t *testing.T) {
	for _, n := range counts() {
		held := min(max(n, 0), 128)
		want := new(big.Int)
		for k := range held {
			want.SetBit(want, 127-k, 1)
		}
		if got := Mask(n); whole(got).Cmp(want) != 0 {
			t.Errorf("Mask(%d) = %v, want %x", n, got, want)
		}
	}
}

func TestBitEdges(t *testing.T) {
	for _, x := range []struct {
		n    int
		want api.Quad
	}{
		{-1, pair(0, 0)}, {0, pair(0, 1)}, {1, pair(0, 2)}, {63, pair(0, 1<<63)}, {64, pair(1, 0)}, {127, pair(1<<63, 0)},
		{128, pair(0, 0)}, {math.MinInt, pair(0, 0)}, {math.MaxInt, pair(0, 0)},
	} {
		if got := Bit(x.n); got != x.want {
			t.Errorf("Bit(%d) = %v, want %v", x.n, got, x.want)
		}
	}
}

func TestBitIsAPowerOrNothing(t *testing.T) {
	for _, n := range counts() {
		want := new(big.Int)
		if n >= 0 && n <= 127 {
			want.SetBit(want, n, 1)
		}
		if got := Bit(n); whole(got).Cmp(want) != 0 {
			t.Errorf("Bit(%d) = %v, want %x", n, got, want)
		}
	}
}

func TestLow(t *testing.T) {
	if got := Low(pair(0, 0)); got != 128 {
		t.Errorf("Low of 0 = %d, want 128", got)
	}
	for n := range 128 {
		if got := Low(Bit(n)); got != n {
			t.Errorf("Low(Bit(%d)) = %d", n, got)
		}
		if got := Low(Mask(128 - n)); got != n {
			t.Errorf("Low(Mask(%d)) = %d, want %d", 128-n, got, n)
		}
	}
	for _, a := range samples() {
		want := 128
		if a != pair(0, 0) {
			want = int(whole(a).TrailingZeroBits())
		}
		if got := Low(a); got != want {
			t.Errorf("Low(%v) = %d, want %d", a, got, want)
		}
	}
}

// Promise 1.3: a panic names its call here, rather than ending the run.
func TestNoCallPanics(t *testing.T) {
	try := func(name string, call func()) {
		defer func() {
			if fault := recover(); fault != nil {
				t.Errorf("%s panics: %v", name, fault)
			}
		}()
		call()
	}
	for _, n := range counts() {
		try("Mask", func() { Mask(n) })
		try("Bit", func() { Bit(n) })
	}
	for _, a := range samples() {
		try("Not", func() { Not(a) })
		try("Low", func() { Low(a) })
		for _, b := range samples() {
			try("Add", func() { Add(a, b) })
			try("Sub", func() { Sub(a, b) })
			try("Less", func() { Less(a, b) })
			try("And", func() { And(a, b) })
			try("Or", func() { Or(a, b) })
		}
	}
}
