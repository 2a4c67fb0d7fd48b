package wide

import (
	"math"
	"math/big"
	"math/rand"
	"slices"
	"testing"

	"spinney/api"
)

// M is the greatest number.
var M = api.Wide{math.MaxUint64, math.MaxUint64, math.MaxUint64, math.MaxUint64}

var (
	one     = big.NewInt(1)
	modulus = new(big.Int).Lsh(one, 256)
)

// pow returns 2^n.
func pow(n int) api.Wide {
	var a api.Wide
	a[n/64] = 1 << (n % 64)
	return a
}

// out returns, from elsewhere, the number that a is.
func out(a api.Wide) *big.Int {
	n := new(big.Int)
	for i := 3; i >= 0; i-- {
		n.Lsh(n, 64)
		n.Or(n, new(big.Int).SetUint64(a[i]))
	}
	return n
}

// in returns, from elsewhere, n modulo 2^256, for n below 0 too.
func in(n *big.Int) api.Wide {
	rest := new(big.Int).Mod(n, modulus)
	low := new(big.Int)
	var a api.Wide
	for i := range a {
		low.And(rest, new(big.Int).SetUint64(math.MaxUint64))
		a[i] = low.Uint64()
		rest.Rsh(rest, 64)
	}
	return a
}

// long returns n as a number of elsewhere.
func long(n uint64) *big.Int { return new(big.Int).SetUint64(n) }

// lone are words at the edges.
var lone = []uint64{0, 1, 2, 3, 10, 1<<31 - 1, 1 << 31, 1<<32 - 1, 1 << 32, 1<<32 + 1, 1<<63 - 1, 1 << 63, 1<<63 + 1, math.MaxUint64 - 1, math.MaxUint64}

// edges returns numbers at the edges: each power of 2 and its neighbours, some runs of ones, and all of four words that are 0, 1 or the greatest.
func edges() []api.Wide {
	l := []api.Wide{{}, M}
	for n := range 256 {
		p := out(pow(n))
		l = append(l, in(p), in(new(big.Int).Sub(p, one)), in(new(big.Int).Add(p, one)), in(new(big.Int).Neg(p)))
	}
	some := []uint64{0, 1, 1 << 63, math.MaxUint64}
	for n := range 256 {
		l = append(l, api.Wide{some[n%4], some[n/4%4], some[n/16%4], some[n/64]})
	}
	return l
}

// drawn returns n numbers of all lengths, the same ones at each call.
func drawn(n int) []api.Wide {
	from := rand.New(rand.NewSource(9))
	l := make([]api.Wide, n)
	for i := range l {
		for j := range l[i] {
			l[i][j] = from.Uint64()
		}
		l[i] = in(new(big.Int).Rsh(out(l[i]), uint(from.Intn(256))))
	}
	return l
}

// few returns numbers of which all pairs can be tried.
func few() []api.Wide {
	l := []api.Wide{{}, M, in(big.NewInt(-2))}
	for _, n := range []int{0, 1, 2, 31, 32, 63, 64, 65, 127, 128, 129, 191, 192, 193, 254, 255} {
		p := out(pow(n))
		l = append(l, in(p), in(new(big.Int).Sub(p, one)), in(new(big.Int).Add(p, one)))
	}
	some := []uint64{0, 1, math.MaxUint64}
	for n := range 81 {
		l = append(l, api.Wide{some[n%3], some[n/3%3], some[n/9%3], some[n/27]})
	}
	return append(l, drawn(60)...)
}

// pairs passes pairs of numbers.
func pairs(yield func(a, b api.Wide)) {
	l := few()
	for _, a := range l {
		for _, b := range l {
			yield(a, b)
		}
	}
	more := append(edges(), drawn(3000)...)
	for i, a := range more {
		yield(a, more[(i*7+1)%len(more)])
		yield(a, a)
	}
}

// numbers returns numbers for calls with one of them.
func numbers() []api.Wide { return append(edges(), drawn(1000)...) }

// TestExamples: the examples of the chapter.
func TestExamples(t *testing.T) {
	if sum, over := Add(M, Of(1)); sum != Of(0) || !over {
		t.Error("Add(M, 1)", sum, over)
	}
	if rest, below := Sub(Of(0), Of(1)); rest != M || !below {
		t.Error("Sub(0, 1)", rest, below)
	}
	if a := Not(Of(0)); a != M {
		t.Error("Not(0)", a)
	}
	if a, over := Mul(M, 2); a != (api.Wide{math.MaxUint64 - 1, math.MaxUint64, math.MaxUint64, math.MaxUint64}) || over != 1 {
		t.Error("Mul(M, 2)", a, over)
	}
	if q, r, e := Div(M, 2); q != (api.Wide{math.MaxUint64, math.MaxUint64, math.MaxUint64, math.MaxInt64}) || r != 1 || e != api.OK {
		t.Error("Div(M, 2)", q, r, e)
	}
	if q, r, e := Div(Of(1), 0); q != Of(0) || r != 0 || e != api.ErrArg {
		t.Error("Div(1, 0)", q, r, e)
	}
	half := api.Wide{math.MaxUint64, math.MaxUint64}
	if q, r, e := Quot(M, pow(128)); q != half || r != half || e != api.OK {
		t.Error("Quot(M, 2^128)", q, r, e)
	}
	if q, r, e := Quot(Of(7), Of(9)); q != Of(0) || r != Of(7) || e != api.OK {
		t.Error("Quot(7, 9)", q, r, e)
	}
	if q, r, e := Quot(Of(1), Of(0)); q != Of(0) || r != Of(0) || e != api.ErrArg {
		t.Error("Quot(1, 0)", q, r, e)
	}
	if a, b, c := Shift(Of(1), 255), Shift(Of(1), 256), Shift(M, -255); a != pow(255) || b != Of(0) || c != Of(1) {
		t.Error("Shift", a, b, c)
	}
	if a, b := Bits(Of(0)), Bits(M); a != 0 || b != 256 {
		t.Error("Bits", a, b)
	}
}

// TestOf: P9.1: Of is the lowest word.
func TestOf(t *testing.T) {
	for _, n := range lone {
		if a := Of(n); a != (api.Wide{n, 0, 0, 0}) {
			t.Error(n, a)
		}
	}
}

// TestFromTo: P9.1: bytes, the lowest first, and back.
func TestFromTo(t *testing.T) {
	for i := range 32 {
		for v := range 256 {
			var h api.Hash
			h[i] = byte(v)
			want := in(new(big.Int).Lsh(big.NewInt(int64(v)), uint(8*i)))
			if a := From(h); a != want {
				t.Fatal(i, v, a)
			}
			if back := To(want); back != h {
				t.Fatal(i, v, back)
			}
		}
	}
	for _, a := range numbers() {
		var h api.Hash
		out(a).FillBytes(h[:])
		slices.Reverse(h[:])
		if b := From(h); b != a {
			t.Fatal(h, b)
		}
		if back := To(a); back != h {
			t.Fatal(a, back)
		}
	}
	var rising api.Hash
	for i := range rising {
		rising[i] = byte(i)
	}
	if a := From(rising); a != (api.Wide{0x0706050403020100, 0x0f0e0d0c0b0a0908, 0x1716151413121110, 0x1f1e1d1c1b1a1918}) {
		t.Errorf("%x", a)
	}
}

// TestCmp: P9.1: the order is that of the numbers.
func TestCmp(t *testing.T) {
	pairs(func(a, b api.Wide) {
		if c := Cmp(a, b); c != out(a).Cmp(out(b)) {
			t.Fatal(a, b, c)
		}
	})
	for high := range 4 {
		for low := range high {
			if c, d := Cmp(pow(64*high), pow(64*low+63)), Cmp(pow(64*low+63), pow(64*high)); c != 1 || d != -1 {
				t.Error(high, low, c, d)
			}
		}
	}
}

// TestAddSub: P9.2, P9.5: sums and differences, whether they lie outside, and that each undoes the other.
func TestAddSub(t *testing.T) {
	pairs(func(a, b api.Wide) {
		s := new(big.Int).Add(out(a), out(b))
		sum, over := Add(a, b)
		if sum != in(s) || over != (s.Cmp(modulus) >= 0) {
			t.Fatal("Add", a, b, sum, over)
		}
		d := new(big.Int).Sub(out(a), out(b))
		rest, below := Sub(a, b)
		if rest != in(d) || below != (d.Sign() < 0) {
			t.Fatal("Sub", a, b, rest, below)
		}
		if back, under := Sub(sum, b); back != a || under != over {
			t.Fatal("Sub after Add", a, b, back, under)
		}
		if back, above := Add(rest, b); back != a || above != below {
			t.Fatal("Add after Sub", a, b, back, above)
		}
		if other, too := Add(b, a); other != sum || too != over {
			t.Fatal("Add the other way", a, b)
		}
	})
}

// TestSums: P9.5: how sums are put together makes no difference.
func TestSums(t *testing.T) {
	l := append(few()[:60], drawn(20)...)
	for _, a := range l {
		for _, b := range l {
			for _, c := range l {
				ab, _ := Add(a, b)
				bc, _ := Add(b, c)
				left, _ := Add(ab, c)
				right, _ := Add(a, bc)
				if left != right {
					t.Fatal(a, b, c)
				}
			}
		}
	}
}

// TestNot: P9.2: the greatest number minus a.
func TestNot(t *testing.T) {
	for _, a := range numbers() {
		if n := Not(a); n != in(new(big.Int).Sub(out(M), out(a))) {
			t.Fatal(a, n)
		}
		if n := Not(Not(a)); n != a {
			t.Fatal(a, n)
		}
	}
}

// factors returns words that are held against a.
func factors(a api.Wide) []uint64 {
	return append(slices.Clone(lone), a[0], a[1], a[2], a[3], ^a[0], a[0]^a[3])
}

// TestMul: P9.3: the product, and what lies above 256 bits.
func TestMul(t *testing.T) {
	for _, a := range numbers() {
		for _, n := range factors(a) {
			p := new(big.Int).Mul(out(a), long(n))
			product, over := Mul(a, n)
			if product != in(p) || over != new(big.Int).Rsh(p, 256).Uint64() {
				t.Fatal(a, n, product, over)
			}
		}
	}
}

// TestDiv: P9.3, P9.5: quotient and remainder of a word, the same as those of Quot.
func TestDiv(t *testing.T) {
	for _, a := range numbers() {
		for _, n := range factors(a) {
			q, r, e := Div(a, n)
			wide, rest, err := Quot(a, Of(n))
			if wide != q || rest != Of(r) || err != e {
				t.Fatal("Quot is not Div", a, n, wide, rest, err)
			}
			if n == 0 {
				if q != (api.Wide{}) || r != 0 || e != api.ErrArg {
					t.Fatal("Div by 0", a, q, r, e)
				}
				continue
			}
			wantQ, wantR := new(big.Int).DivMod(out(a), long(n), new(big.Int))
			if q != in(wantQ) || r != wantR.Uint64() || e != api.OK {
				t.Fatal("Div", a, n, q, r, e)
			}
		}
	}
}

// TestQuot: P9.3, P9.5: quotient and remainder, of which the latter is below b.
func TestQuot(t *testing.T) {
	pairs(func(a, b api.Wide) {
		q, r, e := Quot(a, b)
		if b == (api.Wide{}) {
			if q != (api.Wide{}) || r != (api.Wide{}) || e != api.ErrArg {
				t.Fatal("Quot by 0", a, q, r, e)
			}
			return
		}
		wantQ, wantR := new(big.Int).DivMod(out(a), out(b), new(big.Int))
		if q != in(wantQ) || r != in(wantR) || e != api.OK {
			t.Fatal("Quot", a, b, q, r, e)
		}
		if Cmp(r, b) >= 0 {
			t.Fatal("remainder not below", a, b, r)
		}
		sum := r
		for i, w := range b {
			part, _ := Mul(q, w)
			sum, _ = Add(sum, Shift(part, 64*i))
		}
		if sum != a {
			t.Fatal("a is not q b + r", a, b, sum)
		}
	})
}

// TestQuotNear: P9.3: quotients of numbers just beside multiples of what they are divided by.
func TestQuotNear(t *testing.T) {
	for _, b := range drawn(400) {
		if b == (api.Wide{}) {
			continue
		}
		for _, k := range []uint64{1, 2, 3, 1 << 32, math.MaxUint64} {
			product, over := Mul(b, k)
			if over > 0 {
				continue
			}
			if q, r, e := Quot(product, b); q != Of(k) || r != Of(0) || e != api.OK {
				t.Fatal(b, k, q, r, e)
			}
			before, _ := Sub(product, Of(1))
			last, _ := Sub(b, Of(1))
			if q, r, e := Quot(before, b); q != Of(k-1) || r != last || e != api.OK {
				t.Fatal("before", b, k, q, r, e)
			}
		}
	}
}

// TestShift: P9.4: up and down by every number of bits, by none, and by huge numbers.
func TestShift(t *testing.T) {
	l := append(few(), M)
	far := []int{math.MinInt, math.MinInt + 1, math.MinInt + 64, -1 << 62, math.MinInt32, -1 << 16, math.MaxInt32, 1 << 32, 1<<62 + 1, math.MaxInt - 64, math.MaxInt - 1, math.MaxInt}
	for _, a := range l {
		for by := range 600 {
			if up := Shift(a, by); up != in(new(big.Int).Lsh(out(a), uint(by))) {
				t.Fatal(a, by, up)
			}
			if down := Shift(a, -by); down != in(new(big.Int).Rsh(out(a), uint(by))) {
				t.Fatal(a, -by, down)
			}
		}
		for _, by := range far {
			if none := Shift(a, by); none != (api.Wide{}) {
				t.Fatal(a, by, none)
			}
		}
	}
}

// TestBits: P9.4: the number of bits.
func TestBits(t *testing.T) {
	for _, a := range numbers() {
		if n := Bits(a); n != out(a).BitLen() {
			t.Fatal(a, n)
		}
	}
	for n := range 256 {
		p := pow(n)
		before, _ := Sub(p, Of(1))
		if a, b := Bits(p), Bits(before); a != n+1 || b != n {
			t.Error(n, a, b)
		}
	}
}

// TestKept: R4, R6: arguments stay as they are, and the same call answers the same.
func TestKept(t *testing.T) {
	a, b := api.Wide{1, 2, 3, 4}, api.Wide{5, 6, 7}
	again := func() []any {
		var all []any
		sum, over := Add(a, b)
		rest, below := Sub(a, b)
		product, above := Mul(a, 9)
		q, r, e := Div(a, 9)
		wide, part, err := Quot(a, b)
		return append(all, sum, over, rest, below, product, above, q, r, e, wide, part, err, Not(a), Shift(a, 65), Shift(b, -65), To(a), Cmp(a, b), Bits(b))
	}
	if first, second := again(), again(); !slices.Equal(first, second) {
		t.Error(first, second)
	}
	if a != (api.Wide{1, 2, 3, 4}) || b != (api.Wide{5, 6, 7}) {
		t.Error("changed", a, b)
	}
}

// FuzzWide: P9.6 and all others: any numbers, against numbers of elsewhere.
func FuzzWide(f *testing.F) {
	f.Add(make([]byte, 64), uint64(0), 0)
	f.Fuzz(func(t *testing.T, raw []byte, n uint64, by int) {
		var both [64]byte
		copy(both[:], raw)
		a, b := From(api.Hash(both[:32])), From(api.Hash(both[32:]))
		if To(a) != api.Hash(both[:32]) {
			t.Fatal("To")
		}
		if q, r, e := Quot(a, b); e == api.OK {
			wantQ, wantR := new(big.Int).DivMod(out(a), out(b), new(big.Int))
			if q != in(wantQ) || r != in(wantR) {
				t.Fatal("Quot", a, b, q, r)
			}
		}
		if p, over := Mul(a, n); p != in(new(big.Int).Mul(out(a), long(n))) || over != new(big.Int).Rsh(new(big.Int).Mul(out(a), long(n)), 256).Uint64() {
			t.Fatal("Mul", a, n, p, over)
		}
		if s := Shift(a, by); by >= 0 && by < 1000 && s != in(new(big.Int).Lsh(out(a), uint(by))) {
			t.Fatal("Shift", a, by, s)
		}
	})
}
