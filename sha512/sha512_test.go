package sha512

import (
	"bytes"
	std "crypto/sha512"
	"encoding/binary"
	"encoding/hex"
	"math/big"
	"strings"
	"testing"

	"spinney/api"
)

// TestFirstCalls stands first, so that the values computed once are asked for by several calls at a time, beside digests.
func TestFirstCalls(t *testing.T) {
	right := make(chan bool)
	for n := range 8 {
		go func() {
			b := sample(n)
			if n%2 == 0 {
				right <- Sum256(b) == std.Sum512_256(b)
			} else {
				right <- Words() == startOf(t, std.New512_256())
			}
		}()
	}
	for range 8 {
		if !<-right {
			t.Error("a first call is wrong")
		}
	}
}

// sample returns n bytes that differ from place to place, and from n to n.
func sample(n int) []byte {
	b := make([]byte, n)
	for i := range b {
		b[i] = byte(i*7 + i>>8 + n)
	}
	return b
}

// lengths are those about every edge of the padding, and some that need many blocks.
func lengths() []int {
	l := []int{383, 384, 385, 1000, 4095, 4096, 4097, 65536, 1000003}
	for n := range 260 {
		l = append(l, n)
	}
	return l
}

// fits tells whether b has the digests of both sizes that it has elsewhere.
func fits(b []byte) bool {
	return Sum(b) == std.Sum512(b) && Sum256(b) == std.Sum512_256(b)
}

// stateHead is what a digest from elsewhere tells of itself before its eight words.
const stateHead = 4

// startOf returns the initial values of a digest from elsewhere.
func startOf(t *testing.T, d any) [8]uint64 {
	saved, err := d.(interface{ MarshalBinary() ([]byte, error) }).MarshalBinary()
	if err != nil {
		t.Error(err)
		return [8]uint64{}
	}
	var words [8]uint64
	for i := range words {
		words[i] = binary.BigEndian.Uint64(saved[stateHead+8*i:])
	}
	return words
}

// digestFrom returns, from elsewhere, the digest of b from other initial values.
func digestFrom(t *testing.T, start [8]uint64, b []byte) [64]byte {
	d := std.New()
	saved, err := d.(interface{ MarshalBinary() ([]byte, error) }).MarshalBinary()
	if err != nil {
		t.Fatal(err)
	}
	for i, x := range start {
		binary.BigEndian.PutUint64(saved[stateHead+8*i:], x)
	}
	if err := d.(interface{ UnmarshalBinary([]byte) error }).UnmarshalBinary(saved); err != nil {
		t.Fatal(err)
	}
	d.Write(b)
	return [64]byte(d.Sum(nil))
}

// primes returns the first n of them.
func primes(n int) []int64 {
	var l []int64
	for p := int64(2); len(l) < n; p++ {
		if big.NewInt(p).ProbablyPrime(20) {
			l = append(l, p)
		}
	}
	return l
}

// fraction tells whether x is the first 64 bits of the fractional part of the root, of that power, of p.
func fraction(x uint64, power, p int64) bool {
	raised := func(n *big.Int) *big.Int { return new(big.Int).Exp(n, big.NewInt(power), nil) }
	whole := int64(0)
	for raised(big.NewInt(whole+1)).Cmp(big.NewInt(p)) <= 0 {
		whole++
	}
	low := new(big.Int).Lsh(big.NewInt(whole), 64)
	low.Or(low, new(big.Int).SetUint64(x))
	high := new(big.Int).Add(low, big.NewInt(1))
	all := new(big.Int).Lsh(big.NewInt(p), uint(64*power))
	return raised(low).Cmp(all) <= 0 && raised(high).Cmp(all) > 0
}

// P2.1: the numbers that every digest is made with are the fractions of roots.
func TestFractions(t *testing.T) {
	l := primes(80)
	if l[7] != 19 || l[79] != 409 {
		t.Fatalf("the primes end in %d, %d", l[7], l[79])
	}
	if len(initial) != 8 || len(constants) != 80 {
		t.Fatalf("%d initial values, %d constants", len(initial), len(constants))
	}
	for i, x := range initial {
		if !fraction(x, 2, l[i]) {
			t.Errorf("initial %d: %016x", i, x)
		}
	}
	for i, x := range constants {
		if !fraction(x, 3, l[i]) {
			t.Errorf("constant %d: %016x", i, x)
		}
	}
	if initial != startOf(t, std.New()) {
		t.Errorf("the initial values are others elsewhere")
	}
}

// P2.1: the examples of the chapter.
func TestExamples(t *testing.T) {
	for _, x := range []struct{ text, sum, sum256 string }{
		{
			"",
			"cf83e1357eefb8bdf1542850d66d8007d620e4050b5715dc83f4a921d36ce9ce47d0d13c5d85f2b0ff8318d2877eec2f63b931bd47417a81a538327af927da3e",
			"c672b8d1ef56ed28ab87c3622c5114069bdd3ad7b8f9737498d0c01ecef0967a",
		},
		{
			"abc",
			"ddaf35a193617abacc417349ae20413112e6fa4e89a97ea20a9eeee64b55d39a2192992a274fc1a836ba3c23a3feebbd454d4423643ce80e2a9ac94fa54ca49f",
			"53048e2681941ef99b2e29b76b4c7dabe4c2d0c634fc6d46e0e2f13107e7af23",
		},
	} {
		sum, sum256 := Sum([]byte(x.text)), Sum256([]byte(x.text))
		if got := hex.EncodeToString(sum[:]); got != x.sum {
			t.Errorf("Sum of %q: %s", x.text, got)
		}
		if got := hex.EncodeToString(sum256[:]); got != x.sum256 {
			t.Errorf("Sum256 of %q: %s", x.text, got)
		}
	}
}

// P2.1: a text of a million bytes, whose digest is widely known.
func TestMillion(t *testing.T) {
	sum := Sum([]byte(strings.Repeat("a", 1000000)))
	want := "e718483d0ce769644e2e42c7bc15b4638e1f98b13b2044285632a803afa973ebde0ff244877ea60a4cb0432ce577c31beb009c5c2c49aa2e4eadb217ad8cc09b"
	if got := hex.EncodeToString(sum[:]); got != want {
		t.Errorf("%s", got)
	}
}

// P2.1: every length about the padding, nil and empty alike.
func TestLengths(t *testing.T) {
	for _, n := range lengths() {
		if !fits(sample(n)) {
			t.Errorf("%d bytes", n)
		}
		if !fits(make([]byte, n)) {
			t.Errorf("%d bytes of zeros", n)
		}
		if !fits(bytes.Repeat([]byte{0xff}, n)) {
			t.Errorf("%d bytes of ones", n)
		}
	}
	if Sum(nil) != Sum([]byte{}) || Sum256(nil) != Sum256([]byte{}) || !fits(nil) {
		t.Error("nil and no bytes differ")
	}
}

// P2.1: the padding is as short as possible, and tells the number of bits in sixteen bytes.
func TestPadding(t *testing.T) {
	for _, x := range []struct{ rest, many int }{{0, 1}, {1, 1}, {110, 1}, {111, 1}, {112, 2}, {113, 2}, {126, 2}, {127, 2}} {
		rest := sample(x.rest)
		end, many := padded(rest, 0xe102030405060708)
		if many != x.many {
			t.Errorf("%d bytes: %d blocks", x.rest, many)
		}
		want := append(sample(x.rest), 0x80)
		want = append(want, make([]byte, 128*x.many-9-len(want))...)
		want = append(want, 0x07, 0x08, 0x10, 0x18, 0x20, 0x28, 0x30, 0x38, 0x40)
		if !bytes.Equal(end[:128*x.many], want) {
			t.Errorf("%d bytes: %x", x.rest, end)
		}
	}
}

// P2.1: the initial values of SHA-512/256 are made of those of SHA-512, each one xored, and a digest of eleven bytes.
func TestWords(t *testing.T) {
	text := []byte("SHA-512/256")
	if len(text) != 11 {
		t.Fatalf("%d bytes", len(text))
	}
	start := startOf(t, std.New())
	for i := range start {
		start[i] ^= 0xa5a5a5a5a5a5a5a5
	}
	whole := digestFrom(t, start, text)
	if digest(start, text) != whole {
		t.Error("the digest from the xored values is another elsewhere")
	}
	var want [8]uint64
	for i := range want {
		want[i] = binary.BigEndian.Uint64(whole[8*i:])
	}
	if Words() != want {
		t.Errorf("%016x, not %016x", Words(), want)
	}
	if Words() != startOf(t, std.New512_256()) {
		t.Error("the words are others elsewhere")
	}
}

// P2.1: the words are the same at each call, whatever is done to what an earlier one answered, and digests do not change them.
func TestWordsAgain(t *testing.T) {
	first := Words()
	was := first
	for i := range first {
		first[i] = 0
	}
	for n := range 300 {
		Sum(sample(n))
		Sum256(sample(n))
		if Words() != was {
			t.Fatalf("call %d: %016x", n, Words())
		}
	}
	if Sum256(nil) != std.Sum512_256(nil) {
		t.Error("a digest hangs on what was answered")
	}
}

// P2.1: the words are computed once, at the first call; digests hang on no value that is kept.
func TestComputedOnce(t *testing.T) {
	was := Words()
	defer func() { shorter = was }()
	for i := range shorter {
		shorter[i]++
	}
	if Words() != shorter {
		t.Error("the words are computed again")
	}
	for _, n := range lengths() {
		if !fits(sample(n)) {
			t.Errorf("%d bytes: a digest hangs on what is kept", n)
		}
	}
	shorter = was
	if Words() != made() {
		t.Error("the words that are kept are others than those worked out")
	}
}

// P2.1: the shorter digest is the first half of the whole one from its initial values, not of SHA-512.
func TestHalf(t *testing.T) {
	for _, n := range lengths() {
		b := sample(n)
		from, plain := digestFrom(t, Words(), b), Sum(b)
		got := Sum256(b)
		if got != api.Hash(from[:32]) || got == api.Hash(plain[:32]) {
			t.Errorf("%d bytes", n)
		}
	}
}

// P2.2: each bit of a text is seen, wherever it stands.
func TestEachBit(t *testing.T) {
	b := sample(260)
	sum, sum256 := Sum(b), Sum256(b)
	for i := range 8 * len(b) {
		b[i/8] ^= 1 << (i % 8)
		if !fits(b) || Sum(b) == sum || Sum256(b) == sum256 {
			t.Errorf("bit %d", i)
		}
		b[i/8] ^= 1 << (i % 8)
	}
}

// P2.2: the number of bytes and their order are seen, even where the bytes are those of the padding.
func TestNumberAndOrder(t *testing.T) {
	seen, seen256 := map[[64]byte]bool{}, map[api.Hash]bool{}
	look := func(what string, n int, b []byte) {
		sum, sum256 := Sum(b), Sum256(b)
		if !fits(b) || seen[sum] || seen256[sum256] {
			t.Errorf("%s, %d", what, n)
		}
		seen[sum], seen256[sum256] = true, true
	}
	end, many := padded(sample(3), 3)
	for n := range 300 {
		look("zeros", n, make([]byte, n))
		look("80 and zeros", n, append([]byte{0x80}, make([]byte, n)...))
		look("a padded text and zeros", n, append(bytes.Clone(end[:128*many]), make([]byte, n)...))
	}
	for i := range 259 {
		b := make([]byte, 260)
		b[i], b[i+1] = 1, 2
		look("one before two", i, b)
		b[i], b[i+1] = 2, 1
		look("two before one", i, b)
	}
}

// P2.2: neither an argument nor what lies behind it in its array is changed.
func TestArguments(t *testing.T) {
	for _, n := range lengths() {
		whole := sample(n + 300)
		was := bytes.Clone(whole)
		Sum(whole[:n])
		Sum256(whole[:n])
		if !bytes.Equal(whole, was) {
			t.Fatalf("%d bytes: changed", n)
		}
	}
}

// P2.2: the same bytes asked again, lying elsewhere, or with others behind them, have the same digest.
func TestSameBytes(t *testing.T) {
	for _, n := range lengths() {
		b := sample(n)
		sum, sum256 := Sum(b), Sum256(b)
		if Sum(b) != sum || Sum256(b) != sum256 {
			t.Errorf("%d bytes: asked again", n)
		}
		for at := range 9 {
			whole := bytes.Repeat([]byte{byte(at + 1)}, at+n+20)
			copy(whole[at:], b)
			for _, c := range [][]byte{whole[at : at+n], whole[at : at+n : at+n]} {
				if Sum(c) != sum || Sum256(c) != sum256 {
					t.Errorf("%d bytes: at %d of others", n, at)
				}
			}
		}
	}
}

// P2.2: nothing of an argument is kept: what was given may be changed afterwards.
func TestNothingKept(t *testing.T) {
	b := sample(200)
	sum, sum256 := Sum(b), Sum256(b)
	clear(b)
	if !fits(b) || Sum(b) == sum || Sum256(b) == sum256 {
		t.Error("a digest hangs on what was given before")
	}
	if Sum(sample(200)) != sum || Sum256(sample(200)) != sum256 {
		t.Error("a digest has changed")
	}
}

// P2.2: several may call at once.
func TestAtOnce(t *testing.T) {
	right := make(chan bool)
	for n := range 8 {
		go func() {
			b := sample(100 + 10*n)
			ok := true
			for range 200 {
				ok = ok && fits(b)
			}
			right <- ok
		}()
	}
	for range 8 {
		if !<-right {
			t.Error("wrong beside others")
		}
	}
}
