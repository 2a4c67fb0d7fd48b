package sha

import (
	"bytes"
	"crypto/sha256"
	"math/big"
	"strings"
	"testing"

	"spinney/api"
)

// sample returns n bytes that differ from place to place, and from n to n.
func sample(n int) []byte {
	b := make([]byte, n)
	for i := range b {
		b[i] = byte(i*7 + i>>8 + n)
	}
	return b
}

// lengths are those about every edge of the padding, and some that need many chunks.
func lengths() []int {
	l := []int{1000, 4095, 4096, 4097, 65536}
	for n := range 260 {
		l = append(l, n)
	}
	return l
}

// once and twice are the same digests from elsewhere.
func once(b []byte) api.Hash { return sha256.Sum256(b) }

func twice(b []byte) api.Hash {
	first := sha256.Sum256(b)
	return sha256.Sum256(first[:])
}

// joinGroups turns a name in groups of eight into a name.
func joinGroups(s string) string { return strings.ReplaceAll(s, " ", "") }

// primes returns the first n of them.
func primes(n int) []int64 {
	var l []int64
	for p := int64(2); len(l) < n; p++ {
		if big.NewInt(p).ProbablyPrime(20) {
			l = append(l, p)
		}
	}
	return l
}

// cubeRoot returns the greatest number whose cube is at most n.
func cubeRoot(n *big.Int) *big.Int {
	root := new(big.Int)
	for bit := n.BitLen()/3 + 1; bit >= 0; bit-- {
		try := new(big.Int).SetBit(root, bit, 1)
		if new(big.Int).Exp(try, big.NewInt(3), nil).Cmp(n) <= 0 {
			root = try
		}
	}
	return root
}

// P1.1: the numbers that every digest begins with are the fractions of roots.
func TestFractions(t *testing.T) {
	l := primes(64)
	if l[7] != 19 || l[63] != 311 {
		t.Fatalf("the primes end in %d, %d", l[7], l[63])
	}
	for i, got := range initial {
		root := new(big.Int).Sqrt(new(big.Int).Lsh(big.NewInt(l[i]), 64))
		if want := uint32(root.Uint64()); got != want {
			t.Errorf("initial %d: %08x, not %08x", i, got, want)
		}
	}
	for i, got := range constants {
		root := cubeRoot(new(big.Int).Lsh(big.NewInt(l[i]), 96))
		if want := uint32(root.Uint64()); got != want {
			t.Errorf("constant %d: %08x, not %08x", i, got, want)
		}
	}
}

// P1.1: the examples of the chapter, and texts whose digests are widely known.
func TestExamples(t *testing.T) {
	for _, x := range []struct{ text, name string }{
		{"", "e3b0c442 98fc1c14 9afbf4c8 996fb924 27ae41e4 649b934c a495991b 7852b855"},
		{"abc", "ba7816bf 8f01cfea 414140de 5dae2223 b00361a3 96177a9c b410ff61 f20015ad"},
		{"abcdbcdecdefdefgefghfghighijhijkijkljklmklmnlmnomnopnopq", "248d6a61 d20638b8 e5c02693 0c3e6039 a33ce459 64ff2167 f6ecedd4 19db06c1"},
		{strings.Repeat("a", 1000000), "cdc76e5c 9914fb92 81a1c7e2 84d73e67 f1809a48 a497200e 046d39cc c7112cd0"},
	} {
		if got := Text(Sum([]byte(x.text))); got != joinGroups(x.name) {
			t.Errorf("Sum of %d bytes: %s", len(x.text), got)
		}
	}
	want := joinGroups("5df6e0e2 761359d3 0a827505 8e299fcc 03815345 45f55cf4 3e41983f 5d4c9456")
	if got := Text(Twice(nil)); got != want {
		t.Errorf("Twice of none: %s", got)
	}
}

// P1.1: every length about the padding, nil and empty alike.
func TestLengths(t *testing.T) {
	for _, n := range lengths() {
		b := sample(n)
		if Sum(b) != once(b) {
			t.Errorf("Sum of %d bytes", n)
		}
		if Twice(b) != twice(b) {
			t.Errorf("Twice of %d bytes", n)
		}
	}
	if Sum(nil) != Sum([]byte{}) || Twice(nil) != Twice([]byte{}) {
		t.Error("nil and no bytes differ")
	}
}

// P1.1: each bit of a text is seen, wherever it stands.
func TestEachBit(t *testing.T) {
	b := sample(130)
	for i := range 8 * len(b) {
		b[i/8] ^= 1 << (i % 8)
		if Sum(b) != once(b) {
			t.Errorf("bit %d", i)
		}
		b[i/8] ^= 1 << (i % 8)
	}
}

// P1.1: the padding is as short as possible, and tells eight bytes of length.
func TestPadding(t *testing.T) {
	for _, x := range []struct{ rest, many int }{{0, 1}, {1, 1}, {54, 1}, {55, 1}, {56, 2}, {57, 2}, {63, 2}} {
		rest := sample(x.rest)
		end, many := padded(rest, 0x0102030405060708)
		if many != x.many {
			t.Errorf("%d bytes: %d chunks", x.rest, many)
		}
		want := append(sample(x.rest), 0x80)
		want = append(want, make([]byte, 64*x.many-8-len(want))...)
		want = append(want, 0x08, 0x10, 0x18, 0x20, 0x28, 0x30, 0x38, 0x40)
		if !bytes.Equal(end[:64*x.many], want) {
			t.Errorf("%d bytes: %x", x.rest, end)
		}
	}
}

// P1.2: a middle answers for its chunk with a rest of any length, any number of times, in any order.
func TestMiddle(t *testing.T) {
	for n := range 4 {
		chunk := [64]byte(sample(64 + n))
		m := Halfway(chunk)
		for range 2 {
			for _, many := range lengths() {
				rest := sample(many)
				if m.Twice(rest) != twice(append(chunk[:], rest...)) {
					t.Errorf("chunk %d, rest of %d bytes", n, many)
				}
			}
		}
		if m.Twice(nil) != m.Twice([]byte{}) {
			t.Errorf("chunk %d: nil and no bytes differ", n)
		}
		if m != Halfway(chunk) {
			t.Errorf("chunk %d: the middle was changed", n)
		}
	}
}

// P1.2: middles of different chunks do not disturb each other, nor do copies of one.
func TestMiddlesApart(t *testing.T) {
	a, b := [64]byte(sample(64)), [64]byte{}
	ma, mb := Halfway(a), Halfway(b)
	again := ma
	rest := sample(16)
	wantA, wantB := twice(append(a[:], rest...)), twice(append(b[:], rest...))
	for range 3 {
		if ma.Twice(rest) != wantA || mb.Twice(rest) != wantB || again.Twice(rest) != wantA {
			t.Fatal("a middle answers for another one")
		}
	}
}

// P1.2: a Middle that Halfway did not return.
func TestMiddleOfNone(t *testing.T) {
	var none Middle
	for _, m := range []Middle{none, {}, *new(Middle)} {
		for _, n := range lengths() {
			if m.Twice(sample(n)) != (api.Hash{}) {
				t.Errorf("a hash for a rest of %d bytes", n)
			}
		}
		if m.Twice(nil) != (api.Hash{}) {
			t.Error("a hash for no rest")
		}
	}
}

// P1.2: what Halfway returns is a middle even if its letters are zeros: that is told apart by a mark, not by them.
func TestMiddleOfZeros(t *testing.T) {
	if (Middle{made: true}).Twice(nil) == (api.Hash{}) {
		t.Error("a state of zeros is taken for none")
	}
	if !Halfway([64]byte{}).made {
		t.Error("a chunk of zeros makes no middle")
	}
}

// P1.3: names have two digits for each byte, in order.
func TestText(t *testing.T) {
	var h api.Hash
	if got := Text(h); got != strings.Repeat("0", 64) {
		t.Errorf("zeros: %s", got)
	}
	for i := range h {
		h[i] = byte(17*i + 1)
	}
	want := "01122334 45566778 899aabbc cddeef00 11223344 55667788 99aabbcc ddeeff10"
	if got := Text(h); got != joinGroups(want) {
		t.Errorf("%x: %s", h, got)
	}
	h = api.Hash{0: 0x0f, 1: 0xf0, 2: 0xab, 31: 0x9c}
	if got := Text(h); got != "0ff0ab"+strings.Repeat("0", 56)+"9c" {
		t.Errorf("%x: %s", h, got)
	}
}

// P1.3: texts of another length are no names.
func TestOfLengths(t *testing.T) {
	for n := range 200 {
		h, ok := Of(strings.Repeat("1", n))
		if ok != (n == 64) || !ok && h != (api.Hash{}) {
			t.Errorf("%d digits: %x, %t", n, h, ok)
		}
	}
}

// P1.3: at each place, each byte: a digit is read as its value, any other one makes the text no name.
func TestOfDigits(t *testing.T) {
	name := []byte(Text(Sum(nil)))
	for at := range name {
		for c := range 256 {
			s := bytes.Clone(name)
			s[at] = byte(c)
			h, ok := Of(string(s))
			value := strings.IndexByte("0123456789abcdef", byte(c))
			if ok != (value >= 0) {
				t.Fatalf("byte %d at %d: %t", c, at, ok)
			}
			if !ok && h != (api.Hash{}) {
				t.Fatalf("byte %d at %d: false with %x", c, at, h)
			}
			if ok && int(h[at/2]>>(4*(1-at%2))&15) != value {
				t.Fatalf("byte %d at %d: %x", c, at, h)
			}
		}
	}
}

// P1.3: texts that look like names.
func TestOfWrong(t *testing.T) {
	name := Text(Sum([]byte("abc")))
	for _, s := range []string{
		"", name[:62], name[:63], name + "0", " " + name, name + "\n", "0x" + name, "0x" + name[2:],
		name[:63] + "g", "g" + name[1:], strings.ToUpper(name), name[:63] + "D", "+" + name[1:], "-" + name[1:],
		name[:62] + "\u00e9", strings.Repeat("\uff11", 64), strings.Repeat("\u0661", 32), name[:32] + " " + name[33:],
		name[:63] + "\x00", strings.Repeat("\xff", 64),
	} {
		if h, ok := Of(s); ok || h != (api.Hash{}) {
			t.Errorf("%q: %x, %t", s, h, ok)
		}
	}
}

// P1.4: a header's last sixteen bytes are tried.
func TestManyTries(t *testing.T) {
	header := sample(80)
	m := Halfway([64]byte(header[:64]))
	for n := range 2000 {
		for i := range 16 {
			header[64+i] = byte(n*(i+3) + n>>i)
		}
		got := m.Twice(header[64:])
		if got != Twice(header) || got != twice(header) {
			t.Fatalf("try %d", n)
		}
	}
}

// P1.5: Twice is Sum of Sum.
func TestTwiceIsSumOfSum(t *testing.T) {
	for _, n := range lengths() {
		b := sample(n)
		first := Sum(b)
		if Twice(b) != Sum(first[:]) {
			t.Errorf("%d bytes", n)
		}
	}
}

// P1.5: a digest is a state from which one can continue; a double digest is not that of the longer text.
func TestContinue(t *testing.T) {
	for _, n := range []int{0, 1, 55, 56, 64, 100} {
		b, more := sample(n), sample(20)
		end, many := padded(b[n/64*64:], uint64(n))
		longer := append(append(bytes.Clone(b[:n/64*64]), end[:64*many]...), more...)
		whole := uint64(len(longer) - len(more))
		if finished(stateOf(Sum(b)), whole, more) != Sum(longer) {
			t.Errorf("%d bytes: a digest is continued otherwise", n)
		}
		got := finished(stateOf(Twice(b)), whole, more)
		if got == Twice(longer) || got == Sum(longer) || Sum(got[:]) == Twice(longer) {
			t.Errorf("%d bytes: a double digest is continued", n)
		}
	}
}

// stateOf returns the letters whose bytes a digest is.
func stateOf(h api.Hash) state {
	var s state
	for i := range s {
		s[i] = number(h[4*i:])
	}
	return s
}

// P1.6: Text and Of are inverses of each other.
func TestInverses(t *testing.T) {
	h := api.Hash{}
	for range 1000 {
		s := Text(h)
		back, ok := Of(s)
		if !ok || back != h || Text(back) != s {
			t.Fatalf("%x: %s, %x, %t", h, s, back, ok)
		}
		h = Sum(h[:])
	}
	for c := range 256 {
		for at := range h {
			h := api.Hash{}
			h[at] = byte(c)
			if back, ok := Of(Text(h)); !ok || back != h {
				t.Fatalf("%d at %d: %x, %t", c, at, back, ok)
			}
		}
	}
}

// P1.7: neither an argument nor what lies behind it is changed.
func TestArguments(t *testing.T) {
	for _, n := range lengths() {
		whole := sample(n + 200)
		was := bytes.Clone(whole)
		b := whole[:n]
		m := Halfway([64]byte(sample(64)))
		Sum(b)
		Twice(b)
		m.Twice(b)
		if !bytes.Equal(whole, was) {
			t.Fatalf("%d bytes: changed", n)
		}
	}
}

// P1.7: what was given may be changed afterwards.
func TestNothingKept(t *testing.T) {
	chunk, rest := [64]byte(sample(64)), sample(16)
	want := twice(append(chunk[:], rest...))
	m := Halfway(chunk)
	clear(chunk[:])
	first := m.Twice(rest)
	clear(rest)
	m.Twice(rest)
	if first != want || m.Twice(sample(16)) != want {
		t.Error("a middle hangs on what was given")
	}
}

// P1.7: a middle and the calls may be used by several at once.
func TestAtOnce(t *testing.T) {
	chunk := [64]byte(sample(64))
	m := Halfway(chunk)
	right := make(chan bool)
	for n := range 8 {
		go func() {
			rest := sample(n)
			want := twice(append(bytes.Clone(chunk[:]), rest...))
			ok := true
			for range 200 {
				ok = ok && m.Twice(rest) == want && Sum(rest) == once(rest)
			}
			right <- ok
		}()
	}
	for range 8 {
		if !<-right {
			t.Error("wrong beside others")
		}
	}
}
