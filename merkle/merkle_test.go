package merkle

import (
	"crypto/sha256"
	"encoding/hex"
	"math"
	"slices"
	"strings"
	"testing"

	"spinney/api"
	"spinney/tx"
)

// twice returns, from elsewhere, the double digest of texts, one after the other.
func twice(texts ...[]byte) api.Hash {
	once := sha256.Sum256(slices.Concat(texts...))
	return sha256.Sum256(once[:])
}

// of returns, from elsewhere, the hash of a pair.
func of(left, right api.Hash) api.Hash { return twice(left[:], right[:]) }

// one returns a hash that differs from that of another number, and whose bytes differ from each other.
func one(n int) api.Hash { return twice([]byte{byte(n), byte(n >> 8), byte(n >> 16), byte(n >> 24)}) }

// some returns n different hashes.
func some(n int) []api.Hash {
	l := make([]api.Hash, n)
	for i := range l {
		l[i] = one(i)
	}
	return l
}

// made is, from elsewhere, what is to be said of hashes.
type made struct {
	root    api.Hash
	mutated bool
	texts   [][]byte
	branch  map[int][]api.Hash
}

// worked works out, from elsewhere, what is to be said of l: the row above first, and of the branches those in it.
func worked(l []api.Hash) made {
	m := made{branch: map[int][]api.Hash{}}
	switch len(l) {
	case 0:
		return m
	case 1:
		m.root, m.branch[0] = l[0], nil
		return m
	}
	even := l
	if len(l)%2 == 1 {
		even = append(slices.Clone(l), l[len(l)-1])
	}
	var above []api.Hash
	for j := range len(even) / 2 {
		above = append(above, of(even[2*j], even[2*j+1]))
		m.texts = append(m.texts, slices.Concat(even[2*j][:], even[2*j+1][:]))
		if 2*j+1 < len(l) && l[2*j] == l[2*j+1] {
			m.mutated = true
		}
	}
	more := worked(above)
	m.root, m.mutated, m.texts = more.root, m.mutated || more.mutated, append(m.texts, more.texts...)
	for i := range l {
		switch {
		case i%2 == 1:
			m.branch[i] = append(m.branch[i], l[i-1])
		case i+1 < len(l):
			m.branch[i] = append(m.branch[i], l[i+1])
		}
		m.branch[i] = append(m.branch[i], more.branch[i/2]...)
	}
	return m
}

// sameTexts tells whether two lists of texts are equal.
func sameTexts(a, b [][]byte) bool { return slices.EqualFunc(a, b, slices.Equal[[]byte]) }

// hold holds what is answered of l against what is worked out elsewhere, and returns that.
func hold(t *testing.T, l []api.Hash) made {
	t.Helper()
	m := worked(l)
	if root, mutated := Root(l); root != m.root || mutated != m.mutated {
		t.Fatalf("Root of %d hashes (%x): %x, %t", len(l), l, root, mutated)
	}
	if texts := Texts(l); !sameTexts(texts, m.texts) {
		t.Fatalf("Texts of %d hashes (%x): %x", len(l), l, texts)
	}
	for i := range l {
		branch, there := Branch(l, i)
		if !there || !slices.Equal(branch, m.branch[i]) {
			t.Fatalf("Branch of %d hashes (%x), %d: %x, %t", len(l), l, i, branch, there)
		}
		if root, ok := Fold(l[i], i, len(l), branch); root != m.root || !ok {
			t.Fatalf("Fold of %d hashes (%x), %d: %x, %t", len(l), l, i, root, ok)
		}
	}
	return m
}

// zeros returns n bytes 0.
func zeros(n int) []byte { return make([]byte, n) }

// reversed returns the hash of which the digits are given, those of its last byte first.
func reversed(t *testing.T, digits string) api.Hash {
	t.Helper()
	b, err := hex.DecodeString(digits)
	if err != nil || len(b) != 32 {
		t.Fatal(digits)
	}
	slices.Reverse(b)
	return api.Hash(b)
}

// P8.1, P8.2: the examples of the chapter.
func TestExamples(t *testing.T) {
	a, b, c := one(1), one(2), one(3)
	ab, cc := of(a, b), of(c, c)
	whole := of(ab, cc)
	for i, x := range []struct {
		l       []api.Hash
		root    api.Hash
		mutated bool
	}{
		{nil, api.Hash{}, false},
		{[]api.Hash{}, api.Hash{}, false},
		{[]api.Hash{a}, a, false},
		{[]api.Hash{a, b}, ab, false},
		{[]api.Hash{a, b, c}, whole, false},
		{[]api.Hash{a, b, c, c}, whole, true},
	} {
		if root, mutated := Root(x.l); root != x.root || mutated != x.mutated {
			t.Errorf("Root %d: %x, %t", i, root, mutated)
		}
	}
	for i, x := range []struct {
		l      []api.Hash
		i      int
		branch []api.Hash
		there  bool
	}{
		{[]api.Hash{a, b, c}, 2, []api.Hash{ab}, true},
		{[]api.Hash{a, b, c}, 0, []api.Hash{b, cc}, true},
		{[]api.Hash{a}, 0, nil, true},
		{[]api.Hash{a}, 1, nil, false},
	} {
		if branch, there := Branch(x.l, x.i); !slices.Equal(branch, x.branch) || there != x.there {
			t.Errorf("Branch %d: %x, %t", i, branch, there)
		}
	}
	if root, ok := Fold(c, 2, 3, []api.Hash{ab}); root != whole || !ok {
		t.Errorf("Fold of C: %x, %t", root, ok)
	}
	if root, ok := Fold(a, 0, 1, nil); root != a || !ok {
		t.Errorf("Fold of A: %x, %t", root, ok)
	}
	if root, ok := Fold(a, 1, 1, nil); root != (api.Hash{}) || ok {
		t.Errorf("Fold of A at 1: %x, %t", root, ok)
	}
}

// P8.1: the texts of a few hashes, byte for byte.
func TestTexts(t *testing.T) {
	a, b, c := one(1), one(2), one(3)
	ab, cc := of(a, b), of(c, c)
	for i, x := range []struct {
		l     []api.Hash
		texts [][]byte
	}{
		{nil, nil},
		{[]api.Hash{a}, nil},
		{[]api.Hash{a, b}, [][]byte{slices.Concat(a[:], b[:])}},
		{[]api.Hash{b, a}, [][]byte{slices.Concat(b[:], a[:])}},
		{[]api.Hash{a, a}, [][]byte{slices.Concat(a[:], a[:])}},
		{[]api.Hash{a, b, c}, [][]byte{slices.Concat(a[:], b[:]), slices.Concat(c[:], c[:]), slices.Concat(ab[:], cc[:])}},
		{[]api.Hash{a, b, c, c}, [][]byte{slices.Concat(a[:], b[:]), slices.Concat(c[:], c[:]), slices.Concat(ab[:], cc[:])}},
		{make([]api.Hash, 2), [][]byte{zeros(64)}},
	} {
		if texts := Texts(x.l); !sameTexts(texts, x.texts) {
			t.Errorf("Texts %d: %x", i, texts)
		}
	}
}

// P8.1: blocks that are widely known, of two and of four transactions.
func TestKnownRoots(t *testing.T) {
	for want, digits := range map[string]string{
		"7dac2c5666815c17a3b36427de37bb9d2e2c5ccec3f8633eb91a4205cb4c10ff": "b1fea52486ce0c62bb442b530a3f0132b826c74e473d1f2c220bfa78111c5082 f4184fc596403b9d638783cf57adfe4c75c605f6356fbc91338530e9831e9e16",
		"f3e94742aca4b5ef85488dc37c06c3282295ffec960994b2c0d5ac2a25a95766": "8c14f0db3df150123e6f3dbbf30f8b955a8249b62ac1d1ff16284aefa3d06d87 fff2525b8931402dd09222c50775608f75787bd2b87e56995a7bdd30f79702c4 6359f0868171b1d194cbee1af2f16ea598ae8fad666d9b012c8ed2b79a236ec4 e9a66845e05d5abc0ad04ec80f774a7e585c6e8db975962d069a522137b80c1d",
	} {
		var l []api.Hash
		for _, name := range strings.Fields(digits) {
			l = append(l, reversed(t, name))
		}
		if root, mutated := Root(l); root != reversed(t, want) || mutated {
			t.Errorf("%s: %x, %t", want, root, mutated)
		}
		hold(t, l)
	}
}

// P8.1, P8.2, P8.4: every number of different hashes up to some more than a block has, and those about some powers of two; none is mutated.
func TestNumbers(t *testing.T) {
	numbers := []int{127, 128, 129, 192, 255, 257}
	for n := range 71 {
		numbers = append(numbers, n)
	}
	for _, n := range numbers {
		if m := hold(t, some(n)); m.mutated {
			t.Errorf("%d different hashes are mutated", n)
		}
	}
}

// P8.1, P8.2, P8.4: long lists.
func TestLong(t *testing.T) {
	for _, n := range []int{511, 513, 1000, 4095, 4096, 4097, 1<<16 + 1} {
		l := some(n)
		m := worked(l)
		if root, mutated := Root(l); root != m.root || mutated {
			t.Errorf("Root of %d: %x, %t", n, root, mutated)
		}
		if texts := Texts(l); !sameTexts(texts, m.texts) {
			t.Errorf("Texts of %d: %d of %d", n, len(texts), len(m.texts))
		}
		for _, i := range []int{0, n / 3, n - 2, n - 1} {
			branch, there := Branch(l, i)
			root, ok := Fold(l[i], i, n, branch)
			if !slices.Equal(branch, m.branch[i]) || !there || root != m.root || !ok {
				t.Errorf("Branch of %d, %d: %x, %t; %x, %t", n, i, branch, there, root, ok)
			}
		}
	}
}

// lists calls do with each list of n of the hashes of from.
func lists(n int, from []api.Hash, do func(l []api.Hash)) {
	places := make([]int, n)
	for {
		l := make([]api.Hash, n)
		for i, p := range places {
			l[i] = from[p]
		}
		do(l)
		at := 0
		for at < n && places[at] == len(from)-1 {
			places[at] = 0
			at++
		}
		if at == n {
			return
		}
		places[at]++
	}
}

// P8.1, P8.2, P8.4, P8.5: all short lists of a few hashes, the zero hash among them, in which each kind of pair is equal; those of the same length have different roots.
func TestFewHashes(t *testing.T) {
	for _, x := range []struct {
		most int
		from []api.Hash
	}{
		{9, []api.Hash{{}, one(1)}},
		{6, []api.Hash{one(1), one(2), {}}},
		{4, []api.Hash{one(1), one(2), one(3), of(one(1), one(2)), of(one(1), one(1))}},
	} {
		for n := range x.most + 1 {
			by := map[api.Hash][]api.Hash{}
			lists(n, x.from, func(l []api.Hash) {
				m := hold(t, l)
				if other, there := by[m.root]; there {
					t.Errorf("%x and %x have the same root", other, l)
				}
				by[m.root] = l
			})
		}
	}
}

// P8.1: of many hashes only two neighbours are equal: they are a pair where the first one's number is even.
func TestMutatedLowest(t *testing.T) {
	for n := 2; n < 33; n++ {
		for i := range n {
			for j := i + 1; j < n; j++ {
				l := some(n)
				l[j] = l[i]
				if root, mutated := Root(l); mutated != (j == i+1 && i%2 == 0) || root != worked(l).root {
					t.Errorf("%d hashes, %d again at %d: %x, mutated %t", n, i, j, root, mutated)
				}
			}
		}
	}
}

// P8.1: equal neighbours in each row alone: as many hashes as lie under one of them stand twice.
func TestMutatedRows(t *testing.T) {
	for high := range 6 {
		under := 1 << high
		for many := 2; many*under <= 64; many++ {
			for i := range many - 1 {
				l := some(many * under)
				copy(l[(i+1)*under:][:under], l[i*under:][:under])
				if root, mutated := Root(l); mutated != (i%2 == 0) || root != worked(l).root {
					t.Errorf("%d times %d hashes, those of %d again: %x, mutated %t", many, under, i, root, mutated)
				}
			}
		}
	}
}

// P8.1: a hash is no pair with itself, in no row.
func TestNotMutatedAlone(t *testing.T) {
	for n := range 200 {
		if _, mutated := Root(some(n)); mutated {
			t.Errorf("%d different hashes: mutated", n)
		}
	}
}

// P8.5: the last of an odd number of hashes, repeated after it, leaves the root; the list is mutated. So is one in which that is done in a row above.
func TestRepeated(t *testing.T) {
	for n := 2; n < 130; n++ {
		l := some(n)
		root, _ := Root(l)
		under := n & -n
		again := append(slices.Clone(l), l[n-under:]...)
		other, mutated := Root(again)
		if !mutated || (other == root) != (n != under) {
			t.Errorf("%d hashes, and the last %d again: mutated %t, the same root %t", n, under, mutated, other == root)
		}
		if n%2 == 1 && !slices.Equal(again, append(slices.Clone(l), l[n-1])) {
			t.Errorf("%d hashes: the last one is not alone", n)
		}
		if n%2 == 0 {
			if other, mutated := Root(append(slices.Clone(l), l[n-1])); mutated || other == root {
				t.Errorf("%d hashes, and the last one again: mutated %t", n, mutated)
			}
		}
		hold(t, append(slices.Clone(l), l[n-1], l[n-1]))
	}
	a := one(1)
	if root, mutated := Root([]api.Hash{a, a}); root != of(a, a) || !mutated {
		t.Errorf("one, repeated: %x, %t", root, mutated)
	}
}

// P8.5: of the same number of hashes, each place and the order are in the root; and their texts differ.
func TestEachPlace(t *testing.T) {
	for n := 1; n < 40; n++ {
		l := some(n)
		root, _ := Root(l)
		for i := range l {
			other := slices.Clone(l)
			other[i][i%32] ^= 1 << (i % 8)
			if got, _ := Root(other); got == root {
				t.Errorf("%d hashes, %d changed: the same root", n, i)
			}
			if n > 1 && sameTexts(Texts(other), Texts(l)) {
				t.Errorf("%d hashes, %d changed: the same texts", n, i)
			}
			for j := range i {
				other := slices.Clone(l)
				other[i], other[j] = other[j], other[i]
				if got, _ := Root(other); got == root {
					t.Errorf("%d hashes, %d and %d exchanged: the same root", n, i, j)
				}
			}
		}
	}
}

// P8.2: there are no hashes outside of the list.
func TestBranchOutside(t *testing.T) {
	for n := range 35 {
		for _, i := range []int{-1, -2, n, n + 1, n ^ 1, 2 * n, -n - 1, 1 << 20, 1 << 40, math.MaxInt, math.MaxInt - 1, math.MinInt, math.MinInt + 1} {
			if i >= 0 && i < n {
				continue
			}
			if branch, there := Branch(some(n), i); len(branch) != 0 || there {
				t.Errorf("Branch of %d hashes, %d: %x, %t", n, i, branch, there)
			}
		}
	}
	for _, l := range [][]api.Hash{nil, {}} {
		if branch, there := Branch(l, 0); len(branch) != 0 || there {
			t.Errorf("Branch of none: %x, %t", branch, there)
		}
	}
}

// P8.2: Fold takes no i outside, whatever the branch is.
func TestFoldOutside(t *testing.T) {
	for n := -3; n < 35; n++ {
		for _, i := range []int{-1, -2, n, n + 1, -n - 1, 1 << 20, 1 << 40, math.MaxInt, math.MinInt, math.MinInt + 1} {
			if i >= 0 && i < n {
				continue
			}
			for many := range 9 {
				if root, ok := Fold(one(1), i, n, some(many)); root != (api.Hash{}) || ok {
					t.Errorf("Fold of %d in %d, with %d: %x, %t", i, n, many, root, ok)
				}
			}
		}
	}
	for _, n := range []int{0, -1, math.MinInt, math.MinInt + 1} {
		for _, i := range []int{0, -1, 1, n, n - 1, math.MinInt, math.MaxInt} {
			if root, ok := Fold(one(1), i, n, nil); root != (api.Hash{}) || ok {
				t.Errorf("Fold of %d in %d: %x, %t", i, n, root, ok)
			}
		}
	}
}

// P8.2: Fold takes no branch with fewer or more hashes; with as many it takes any.
func TestFoldLengths(t *testing.T) {
	for n := 1; n < 70; n++ {
		m := worked(some(n))
		for i := range n {
			want := len(m.branch[i])
			for many := range 12 {
				root, ok := Fold(one(i), i, n, append(slices.Clone(m.branch[i][:min(many, want)]), some(max(many-want, 0))...))
				if ok != (many == want) || ok && root != m.root || !ok && root != (api.Hash{}) {
					t.Errorf("Fold of %d in %d, with %d: %x, %t", i, n, many, root, ok)
				}
				if root, ok := Fold(api.Hash{}, i, n, make([]api.Hash, many)); ok != (many == want) || !ok && root != (api.Hash{}) {
					t.Errorf("Fold of zero hashes, %d in %d, with %d: %x, %t", i, n, many, root, ok)
				}
			}
		}
	}
	if root, ok := Fold(one(1), 3, 7, some(1<<16)); root != (api.Hash{}) || ok {
		t.Errorf("Fold with many: %x, %t", root, ok)
	}
}

// folded works out, from elsewhere, the root, and the texts that are hashed for it, from bits and rows' lengths; false if the branch is not as long.
func folded(h api.Hash, i, n int, branch []api.Hash) (root api.Hash, texts [][]byte, ok bool) {
	for row := n; row > 1; row = row/2 + row%2 {
		left, right := h, h
		alone := i == row-1 && row%2 == 1
		if !alone {
			if len(branch) == 0 {
				return api.Hash{}, nil, false
			}
			if i%2 == 1 {
				left = branch[0]
			} else {
				right = branch[0]
			}
			branch = branch[1:]
		}
		h, i = of(left, right), i/2
		texts = append(texts, slices.Concat(left[:], right[:]))
	}
	return h, texts, len(branch) == 0
}

// P8.2: Fold goes up to 2^20 hashes, and not beyond.
func TestFoldMany(t *testing.T) {
	for _, n := range []int{1<<20 - 1, 1 << 20, 1<<19 + 1, 1 << 19, 1000001, 0xaaaaa, 0x55555} {
		for _, i := range []int{0, 1, 2, 3, n / 2, n/2 + 1, n - 3, n - 2, n - 1, 1 << 18, 1<<18 - 1, 123456} {
			for many := range 23 {
				branch := some(many)
				want, _, fits := folded(one(9), i, n, branch)
				if !fits {
					want = api.Hash{}
				}
				if root, ok := Fold(one(9), i, n, branch); ok != fits || root != want {
					t.Errorf("Fold of %d in %d, with %d: %x, %t", i, n, many, root, ok)
				}
			}
		}
	}
	if _, ok := Fold(one(9), 1<<20-1, 1<<20, some(20)); !ok {
		t.Error("Fold in 2^20: false")
	}
	for _, n := range []int{1<<20 + 1, 1<<20 + 2, 1 << 21, 1 << 31, 1<<32 + 1, 1 << 62, math.MaxInt - 1, math.MaxInt} {
		for _, i := range []int{0, 1, 5, 1 << 20, n - 2, n - 1} {
			for many := range 66 {
				if root, ok := Fold(one(9), i, n, some(many)); ok || root != (api.Hash{}) {
					t.Errorf("Fold of %d in %d, with %d: %x, %t", i, n, many, root, ok)
				}
			}
		}
	}
}

// P8.2, P8.4: the texts that Fold hashes are among those of the list; another hash, or another branch, has another root, and a text that differs.
func TestFoldOthers(t *testing.T) {
	for n := 1; n < 34; n++ {
		l := some(n)
		m := hold(t, l)
		among := map[string]bool{}
		for _, text := range m.texts {
			among[string(text)] = true
		}
		for i := range l {
			root, texts, _ := folded(l[i], i, n, m.branch[i])
			for _, text := range texts {
				if !among[string(text)] || root != m.root {
					t.Errorf("%d of %d: %x is not among the texts", i, n, text)
				}
			}
			for bit := range 256 {
				h := l[i]
				h[bit/8] ^= 1 << (bit % 8)
				if root, ok := Fold(h, i, n, m.branch[i]); !ok || root == m.root || n == 1 && root != h {
					t.Errorf("%d of %d, bit %d: %x, %t", i, n, bit, root, ok)
				}
			}
			for place := range m.branch[i] {
				for bit := 0; bit < 256; bit += 37 {
					branch := slices.Clone(m.branch[i])
					branch[place][bit/8] ^= 1 << (bit % 8)
					want, _, _ := folded(l[i], i, n, branch)
					if root, ok := Fold(l[i], i, n, branch); !ok || root == m.root || root != want {
						t.Errorf("%d of %d, bit %d of %d: %x, %t", i, n, bit, place, root, ok)
					}
				}
			}
		}
	}
}

// start begins what commits.
var start = []byte{0x6a, 0x24, 0xaa, 0x21, 0xa9, 0xed}

// sample returns n bytes that differ from those of another seed.
func sample(n, seed int) []byte {
	b := make([]byte, n)
	for i := range b {
		b[i] = byte(i*11 + seed*29 + 1)
	}
	return b
}

// script returns what commits to a hash, followed by some bytes.
func script(h api.Hash, behind int) []byte { return slices.Concat(start, h[:], sample(behind, 3)) }

// paying returns a block whose first transaction has outputs with these scripts.
func paying(scripts ...[]byte) api.Block {
	t := api.Tx{Version: 1, Ins: []api.In{{Sequence: 5}}}
	for i, s := range scripts {
		t.Outs = append(t.Outs, api.Out{Value: int64(i), Script: s})
	}
	return api.Block{Header: api.Header{Nonce: 1}, Txs: []api.Tx{t}}
}

// P8.3: the last output that commits, of the first transaction alone.
func TestCommitment(t *testing.T) {
	h, other, third := one(1), one(2), one(3)
	behind := paying([]byte{0x51})
	behind.Txs = append(behind.Txs, paying(script(h, 0)).Txs...)
	both := paying(script(h, 0))
	both.Txs = append(both.Txs, paying(script(other, 0)).Txs...)
	second := paying(sample(38, 1), script(third, 0))
	second.Txs = append(second.Txs, paying(script(other, 0), script(h, 0)).Txs...)
	for what, x := range map[string]struct {
		b     api.Block
		want  api.Hash
		there bool
	}{
		"zero block":                {api.Block{}, api.Hash{}, false},
		"empty transaction":         {api.Block{Txs: []api.Tx{{}}}, api.Hash{}, false},
		"no script":                 {paying(nil), api.Hash{}, false},
		"no output":                 {paying(), api.Hash{}, false},
		"one":                       {paying(script(h, 0)), h, true},
		"zero hash":                 {paying(script(api.Hash{}, 0)), api.Hash{}, true},
		"one byte behind":           {paying(script(h, 1)), h, true},
		"many bytes behind":         {paying(script(h, 90)), h, true},
		"more than valid ones have": {paying(script(h, 1000)), h, true},
		"37 bytes":                  {paying(script(h, 0)[:37]), api.Hash{}, false},
		"37 bytes, room behind":     {paying(script(h, 9)[:37]), api.Hash{}, false},
		"start alone":               {paying(start), api.Hash{}, false},
		"first of two":              {paying(script(h, 0), []byte{0x51}), h, true},
		"second of two":             {paying([]byte{0x51}, script(h, 0)), h, true},
		"middle of three":           {paying([]byte{0x51}, script(h, 0), sample(38, 1)), h, true},
		"both of two":               {paying(script(h, 0), script(other, 0)), other, true},
		"both of two, turned":       {paying(script(other, 0), script(h, 0)), h, true},
		"all of three":              {paying(script(h, 0), script(other, 2), script(third, 1)), third, true},
		"last too short":            {paying(script(h, 0), script(other, 0), script(third, 0)[:37]), other, true},
		"last starts otherwise":     {paying(script(h, 0), slices.Concat([]byte{0x51}, script(other, 0))), h, true},
		"start twice":               {paying(slices.Concat(start, script(h, 0))), api.Hash(slices.Concat(start, start, h[:])[6:38]), true},
		"second transaction":        {behind, api.Hash{}, false},
		"both transactions":         {both, h, true},
		"second output, and others": {second, third, true},
	} {
		if got, there := Commitment(x.b); got != x.want || there != x.there {
			t.Errorf("%s: %x, %t", what, got, there)
		}
	}
}

// P8.3: scripts of all lengths, and each bit of their beginning.
func TestCommitmentScripts(t *testing.T) {
	h := one(1)
	whole := script(h, 200)
	for n := range len(whole) {
		want := api.Hash{}
		if n >= 38 {
			want = h
		}
		if got, there := Commitment(paying(whole[:n])); got != want || there != (n >= 38) {
			t.Errorf("%d bytes: %x, %t", n, got, there)
		}
	}
	for bit := range 38 * 8 {
		s := script(h, 0)
		s[bit/8] ^= 1 << (bit % 8)
		got, there := Commitment(paying(s))
		if bit < 48 && (there || got != api.Hash{}) || bit >= 48 && (!there || got != api.Hash(s[6:])) {
			t.Errorf("bit %d: %x, %t", bit, got, there)
		}
		if got, there := Commitment(paying(script(one(2), 0), s)); bit < 48 && (!there || got != one(2)) {
			t.Errorf("bit %d, behind another: %x, %t", bit, got, there)
		}
	}
	for at := range 7 {
		s := script(h, 0)
		if at < 6 {
			s = slices.Delete(s, at, at+1)
		} else {
			s = slices.Insert(s, 0, 0)
		}
		if got, there := Commitment(paying(append(s, 7))); got != (api.Hash{}) || there {
			t.Errorf("%d: %x, %t", at, got, there)
		}
	}
}

// P8.3: as many outputs as there may be, and more, any of them the last that commits.
func TestCommitmentOutputs(t *testing.T) {
	for _, n := range []int{1, 2, 16, 17, 40} {
		for last := range n {
			var scripts [][]byte
			for i := range n {
				s := script(one(i), i)
				if i > last {
					s[i%6]++
				}
				scripts = append(scripts, s)
			}
			if got, there := Commitment(paying(scripts...)); got != one(last) || !there {
				t.Errorf("%d of %d: %x, %t", last, n, got, there)
			}
		}
	}
}

// plain returns a transaction that differs from that of another seed; every third one has a witness.
func plain(seed int) api.Tx {
	t := api.Tx{Version: uint32(seed), Ins: []api.In{{Prev: api.OutPoint{Tx: one(seed), Index: uint32(seed)}, Script: sample(seed%5, seed), Sequence: 9}}, Outs: []api.Out{{Value: int64(seed), Script: sample(seed%3, seed)}}}
	if seed%3 == 0 {
		t.Ins[0].Witness = [][]byte{sample(3, seed), nil}
	}
	return t
}

// witnessed returns a block of n transactions more than its first one, whose input has a witness of one item.
func witnessed(n int, item []byte) api.Block {
	b := paying([]byte{0x51})
	b.Txs[0].Ins[0].Witness = [][]byte{item}
	for i := range n {
		b.Txs = append(b.Txs, plain(i+1))
	}
	return b
}

// required works out, from elsewhere, the required commitment to the transactions of b, with that item.
func required(b api.Block, item []byte) api.Hash {
	l := make([]api.Hash, len(b.Txs))
	for i, t := range b.Txs {
		if full, e := tx.Put(nil, t); e == api.OK && i > 0 {
			l[i] = twice(full)
		}
	}
	root := worked(l).root
	return twice(root[:], item)
}

// P8.3: the root of the full names, of which the first is zero, followed by the item.
func TestWanted(t *testing.T) {
	item := sample(32, 1)
	if got, there := Wanted(witnessed(0, item)); got != twice(zeros(32), item) || !there {
		t.Errorf("one transaction: %x, %t", got, there)
	}
	full := tx.Full(plain(1))
	if got, there := Wanted(witnessed(1, item)); got != twice(slices.Concat(func() []byte { h := twice(zeros(32), full[:]); return h[:] }(), item)) || !there {
		t.Errorf("two transactions: %x, %t", got, there)
	}
	for n := range 70 {
		for _, item := range [][]byte{item, zeros(32), sample(32, n)} {
			b := witnessed(n, item)
			if got, there := Wanted(b); got != required(b, item) || !there {
				t.Errorf("%d more, item %x: %x, %t", n, item, got, there)
			}
		}
	}
}

// P8.3: the commitment of a block without other transactions, and with an item of zeros, which is widely known.
func TestKnownCommitment(t *testing.T) {
	s, err := hex.DecodeString("6a24aa21a9ede2f61c3f71d1defd3fa999dfa36953755c690689799962b48bebd836974e8cf9")
	if err != nil {
		t.Fatal(err)
	}
	b := paying([]byte{0x51}, s)
	b.Txs[0].Ins[0].Witness = [][]byte{zeros(32)}
	got, there := Commitment(b)
	want, wanted := Wanted(b)
	if got != want || got != api.Hash(s[6:]) || !there || !wanted {
		t.Errorf("%x, %t; %x, %t", got, there, want, wanted)
	}
}

// P8.3: without exactly one input, with exactly one item, of 32 bytes, nothing is required.
func TestWantedNone(t *testing.T) {
	item := sample(32, 1)
	changes := map[string]func(b *api.Block){
		"no transactions":      func(b *api.Block) { b.Txs = nil },
		"empty transaction":    func(b *api.Block) { b.Txs[0] = api.Tx{} },
		"no input":             func(b *api.Block) { b.Txs[0].Ins = nil },
		"another input":        func(b *api.Block) { b.Txs[0].Ins = append(b.Txs[0].Ins, api.In{}) },
		"another input before": func(b *api.Block) { b.Txs[0].Ins = slices.Insert(b.Txs[0].Ins, 0, api.In{}) },
		"the same input twice": func(b *api.Block) { b.Txs[0].Ins = append(b.Txs[0].Ins, b.Txs[0].Ins[0]) },
		"no item":              func(b *api.Block) { b.Txs[0].Ins[0].Witness = nil },
		"empty witness":        func(b *api.Block) { b.Txs[0].Ins[0].Witness = [][]byte{} },
		"empty item":           func(b *api.Block) { b.Txs[0].Ins[0].Witness = [][]byte{nil} },
		"two items":            func(b *api.Block) { b.Txs[0].Ins[0].Witness = [][]byte{item, item} },
		"an empty item behind": func(b *api.Block) { b.Txs[0].Ins[0].Witness = [][]byte{item, nil} },
		"an empty item before": func(b *api.Block) { b.Txs[0].Ins[0].Witness = [][]byte{nil, item} },
		"two halves":           func(b *api.Block) { b.Txs[0].Ins[0].Witness = [][]byte{item[:16], item[16:]} },
		"first gone":           func(b *api.Block) { b.Txs = b.Txs[1:] },
		"first two turned":     func(b *api.Block) { b.Txs[0], b.Txs[1] = b.Txs[1], b.Txs[0] },
	}
	for what, change := range changes {
		for _, n := range []int{1, 2, 5} {
			b := witnessed(n, item)
			change(&b)
			if got, there := Wanted(b); got != (api.Hash{}) || there {
				t.Errorf("%s, %d more: %x, %t", what, n, got, there)
			}
		}
	}
	if got, there := Wanted(api.Block{}); got != (api.Hash{}) || there {
		t.Errorf("zero block: %x, %t", got, there)
	}
	for n := range 200 {
		b := witnessed(2, sample(300, 1)[:n])
		want := api.Hash{}
		if n == 32 {
			want = required(b, sample(300, 1)[:32])
		}
		if got, there := Wanted(b); got != want || there != (n == 32) {
			t.Errorf("item of %d bytes: %x, %t", n, got, there)
		}
	}
}

// P8.3: what is required hangs on the item, on every other transaction and its witness, and on nothing else.
func TestWantedHangs(t *testing.T) {
	item := sample(32, 1)
	was, _ := Wanted(witnessed(4, item))
	for what, change := range map[string]func(b *api.Block){
		"header":           func(b *api.Block) { b.Header = api.Header{Version: 7, Root: one(1)} },
		"first's version":  func(b *api.Block) { b.Txs[0].Version++ },
		"first's output":   func(b *api.Block) { b.Txs[0].Outs[0].Value++ },
		"its commitment":   func(b *api.Block) { b.Txs[0].Outs = append(b.Txs[0].Outs, api.Out{Script: script(one(1), 0)}) },
		"first's input":    func(b *api.Block) { b.Txs[0].Ins[0].Prev.Tx = one(4) },
		"first is invalid": func(b *api.Block) { b.Txs[0].Outs = nil },
	} {
		b := witnessed(4, item)
		change(&b)
		if got, there := Wanted(b); got != was || !there {
			t.Errorf("%s: %x, %t", what, got, there)
		}
	}
	for what, change := range map[string]func(b *api.Block){
		"item":             func(b *api.Block) { b.Txs[0].Ins[0].Witness[0][31] ^= 1 },
		"item, first byte": func(b *api.Block) { b.Txs[0].Ins[0].Witness[0][0] ^= 1 },
		"second":           func(b *api.Block) { b.Txs[1].Version ^= 1 << 31 },
		"last":             func(b *api.Block) { b.Txs[4].Lock++ },
		"a witness":        func(b *api.Block) { b.Txs[3].Ins[0].Witness[0][0] ^= 1 },
		"a witness gone":   func(b *api.Block) { b.Txs[3].Ins[0].Witness = nil },
		"turned":           func(b *api.Block) { b.Txs[1], b.Txs[2] = b.Txs[2], b.Txs[1] },
		"one invalid":      func(b *api.Block) { b.Txs[2].Ins = nil },
		"one less":         func(b *api.Block) { b.Txs = b.Txs[:4] },
	} {
		b := witnessed(4, slices.Clone(item))
		change(&b)
		got, there := Wanted(b)
		if got == was || !there || got != required(b, b.Txs[0].Ins[0].Witness[0]) {
			t.Errorf("%s: %x, %t", what, got, there)
		}
	}
	b := witnessed(4, item)
	b.Txs = append(b.Txs, b.Txs[4])
	if got, there := Wanted(b); got != was || !there {
		t.Errorf("last one twice: %x, %t", got, there)
	}
}

// R4: no argument is changed, nor what lies behind it, and no result shares memory with one, or with another.
func TestMemory(t *testing.T) {
	for n := range 20 {
		whole := some(n + 9)
		l, right := whole[:n], worked(some(n))
		Root(l)
		texts, again := Texts(l), Texts(l)
		if !slices.Equal(whole, some(n+9)) {
			t.Fatalf("%d hashes are changed", n)
		}
		for i := range texts {
			for j := range texts[i] {
				texts[i][j] ^= 0xff
			}
			texts[i] = append(texts[i], 1, 2, 3)
			for j := i + 1; j < len(texts); j++ {
				if !slices.Equal(texts[j], right.texts[j]) {
					t.Fatalf("%d hashes: text %d changes with %d", n, j, i)
				}
			}
		}
		if !sameTexts(again, right.texts) {
			t.Fatalf("%d hashes: another result changes with a result", n)
		}
		for i := range l {
			branch, _ := Branch(l, i)
			other, _ := Branch(l, i)
			Fold(l[i], i, n, branch)
			if !slices.Equal(branch, right.branch[i]) {
				t.Fatalf("%d hashes: Fold changes branch %d", n, i)
			}
			branch = branch[:cap(branch)]
			clear(branch)
			if !slices.Equal(other, right.branch[i]) || !slices.Equal(whole, some(n+9)) {
				t.Fatalf("%d hashes: something changes with branch %d", n, i)
			}
		}
		branches := make([][]api.Hash, n)
		for i := range l {
			branches[i], _ = Branch(l, i)
		}
		clear(whole)
		for i := range branches {
			if !slices.Equal(branches[i], right.branch[i]) {
				t.Fatalf("%d hashes: branch %d changes with what was given", n, i)
			}
		}
		if !sameTexts(again, right.texts) {
			t.Fatalf("%d hashes: texts change with what was given", n)
		}
	}
}

// R4, R6: blocks are not changed, and the same call answers the same, whatever was called before.
func TestSameAgain(t *testing.T) {
	item := sample(32, 1)
	b, c := witnessed(5, item), witnessed(5, sample(32, 1))
	b.Txs[0].Outs = append(b.Txs[0].Outs, api.Out{Script: script(one(1), 2)})
	c.Txs[0].Outs = append(c.Txs[0].Outs, api.Out{Script: script(one(1), 2)})
	first, _ := Wanted(b)
	for range 3 {
		Root(some(7))
		Wanted(witnessed(2, item[:31]))
		Commitment(paying())
		want, wanted := Wanted(b)
		got, there := Commitment(b)
		if want != first || !wanted || got != one(1) || !there {
			t.Errorf("answers otherwise: %x, %t, %x, %t", want, wanted, got, there)
		}
	}
	if b.Header != c.Header || !slices.EqualFunc(b.Txs, c.Txs, tx.Same) {
		t.Error("the block is changed")
	}
}
