package header

import (
	"crypto/sha256"
	"encoding/binary"
	"encoding/hex"
	"math"
	"slices"
	"strings"
	"testing"

	"spinney/api"
	"spinney/sha"
)

// sample returns n bytes that differ from place to place, and from those of another seed.
func sample(n, seed int) []byte {
	b := make([]byte, n)
	for i := range b {
		b[i] = byte(i*11 + seed*29 + 1)
	}
	return b
}

// of returns the bytes that digits stand for.
func of(t *testing.T, digits string) []byte {
	t.Helper()
	b, err := hex.DecodeString(digits)
	if err != nil {
		t.Fatal(err)
	}
	return b
}

// first returns the header of the chapter's last example.
func first(t *testing.T) api.Header {
	t.Helper()
	return api.Header{Version: 1, Root: api.Hash(of(t, "3ba3edfd7a7b12b27ac72c3e67768f617fc81bc3888a51323a9fb8aa4b1e5e4a")), Time: 1231006505, Bits: 0x1d00ffff, Nonce: 2083236893}
}

// filled returns a header whose bytes all differ from their neighbours, and from those of another seed.
func filled(seed int) api.Header {
	return api.Header{
		Version: uint32(0x01020304 + seed*0x01010101),
		Prev:    api.Hash(sample(32, seed)),
		Root:    api.Hash(sample(32, seed+1)),
		Time:    uint32(0x85868788 + seed*0x01010101),
		Bits:    uint32(0x494a4b4c + seed*0x01010101),
		Nonce:   uint32(0xcdcecfd0 + seed*0x01010101),
	}
}

// changes are the six fields, each with what sets it to a number: of the hashes, the first four bytes and the last four.
func changes() map[string]func(h *api.Header, n uint32) {
	hash := func(h *api.Hash, n uint32) {
		binary.LittleEndian.PutUint32(h[:4], n)
		binary.BigEndian.PutUint32(h[28:], n)
	}
	return map[string]func(h *api.Header, n uint32){
		"Version": func(h *api.Header, n uint32) { h.Version = n },
		"Prev":    func(h *api.Header, n uint32) { hash(&h.Prev, n) },
		"Root":    func(h *api.Header, n uint32) { hash(&h.Root, n) },
		"Time":    func(h *api.Header, n uint32) { h.Time = n },
		"Bits":    func(h *api.Header, n uint32) { h.Bits = n },
		"Nonce":   func(h *api.Header, n uint32) { h.Nonce = n },
	}
}

// edges are the numbers at the edges of four bytes, of each byte of them and of their sign.
func edges() []uint32 {
	l := []uint32{0, 1, 2, 127, 128, 255, 256, 257, 258, 0xff00, 0xffff, 0x10000, 0xffffff, 0x01000000, 0x01020304, math.MaxInt32, math.MaxInt32 + 1, math.MaxUint32 - 1, math.MaxUint32}
	for i := range 32 {
		l = append(l, 1<<i, ^uint32(1<<i))
	}
	return l
}

// headers are many different ones: ordinary ones, and each field at its edges among zeros and among others.
func headers(t *testing.T) []api.Header {
	t.Helper()
	set := map[api.Header]bool{{}: true, first(t): true}
	for seed := range 50 {
		set[filled(seed)] = true
	}
	for _, change := range changes() {
		for _, n := range edges() {
			for _, h := range []api.Header{{}, filled(3)} {
				change(&h, n)
				set[h] = true
			}
		}
	}
	var l []api.Header
	for h := range set {
		l = append(l, h)
	}
	return l
}

// written returns, from elsewhere, the bytes of h.
func written(h api.Header) []byte {
	b := binary.LittleEndian.AppendUint32(nil, h.Version)
	b = append(b, h.Prev[:]...)
	b = append(b, h.Root[:]...)
	b = binary.LittleEndian.AppendUint32(b, h.Time)
	b = binary.LittleEndian.AppendUint32(b, h.Bits)
	return binary.LittleEndian.AppendUint32(b, h.Nonce)
}

// read returns, from elsewhere, the header with the bytes b.
func read(b []byte) api.Header {
	return api.Header{
		Version: binary.LittleEndian.Uint32(b),
		Prev:    api.Hash(b[4:36]),
		Root:    api.Hash(b[36:68]),
		Time:    binary.LittleEndian.Uint32(b[68:]),
		Bits:    binary.LittleEndian.Uint32(b[72:]),
		Nonce:   binary.LittleEndian.Uint32(b[76:]),
	}
}

// twice returns, from elsewhere, the double digest.
func twice(b []byte) api.Hash {
	once := sha256.Sum256(b)
	return sha256.Sum256(once[:])
}

// P6.1: the examples of the chapter.
func TestExamples(t *testing.T) {
	b := Put(api.Header{Version: 1, Time: 2, Bits: 3, Nonce: 258})
	want := slices.Concat(of(t, "01000000"), make([]byte, 64), of(t, "020000000300000002010000"))
	if !slices.Equal(b, want) {
		t.Errorf("Put: %x", b)
	}
	for n, want := range map[int]api.Errno{79: api.ErrForm, 81: api.ErrForm, 80: api.OK} {
		if h, e := Get(make([]byte, n)); e != want || h != (api.Header{}) {
			t.Errorf("Get of %d bytes: %v, %d", n, h, e)
		}
	}
	if got := Text(ID(first(t))); got != "000000000019d6689c085ae165831e934ff763ae46a2a6c172b3f1b60a8ce26f" {
		t.Errorf("ID: %s", got)
	}
}

// P6.1: every number stands with its lowest byte first, every hash as it is, each at its place, and nothing else does.
func TestPut(t *testing.T) {
	got := Put(filled(0))
	want := slices.Concat(of(t, "04030201"), sample(32, 0), sample(32, 1), of(t, "888786854c4b4a49d0cfcecd"))
	if !slices.Equal(got, want) {
		t.Errorf("Put: %x, not %x", got, want)
	}
	for _, h := range headers(t) {
		if got := Put(h); len(got) != api.HeaderSize || !slices.Equal(got, written(h)) {
			t.Errorf("Put(%v): %x, not %x", h, got, written(h))
		}
	}
}

// P6.1: of the fields, each has its own bytes, and changes none beside them.
func TestPlaces(t *testing.T) {
	places := map[string][2]int{"Version": {0, 4}, "Prev": {4, 36}, "Root": {36, 68}, "Time": {68, 72}, "Bits": {72, 76}, "Nonce": {76, 80}}
	for what, change := range changes() {
		from, to := places[what][0], places[what][1]
		for _, n := range edges() {
			h := filled(3)
			was := Put(h)
			change(&h, n)
			got := Put(h)
			if !slices.Equal(got[:from], was[:from]) || !slices.Equal(got[to:], was[to:]) {
				t.Errorf("%s %#x changes bytes beside its own: %x", what, n, got)
			}
			four := binary.LittleEndian.AppendUint32(nil, n)
			if !slices.Equal(got[from:from+4], four) {
				t.Errorf("%s %#x: %x", what, n, got[from:to])
			}
		}
	}
}

// P6.1: bytes are a header if they are 80, whatever lies behind them in memory.
func TestGetLengths(t *testing.T) {
	long := sample(20000, 5)
	lengths := []int{255, 256, 1<<8 + 80, 1<<12 + 80, 8192, 20000}
	for n := range 200 {
		lengths = append(lengths, n)
	}
	for _, n := range lengths {
		for _, b := range [][]byte{sample(n, 5), long[:n], make([]byte, n)} {
			h, e := Get(b)
			switch {
			case n == api.HeaderSize && (e != api.OK || h != read(b)):
				t.Errorf("Get(%x): %v, %d", b, h, e)
			case n != api.HeaderSize && (e != api.ErrForm || h != api.Header{}):
				t.Errorf("Get of %d bytes: %v, %d", n, h, e)
			}
		}
	}
	for _, b := range [][]byte{nil, {}} {
		if h, e := Get(b); e != api.ErrForm || h != (api.Header{}) {
			t.Errorf("Get of none: %v, %d", h, e)
		}
	}
	two := slices.Concat(Put(filled(0)), Put(filled(1)))
	if h, e := Get(two); e != api.ErrForm || h != (api.Header{}) {
		t.Errorf("Get of two headers: %v, %d", h, e)
	}
}

// P6.1: each bit of the bytes is read where it belongs; no 80 bytes are refused.
func TestGetBits(t *testing.T) {
	for _, b := range [][]byte{make([]byte, 80), slices.Repeat([]byte{0xff}, 80), sample(80, 7), Put(filled(9))} {
		for i := range 8 * len(b) {
			b[i/8] ^= 1 << (i % 8)
			if h, e := Get(b); e != api.OK || h != read(b) {
				t.Errorf("Get(%x): %v, %d", b, h, e)
			}
			b[i/8] ^= 1 << (i % 8)
		}
	}
}

// P6.1: a name is the double digest of the bytes, all of them.
func TestID(t *testing.T) {
	for _, h := range headers(t) {
		if got := ID(h); got != twice(written(h)) || got != sha.Twice(Put(h)) {
			t.Errorf("ID(%v): %x", h, got)
		}
	}
	b := sample(80, 11)
	for i := range 8 * len(b) {
		b[i/8] ^= 1 << (i % 8)
		if got := ID(read(b)); got != twice(b) {
			t.Errorf("bit %d: %x", i, got)
		}
		b[i/8] ^= 1 << (i % 8)
	}
}

// P6.1: a header that stands on another has its name as Prev; both names are widely known.
func TestKnownNames(t *testing.T) {
	root := of(t, "0e3e2357e806b6cdb1f70b54c3a3a17b6714ee1f0e68bebb44a74b1efd512098")
	slices.Reverse(root)
	h := api.Header{Version: 1, Prev: ID(first(t)), Root: api.Hash(root), Time: 1231469665, Bits: 0x1d00ffff, Nonce: 2573394689}
	if got := Text(ID(h)); got != "00000000839a8e6886ab5951d76f411475428afc90947ee320161bbf18eb6048" {
		t.Errorf("ID: %s", got)
	}
	b := of(t, "01000000"+
		"6fe28c0ab6f1b372c1a6a246ae63f74f931e8365e15a089c68d6190000000000"+
		"982051fd1e4ba744bbbe680e1fee14677ba1a3c3540bf7b1cdb606e857233e0e"+
		"61bc6649ffff001d01e36299")
	if got := Put(h); !slices.Equal(got, b) {
		t.Errorf("Put: %x", got)
	}
	if got, e := Get(b); e != api.OK || got != h {
		t.Errorf("Get: %v, %d", got, e)
	}
}

// P6.1: the digits of a hash are those of its last byte first, of each byte the higher one first.
func TestText(t *testing.T) {
	h := api.Hash(of(t, "00112233445566778899aabbccddeeff0123456789abcdef1032547698badcfe"))
	if got := Text(h); got != "fedcba9876543210efcdab8967452301ffeeddccbbaa99887766554433221100" {
		t.Errorf("Text: %s", got)
	}
	if got := Text(api.Hash{}); got != strings.Repeat("0", 64) {
		t.Errorf("Text of zero: %s", got)
	}
	for place := range 32 {
		for b := range 256 {
			h := api.Hash(sample(32, 13))
			h[place] = byte(b)
			was := h
			turned := slices.Clone(h[:])
			slices.Reverse(turned)
			if got := Text(h); got != hex.EncodeToString(turned) {
				t.Errorf("Text(%x): %s", h, got)
			}
			if h != was {
				t.Errorf("Text changes %x to %x", was, h)
			}
		}
	}
}

// P6.2: what is put is got as it was.
func TestPutGet(t *testing.T) {
	for _, h := range headers(t) {
		if got, e := Get(Put(h)); e != api.OK || got != h {
			t.Errorf("Get of Put(%v): %v, %d", h, got, e)
		}
	}
}

// P6.2: what is got, and put again, is the bytes that were read.
func TestGetPut(t *testing.T) {
	for seed := range 300 {
		b := sample(80, seed)
		for i := range b {
			b[i] ^= byte(i * seed >> 2)
		}
		h, e := Get(b)
		if again := Put(h); e != api.OK || !slices.Equal(again, b) {
			t.Errorf("Put of Get(%x): %x, %d", b, again, e)
		}
	}
}

// P6.2: different headers have different bytes, and different bytes are those of different headers.
func TestDifferent(t *testing.T) {
	by := map[string]api.Header{}
	for _, h := range headers(t) {
		b := string(Put(h))
		if other, there := by[b]; there {
			t.Errorf("%v and %v have the same bytes", h, other)
		}
		by[b] = h
	}
	b := sample(80, 17)
	was, _ := Get(b)
	for i := range 8 * len(b) {
		b[i/8] ^= 1 << (i % 8)
		if h, _ := Get(b); h == was {
			t.Errorf("bit %d isn't seen", i)
		}
		b[i/8] ^= 1 << (i % 8)
	}
}

// R4: what is given is neither changed nor kept, and what is answered is new memory.
func TestNewMemory(t *testing.T) {
	h := filled(21)
	one, two := Put(h), Put(h)
	for i := range one {
		one[i] ^= 0xff
	}
	_ = append(one, 1, 2, 3)
	if h != filled(21) || !slices.Equal(two, written(h)) || !slices.Equal(Put(h), two) {
		t.Error("Put shares memory")
	}
	whole := sample(100, 22)
	b := whole[10:90]
	got, _ := Get(b)
	want := read(b)
	if !slices.Equal(whole, sample(100, 22)) {
		t.Error("Get changes what it is given")
	}
	clear(whole)
	if got != want {
		t.Error("Get keeps what it is given")
	}
	ID(h)
	if h != filled(21) {
		t.Error("ID changes what it is given")
	}
}

// R6: the same call answers the same, whatever was called before.
func TestSameAgain(t *testing.T) {
	for seed := range 5 {
		h := filled(seed)
		b, id, text := Put(h), ID(h), Text(h.Prev)
		Get(sample(81, 1))
		Get(Put(filled(seed + 1)))
		ID(filled(seed + 2))
		if !slices.Equal(Put(h), b) || ID(h) != id || Text(h.Prev) != text {
			t.Errorf("%v answers otherwise", h)
		}
	}
}
