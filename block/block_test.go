package block

import (
	"crypto/sha256"
	"encoding/binary"
	"encoding/hex"
	"math"
	"slices"
	"strings"
	"testing"

	"spinney/api"
	"spinney/bytes"
	"spinney/tx"
)

// sample returns n bytes that differ from place to place, and from those of another seed.
func sample(n, seed int) []byte {
	b := make([]byte, n)
	for i := range b {
		b[i] = byte(i*11 + seed*29 + 1)
	}
	return b
}

// of returns the bytes that digits stand for; spaces are for the eye.
func of(t *testing.T, digits string) []byte {
	t.Helper()
	b, err := hex.DecodeString(strings.ReplaceAll(digits, " ", ""))
	if err != nil {
		t.Fatal(err)
	}
	return b
}

// simple returns the transaction of chapter 5's examples.
func simple() api.Tx {
	return api.Tx{Version: 1, Ins: []api.In{{Sequence: 5}}, Outs: []api.Out{{Value: 7, Script: []byte{0x51}}}, Lock: 9}
}

// plain returns a transaction that is not witnessed, and differs from that of another seed. It has 60 bytes and those of its scripts.
func plain(seed, script, locking int) api.Tx {
	return api.Tx{
		Version: uint32(0x01020304 + seed),
		Ins:     []api.In{{Prev: api.OutPoint{Tx: api.Hash(sample(32, seed)), Index: uint32(0x81a2b3c4 + seed)}, Script: sample(script, seed+1), Sequence: uint32(0xf1e2d3c4 - seed)}},
		Outs:    []api.Out{{Value: int64(0x0102030405060708 + seed), Script: sample(locking, seed+2)}},
		Lock:    uint32(0xa1b2c3d4 + seed),
	}
}

// pair returns a transaction of two inputs and two outputs; only the second input has a witness.
func pair(seed int) api.Tx {
	t := plain(seed, 3, 2)
	t.Ins = append(t.Ins, plain(seed+1, 0, 0).Ins[0])
	t.Ins[1].Witness = [][]byte{sample(4, seed), nil}
	t.Outs = append(t.Outs, plain(seed+1, 0, 4).Outs[0])
	return t
}

// largest returns the valid transaction of which everything is at its limit.
func largest() api.Tx {
	t := api.Tx{Version: math.MaxUint32, Lock: math.MaxUint32}
	for i := range api.MaxIns {
		in := plain(i, api.MaxScript, 0).Ins[0]
		for j := range api.MaxItems {
			in.Witness = append(in.Witness, sample(api.MaxItem, i+j))
		}
		t.Ins = append(t.Ins, in)
		t.Outs = append(t.Outs, plain(i, 0, api.MaxScript).Outs[0])
	}
	return t
}

// top returns a header whose bytes all differ from their neighbours, and from those of another seed.
func top(seed int) api.Header {
	return api.Header{
		Version: uint32(0x01020304 + seed),
		Prev:    api.Hash(sample(32, seed)),
		Root:    api.Hash(sample(32, seed+1)),
		Time:    uint32(0x85868788 + seed),
		Bits:    uint32(0x494a4b4c + seed),
		Nonce:   uint32(0xcdcecfd0 + seed),
	}
}

// given returns the block of the chapter's examples.
func given() api.Block { return api.Block{Txs: []api.Tx{simple()}} }

// many returns a block of n small transactions.
func many(n int) api.Block {
	x := api.Block{Header: top(n)}
	for i := range n {
		x.Txs = append(x.Txs, plain(i, i%3, i%2))
	}
	return x
}

// ofSize returns a block whose encoding has n bytes, in as few transactions of one input and one output as do.
func ofSize(n int) api.Block {
	x := api.Block{Header: top(n)}
	left := n - 81
	count := (left + 315) / 316
	for i := range count {
		scripts := left/(count-i) - 60
		left -= scripts + 60
		x.Txs = append(x.Txs, plain(i, scripts/2, scripts-scripts/2))
	}
	return x
}

// witnessedOfSize returns a block whose encoding has n bytes, most of them those of witnesses.
func witnessedOfSize(n int) api.Block {
	x := api.Block{Header: top(n), Txs: []api.Tx{pair(1), plain(2, 0, 0)}}
	for i := range 8 {
		x.Txs[1].Ins = append(x.Txs[1].Ins, plain(i, 0, 0).Ins[0])
	}
	// Each item is as long as it can be; the byte of its length is there before it is filled.
	for place := 0; len(written(x)) < n; place++ {
		w := &x.Txs[1].Ins[place/api.MaxItems].Witness
		*w = append(*w, nil)
		(*w)[len(*w)-1] = sample(min(n-len(written(x)), api.MaxItem), place)
	}
	return x
}

// valid are blocks that are.
func valid() []api.Block {
	return []api.Block{
		given(),
		{Header: top(1), Txs: []api.Tx{plain(1, 2, 3)}},
		{Header: top(2), Txs: []api.Tx{pair(1)}},
		{Header: top(3), Txs: []api.Tx{plain(1, 0, 0), pair(2), plain(3, 4, 1)}},
		{Header: top(4), Txs: []api.Tx{pair(2), pair(2), pair(3)}},
		{Header: top(5), Txs: []api.Tx{plain(1, 128, 128), plain(1, 128, 128)}},
		{Header: api.Header{Version: math.MaxUint32}, Txs: []api.Tx{{Ins: []api.In{{Script: []byte{}, Witness: [][]byte{}}}, Outs: []api.Out{{Script: []byte{}}}}}},
		many(2),
		many(31),
		many(api.MaxTxs),
		ofSize(api.MaxBlock - 1),
		ofSize(api.MaxBlock),
		witnessedOfSize(api.MaxBlock),
	}
}

// refused are transactions that are not valid.
func refused() []api.Tx {
	long, heavy, items := plain(1, 129, 0), plain(2, 0, 0), plain(3, 0, 0)
	heavy.Ins[0].Witness = [][]byte{sample(129, 1)}
	items.Ins[0].Witness = make([][]byte, 9)
	ins, outs := plain(4, 0, 0), plain(5, 0, 0)
	ins.Ins, outs.Outs = make([]api.In, 17), make([]api.Out, 17)
	return []api.Tx{{}, {Ins: simple().Ins}, {Outs: simple().Outs}, long, plain(1, 0, 129), heavy, items, ins, outs}
}

// counted returns, from elsewhere, the shortest form of n.
func counted(n int) []byte {
	if n < 253 {
		return []byte{byte(n)}
	}
	return binary.LittleEndian.AppendUint16([]byte{253}, uint16(n))
}

// written returns, from elsewhere, the bytes of x, whether it is valid or not; its transactions are.
func written(x api.Block) []byte {
	b := binary.LittleEndian.AppendUint32(nil, x.Header.Version)
	b = append(b, x.Header.Prev[:]...)
	b = append(b, x.Header.Root[:]...)
	b = binary.LittleEndian.AppendUint32(b, x.Header.Time)
	b = binary.LittleEndian.AppendUint32(b, x.Header.Bits)
	b = binary.LittleEndian.AppendUint32(b, x.Header.Nonce)
	b = append(b, counted(len(x.Txs))...)
	for _, t := range x.Txs {
		full, _ := tx.Put(nil, t)
		b = append(b, full...)
	}
	return b
}

// twice returns, from elsewhere, the double digest.
func twice(b []byte) api.Hash {
	once := sha256.Sum256(b)
	return sha256.Sum256(once[:])
}

// judged tells, from elsewhere, how the bytes b are to be received.
func judged(b []byte) api.Errno {
	switch {
	case len(b) > 8192:
		return api.ErrLong
	case len(b) < 81:
		return api.ErrForm
	}
	n, shortest, behind := uint64(b[80]), uint64(0), append(slices.Clone(b[81:]), make([]byte, 8)...)
	width := 0
	switch n {
	case 253:
		n, shortest, width = uint64(binary.LittleEndian.Uint16(behind)), 253, 2
	case 254:
		n, shortest, width = uint64(binary.LittleEndian.Uint32(behind)), 1<<16, 4
	case 255:
		n, shortest, width = binary.LittleEndian.Uint64(behind), 1<<32, 8
	}
	switch {
	case len(b) < 81+width || n < shortest || n == 0:
		return api.ErrForm
	case n > 32:
		return api.ErrLong
	}
	r := bytes.Open(b[81+width:])
	for range n {
		if _, e := tx.Parse(r); e != api.OK {
			return e
		}
	}
	if r.Left() > 0 {
		return api.ErrForm
	}
	return api.OK
}

// zero tells whether x is the zero block.
func zero(x api.Block) bool { return x.Header == api.Header{} && len(x.Txs) == 0 }

// hold parses b, holds what is answered against the judge, and returns the error. What is parsed, and put again, is b.
func hold(t *testing.T, b []byte) api.Errno {
	t.Helper()
	want := judged(b)
	x, e := Parse(b)
	if e != want {
		t.Fatalf("Parse(%x): %d, not %d", b, e, want)
	}
	if e != api.OK {
		if !zero(x) {
			t.Fatalf("Parse(%x): error %d beside %v", b, e, x)
		}
		return e
	}
	again, putE := Put(x)
	if putE != api.OK || !slices.Equal(again, b) || !slices.Equal(written(x), b) {
		t.Fatalf("Parse(%x), put again: %x, %d", b, again, putE)
	}
	return e
}

// equal tells, from elsewhere, whether two blocks have the same fields.
func equal(a, b api.Block) bool {
	if a.Header != b.Header || len(a.Txs) != len(b.Txs) {
		return false
	}
	for i := range a.Txs {
		if !tx.Same(a.Txs[i], b.Txs[i]) {
			return false
		}
	}
	return true
}

// P7.1, P7.2: the examples of the chapter.
func TestExamples(t *testing.T) {
	b, e := Put(given())
	if e != api.OK || len(b) != 142 || b[80] != 1 {
		t.Fatalf("Put: %x, %d", b, e)
	}
	if x, e := Parse(b); e != api.OK || !Same(x, given()) {
		t.Errorf("Parse: %v, %d", x, e)
	}
	for _, other := range [][]byte{b[:141], append(slices.Clone(b), 0), make([]byte, 80), make([]byte, 81)} {
		if x, e := Parse(other); e != api.ErrForm || !zero(x) {
			t.Errorf("Parse of %d bytes: %v, %d", len(other), x, e)
		}
	}
	if x, e := Parse(make([]byte, 8193)); e != api.ErrLong || !zero(x) {
		t.Errorf("Parse of 8193 bytes: %v, %d", x, e)
	}
	if b, e := Put(api.Block{}); e != api.ErrForm || len(b) != 0 {
		t.Errorf("Put without transactions: %x, %d", b, e)
	}
	if b, e := Put(many(33)); e != api.ErrLong || len(b) != 0 {
		t.Errorf("Put with 33: %x, %d", b, e)
	}
}

// P7.1, P7.2: every byte at its place, of a block with a transaction that is witnessed behind one that is not.
func TestPlaces(t *testing.T) {
	x := api.Block{Header: top(0), Txs: []api.Tx{simple(), {Version: 2, Ins: []api.In{{Script: []byte{0xab}, Witness: [][]byte{{0xaa}}}}, Outs: []api.Out{{Value: -2}}, Lock: 3}}}
	want := slices.Concat(of(t, "04030201"), sample(32, 0), sample(32, 1), of(t, "88878685 4c4b4a49 d0cfcecd"), of(t, "02"+
		"01000000 01 "+zeros(36)+" 00 05000000 01 0700000000000000 01 51 09000000"+
		"02000000 0001 01 "+zeros(36)+" 01 ab 00000000 01 feffffffffffffff 00 01 01 aa 03000000"))
	if b, e := Put(x); e != api.OK || !slices.Equal(b, want) {
		t.Errorf("Put: %x, %d", b, e)
	}
	if got, e := Parse(want); e != api.OK || !equal(got, x) {
		t.Errorf("Parse: %v, %d", got, e)
	}
}

// zeros returns the digits of n bytes 0.
func zeros(n int) string { return strings.Repeat("00", n) }

// P7.1 to P7.4: the first block of a chain that is widely known.
func TestKnownBlock(t *testing.T) {
	b := of(t, "01000000"+zeros(32)+"3ba3edfd7a7b12b27ac72c3e67768f617fc81bc3888a51323a9fb8aa4b1e5e4a 29ab5f49 ffff001d 1dac2b7c 01"+
		"01000000 01"+zeros(32)+"ffffffff 4d"+
		"04ffff001d0104455468652054696d65732030332f4a616e2f32303039204368616e63656c6c6f72206f6e206272696e6b206f66207365636f6e64206261696c6f757420666f722062616e6b73"+
		"ffffffff 01 00f2052a01000000 43"+
		"4104678afdb0fe5548271967f1a67130b7105cd6a828e03909a67962e0ea1f61deb649f6bc3f4cef38c4f35504e51ec112de5c384df7ba0b8d578a4c702b6bf11d5fac"+
		"00000000")
	x, e := Parse(b)
	if e != api.OK || len(b) != 285 || len(x.Txs) != 1 || x.Header.Nonce != 2083236893 || x.Txs[0].Outs[0].Value != 5000000000 {
		t.Fatalf("Parse: %v, %d", x, e)
	}
	if again, e := Put(x); e != api.OK || !slices.Equal(again, b) {
		t.Errorf("Put: %x, %d", again, e)
	}
	if l := IDs(x); len(l) != 1 || l[0] != x.Header.Root {
		t.Errorf("IDs: %x", l)
	}
	if l := Fulls(x); len(l) != 1 || l[0] != (api.Hash{}) {
		t.Errorf("Fulls: %x", l)
	}
}

// P7.1: what is valid is put, the header first, then the number, then the transactions.
func TestPut(t *testing.T) {
	for i, x := range valid() {
		if b, e := Put(x); e != api.OK || !slices.Equal(b, written(x)) {
			t.Errorf("valid %d: %x, %d", i, b, e)
		}
	}
}

// P7.1: a block has 1 to 32 transactions; their number is told before all that they are.
func TestPutCounts(t *testing.T) {
	counts := []int{100, 252, 253, 256, 257, 300, 1<<16 + 1}
	for n := range 40 {
		counts = append(counts, n)
	}
	for _, n := range counts {
		want := api.OK
		switch {
		case n == 0:
			want = api.ErrForm
		case n > 32:
			want = api.ErrLong
		}
		x := api.Block{Header: top(1), Txs: slices.Repeat([]api.Tx{simple()}, n)}
		if b, e := Put(x); e != want || (e == api.OK) != slices.Equal(b, written(x)) || (e != api.OK && len(b) != 0) {
			t.Errorf("%d transactions: %x, %d", n, b, e)
		}
		if n == 0 || n > 32 {
			x.Txs = make([]api.Tx, n)
			if b, e := Put(x); e != want || len(b) != 0 {
				t.Errorf("%d transactions that are not valid: %x, %d", n, b, e)
			}
		}
	}
	if b, e := Put(api.Block{Header: top(1), Txs: []api.Tx{}}); e != api.ErrForm || len(b) != 0 {
		t.Errorf("an empty list: %x, %d", b, e)
	}
}

// P7.1: at every place a transaction that is not valid tells its error, the first one before others, and before too many bytes.
func TestPutRefused(t *testing.T) {
	for i, bad := range refused() {
		want := tx.Check(bad)
		if want == api.OK {
			t.Fatalf("%d is valid", i)
		}
		for place := range api.MaxTxs {
			for what, x := range map[string]api.Block{"small": many(api.MaxTxs), "too many bytes": {Txs: slices.Repeat([]api.Tx{plain(1, 128, 128)}, api.MaxTxs)}} {
				x.Txs[place] = bad
				if b, e := Put(x); e != want || len(b) != 0 {
					t.Errorf("not valid %d at %d, %s: %x, %d, not %d", i, place, what, b, e, want)
				}
				for _, other := range refused() {
					if place+1 < len(x.Txs) {
						x.Txs[len(x.Txs)-1] = other
					}
					if b, e := Put(x); e != want || len(b) != 0 {
						t.Errorf("not valid %d at %d, %s, and another: %x, %d, not %d", i, place, what, b, e, want)
					}
				}
			}
		}
		if b, e := Put(api.Block{Txs: []api.Tx{bad}}); e != want || len(b) != 0 {
			t.Errorf("not valid %d alone: %x, %d", i, b, e)
		}
	}
}

// P7.1, P7.2: an encoding has at most 8192 bytes, those of the header and of witnesses among them; and at most that many are read.
func TestLength(t *testing.T) {
	for n := api.MaxBlock - 300; n <= api.MaxBlock+300; n++ {
		for what, x := range map[string]api.Block{"plain": ofSize(n), "witnessed": witnessedOfSize(n)} {
			right := written(x)
			if len(right) != n {
				t.Fatalf("%s, %d bytes: made of %d", what, n, len(right))
			}
			b, e := Put(x)
			got, parseE := Parse(right)
			if n <= 8192 && (e != api.OK || !slices.Equal(b, right) || parseE != api.OK || !equal(got, x)) {
				t.Errorf("%s, %d bytes: Put %d, Parse %d", what, n, e, parseE)
			}
			if n > 8192 && (e != api.ErrLong || len(b) != 0 || parseE != api.ErrLong || !zero(got)) {
				t.Errorf("%s, %d bytes: Put %d, Parse %d", what, n, e, parseE)
			}
		}
	}
	for _, n := range []int{1, 2, api.MaxTxs} {
		x := api.Block{Txs: slices.Repeat([]api.Tx{largest()}, n)}
		if b, e := Put(x); e != api.ErrLong || len(b) != 0 {
			t.Errorf("%d of the largest: %d bytes, %d", n, len(b), e)
		}
	}
}

// changes are such as make a block of a plain transaction, a pair, and a plain one, another one.
func changes() map[string]func(x *api.Block) {
	return map[string]func(x *api.Block){
		"version":           func(x *api.Block) { x.Header.Version++ },
		"prev":              func(x *api.Block) { x.Header.Prev[0] ^= 1 },
		"prev's end":        func(x *api.Block) { x.Header.Prev[31] ^= 128 },
		"root":              func(x *api.Block) { x.Header.Root[0] ^= 1 },
		"root's end":        func(x *api.Block) { x.Header.Root[31] ^= 128 },
		"time":              func(x *api.Block) { x.Header.Time ^= 1 << 31 },
		"bits":              func(x *api.Block) { x.Header.Bits++ },
		"nonce":             func(x *api.Block) { x.Header.Nonce ^= 1 << 31 },
		"no header":         func(x *api.Block) { x.Header = api.Header{} },
		"no transactions":   func(x *api.Block) { x.Txs = nil },
		"first one gone":    func(x *api.Block) { x.Txs = x.Txs[1:] },
		"last one gone":     func(x *api.Block) { x.Txs = x.Txs[:2] },
		"last one twice":    func(x *api.Block) { x.Txs = append(x.Txs, x.Txs[2]) },
		"empty one more":    func(x *api.Block) { x.Txs = append(x.Txs, api.Tx{}) },
		"turned":            func(x *api.Block) { x.Txs[0], x.Txs[2] = x.Txs[2], x.Txs[0] },
		"first for last":    func(x *api.Block) { x.Txs[2] = x.Txs[0] },
		"tx's version":      func(x *api.Block) { x.Txs[0].Version++ },
		"last tx's lock":    func(x *api.Block) { x.Txs[2].Lock++ },
		"second tx's value": func(x *api.Block) { x.Txs[1].Outs[1].Value = -x.Txs[1].Outs[1].Value },
		"script":            func(x *api.Block) { x.Txs[2].Ins[0].Script[0] ^= 1 },
		"script longer":     func(x *api.Block) { x.Txs[2].Outs[0].Script = append(x.Txs[2].Outs[0].Script, 0) },
		"item":              func(x *api.Block) { x.Txs[1].Ins[1].Witness[0][0] ^= 1 },
		"witness gone":      func(x *api.Block) { x.Txs[1].Ins[1].Witness = nil },
		"index":             func(x *api.Block) { x.Txs[0].Ins[0].Prev.Index ^= 1 << 31 },
	}
}

// changed returns the block that the changes are for.
func changed() api.Block {
	return api.Block{Header: top(1), Txs: []api.Tx{plain(1, 2, 3), pair(2), plain(3, 4, 5)}}
}

// P7.1: blocks are the same if the headers and all transactions are, in order; none is the same as an empty list.
func TestSame(t *testing.T) {
	for i, a := range valid() {
		for j, b := range valid() {
			if Same(a, b) != (i == j) {
				t.Errorf("valid %d and %d: %t", i, j, i != j)
			}
		}
	}
	for what, change := range changes() {
		x := changed()
		change(&x)
		if Same(x, changed()) || Same(changed(), x) {
			t.Errorf("%s: the same", what)
		}
		y := changed()
		change(&y)
		if !Same(x, y) {
			t.Errorf("%s, twice: not the same", what)
		}
	}
	if !Same(api.Block{Header: top(1)}, api.Block{Header: top(1), Txs: []api.Tx{}}) || !Same(api.Block{}, api.Block{}) {
		t.Error("no transactions: not the same")
	}
	x, y := given(), given()
	x.Txs[0].Ins[0].Script, x.Txs[0].Ins[0].Witness = []byte{}, [][]byte{}
	if !Same(x, y) || !Same(y, x) {
		t.Error("an empty script, or witness: not the same")
	}
	for _, bad := range refused() {
		if x := (api.Block{Txs: []api.Tx{bad}}); !Same(x, x) || Same(x, given()) {
			t.Errorf("not valid: %v", x)
		}
	}
}

// P7.2, P7.4: what was put is parsed as it was; different blocks have different bytes.
func TestParse(t *testing.T) {
	by := map[string]int{}
	for i, x := range valid() {
		b, _ := Put(x)
		got, e := Parse(b)
		if e != api.OK || !equal(got, x) || !Same(got, x) {
			t.Errorf("valid %d: %v, %d", i, got, e)
		}
		if other, there := by[string(b)]; there {
			t.Errorf("valid %d and %d have the same bytes", i, other)
		}
		by[string(b)] = i
		hold(t, b)
	}
	was, _ := Put(changed())
	for what, change := range changes() {
		x := changed()
		change(&x)
		b, e := Put(x)
		if e != api.OK {
			continue
		}
		if slices.Equal(b, was) {
			t.Errorf("%s: the same bytes", what)
		}
		if got, e := Parse(b); e != api.OK || !equal(got, x) {
			t.Errorf("%s: %v, %d", what, got, e)
		}
	}
}

// P7.2: where bytes are missing at the end, however many, or something follows, there is no block.
func TestParseCut(t *testing.T) {
	for i, x := range valid() {
		b := written(x)
		for n := range b {
			if e := hold(t, b[:n]); e != api.ErrForm {
				t.Errorf("valid %d, %d of %d bytes: %d", i, n, len(b), e)
			}
		}
		for _, behind := range [][]byte{{0}, {1}, {0xff}, {0, 1}, b[80:], b, sample(7, 1)} {
			want := api.ErrForm
			if len(b)+len(behind) > 8192 {
				want = api.ErrLong
			}
			if e := hold(t, slices.Concat(b, behind)); e != want {
				t.Errorf("valid %d, and %x: %d", i, behind, e)
			}
		}
	}
	for _, b := range [][]byte{nil, {}} {
		if x, e := Parse(b); e != api.ErrForm || !zero(x) {
			t.Errorf("no bytes: %v, %d", x, e)
		}
	}
}

// P7.2: more than 8192 bytes are too many, whatever they are; as many as that are looked at.
func TestParseLong(t *testing.T) {
	for _, n := range []int{8193, 8194, 9000, 16384, 1<<16 + 100, 1 << 20} {
		for i, begin := range [][]byte{nil, {1, 2}, written(given()), make([]byte, 82), slices.Repeat([]byte{0xff}, 100), written(ofSize(8192))} {
			b := append(slices.Clone(begin), make([]byte, n-len(begin))...)
			if x, e := Parse(b); e != api.ErrLong || !zero(x) {
				t.Errorf("%d bytes, beginning %d: %v, %d", n, i, x, e)
			}
		}
	}
	for what, b := range map[string][]byte{
		"zeros":            make([]byte, 8192),
		"a block and more": append(written(ofSize(8191)), 0),
		"not a form":       append(make([]byte, 80), append([]byte{0xfd, 1, 0}, make([]byte, 8109)...)...),
	} {
		if e := hold(t, b); len(b) != 8192 || e != api.ErrForm {
			t.Errorf("%s: %d", what, e)
		}
	}
}

// P7.2: each number of transactions, in each form, with as many behind it as fit, and with none.
func TestParseCounts(t *testing.T) {
	top := written(api.Block{Header: top(1)})[:80]
	one, _ := tx.Put(nil, simple())
	for _, n := range []uint64{0, 1, 2, 31, 32, 33, 34, 127, 128, 252, 253, 255, 256, 257, 1<<16 - 1, 1 << 16, 1<<16 + 1, 1<<32 - 1, 1 << 32, 1<<32 + 1, 1 << 40, 1<<63 - 1, 1 << 63, math.MaxUint64} {
		for form, x := range []struct {
			b           []byte
			least, most uint64
		}{
			{[]byte{byte(n)}, 0, 252},
			{binary.LittleEndian.AppendUint16([]byte{253}, uint16(n)), 253, 1<<16 - 1},
			{binary.LittleEndian.AppendUint32([]byte{254}, uint32(n)), 1 << 16, 1<<32 - 1},
			{binary.LittleEndian.AppendUint64([]byte{255}, n), 1 << 32, math.MaxUint64},
		} {
			if n > x.most {
				continue
			}
			want := api.OK
			switch {
			case n < x.least || n == 0:
				want = api.ErrForm
			case n > 32:
				want = api.ErrLong
			}
			begin := slices.Concat(top, x.b)
			whole := slices.Concat(begin, slices.Repeat(one, int(min(n, 100))))
			if e := hold(t, whole); e != want {
				t.Errorf("%d, form %d: %d", n, form, e)
			}
			alone := want
			if want == api.OK {
				alone = api.ErrForm // for what is missing behind it
			}
			if e := hold(t, begin); e != alone {
				t.Errorf("%d, form %d, none behind: %d", n, form, e)
			}
			for end := range len(x.b) {
				if e := hold(t, begin[:80+end]); e != api.ErrForm {
					t.Errorf("%d, form %d, cut: %d", n, form, e)
				}
			}
		}
	}
}

// P7.2: of several errors the one nearest to the beginning is returned.
func TestParseFirst(t *testing.T) {
	good := "01000000 01 " + zeros(41) + "01 " + zeros(9) + "00000000"
	long := "01000000 11"                         // 17 inputs
	form := "01000000 00"                         // none
	item := good[:len(good)-8] + "00 09"          // 9 items are read as those of a marked one only
	mark := "01000000 0001" + good[8:len(good)-8] // a marked one, without its witness
	for i, x := range []struct {
		b string
		e api.Errno
	}{
		{"00", api.ErrForm},
		{"00" + good, api.ErrForm},
		{"00" + long, api.ErrForm},
		{"21", api.ErrLong},
		{"21" + form, api.ErrLong},
		{"fd2000" + long, api.ErrForm},
		{"fd2100", api.ErrForm},
		{"fdfd00", api.ErrLong},
		{"fdfd", api.ErrForm},
		{"01" + good, api.OK},
		{"01" + good + "00", api.ErrForm},
		{"01" + good + good, api.ErrForm},
		{"01" + good + long, api.ErrForm},
		{"01" + long, api.ErrLong},
		{"01" + form, api.ErrForm},
		{"02" + good, api.ErrForm},
		{"02" + good + good, api.OK},
		{"02" + good + long, api.ErrLong},
		{"02" + good + form, api.ErrForm},
		{"02" + long + form, api.ErrLong},
		{"02" + form + long, api.ErrForm},
		{"03" + good + long, api.ErrLong},
		{"03" + good + good + long + form, api.ErrLong},
		{"03" + good + good + form + long, api.ErrForm},
		{"20" + good + long, api.ErrLong},
		{"01" + mark + "09", api.ErrLong},
		{"01" + mark + "00 00000000", api.ErrForm},
		{"01" + mark + "01 81", api.ErrLong},
		{"01" + mark + "01 00 00000000", api.OK},
		{"01" + mark + "01 00 00000000 00", api.ErrForm},
		{"01" + item, api.ErrForm},
	} {
		b := of(t, zeros(80)+x.b)
		if e := hold(t, b); e != x.e {
			t.Errorf("%d: %d, not %d", i, e, x.e)
		}
	}
}

// P7.2, P7.4: any bytes are refused, or are exactly what is put of what was read: each byte of some blocks changed to each other one, and each removed or doubled.
func TestParseAny(t *testing.T) {
	for _, x := range []api.Block{given(), changed(), valid()[2]} {
		b := written(x)
		for i := range b {
			for c := range 256 {
				other := slices.Clone(b)
				other[i] = byte(c)
				hold(t, other)
			}
			hold(t, slices.Delete(slices.Clone(b), i, i+1))
			hold(t, slices.Insert(slices.Clone(b), i, b[i]))
			hold(t, slices.Insert(slices.Clone(b), i, 0))
			hold(t, slices.Insert(slices.Clone(b), i, 0, 1))
		}
	}
}

// P7.2, P7.4: bytes that are drawn, many of them small, as counts are.
func TestParseDrawn(t *testing.T) {
	state := uint64(7)
	next := func() uint64 {
		state = state*6364136223846793005 + 1442695040888963407
		return state >> 33
	}
	valid := 0
	for range 30000 {
		b := sample(80, int(next()))
		n := next() % 4
		b = append(b, byte(n))
		for range n {
			one, _ := tx.Put(nil, plain(int(next()%100), int(next()%4), int(next()%4)))
			b = append(b, one...)
		}
		for range next() % 3 {
			at := 80 + next()%uint64(len(b)-80)
			b[at] = byte(next() % 4)
		}
		if hold(t, b) == api.OK {
			valid++
		}
	}
	if valid < 5000 || valid > 25000 {
		t.Errorf("%d of the drawn bytes are a block's", valid)
	}
}

// nameless returns the bare bytes of t in another way: the full ones of it without its witnesses.
func nameless(t api.Tx) []byte {
	t.Ins = slices.Clone(t.Ins)
	for i := range t.Ins {
		t.Ins[i].Witness = nil
	}
	b, _ := tx.Put(nil, t)
	return b
}

// P7.3: names are those of the transactions, in order; the first full one is zero; so are those of what is not valid.
func TestNames(t *testing.T) {
	blocks := append(valid(), api.Block{}, api.Block{Txs: []api.Tx{}}, many(33), many(300), api.Block{Txs: slices.Repeat([]api.Tx{largest()}, 3)})
	for place := range 4 {
		for _, bad := range refused() {
			x := api.Block{Header: top(1), Txs: []api.Tx{plain(1, 2, 3), pair(2), plain(3, 4, 5), pair(4)}}
			x.Txs[place] = bad
			blocks = append(blocks, x)
		}
	}
	for i, x := range blocks {
		ids, fulls := IDs(x), Fulls(x)
		if len(ids) != len(x.Txs) || len(fulls) != len(x.Txs) {
			t.Fatalf("block %d: %d and %d names of %d", i, len(ids), len(fulls), len(x.Txs))
		}
		for j, one := range x.Txs {
			full, e := tx.Put(nil, one)
			id, long := twice(nameless(one)), twice(full)
			if e != api.OK {
				id, long = api.Hash{}, api.Hash{}
			}
			if j == 0 {
				long = api.Hash{}
			}
			if ids[j] != id || ids[j] != tx.ID(one) {
				t.Errorf("block %d, name %d: %x", i, j, ids[j])
			}
			if fulls[j] != long || j > 0 && fulls[j] != tx.Full(one) {
				t.Errorf("block %d, full name %d: %x", i, j, fulls[j])
			}
		}
	}
}

// P7.3: a witness shows in the full name alone, and the header in neither.
func TestNamesOfWitnesses(t *testing.T) {
	x := api.Block{Header: top(1), Txs: []api.Tx{pair(1), plain(2, 1, 1), pair(3)}}
	y := api.Block{Header: top(2), Txs: []api.Tx{pair(1), plain(2, 1, 1), pair(3)}}
	y.Txs[0].Ins[1].Witness[0][0] ^= 1
	if !slices.Equal(IDs(x), IDs(y)) || !slices.Equal(Fulls(x), Fulls(y)) {
		t.Error("names hang on the header, or on the first witness")
	}
	y.Txs[2].Ins[1].Witness[0][0] ^= 1
	if !slices.Equal(IDs(x), IDs(y)) || Fulls(x)[2] == Fulls(y)[2] || !slices.Equal(Fulls(x)[:2], Fulls(y)[:2]) {
		t.Error("the last witness")
	}
	if IDs(x)[1] != Fulls(x)[1] || IDs(x)[2] == Fulls(x)[2] {
		t.Error("full names")
	}
}

// texts returns all scripts and items of x.
func texts(x api.Block) [][]byte {
	var l [][]byte
	for _, t := range x.Txs {
		for _, in := range t.Ins {
			l = append(append(l, in.Script), in.Witness...)
		}
		for _, out := range t.Outs {
			l = append(l, out.Script)
		}
	}
	return l
}

// P7.5: what is put is new memory, and nothing that is given changes with it.
func TestPutNewMemory(t *testing.T) {
	for i, x := range valid() {
		b, _ := Put(x)
		again, _ := Put(x)
		right := slices.Clone(again)
		b = b[:cap(b)]
		for j := range b {
			b[j] ^= 0xff
		}
		if !equal(x, valid()[i]) || !slices.Equal(again, right) {
			t.Errorf("valid %d: what was given, or another result, changes with a result", i)
		}
		for _, text := range texts(x) {
			clear(text)
		}
		if !slices.Equal(again, right) {
			t.Errorf("valid %d: a result changes with what was given", i)
		}
	}
}

// P7.5: what is parsed shares no memory with the bytes, with what is parsed from them again, or within itself.
func TestParseNewMemory(t *testing.T) {
	for i, x := range valid() {
		whole := slices.Concat(sample(5, 1), written(x), sample(50, 2))
		was := slices.Clone(whole)
		b := whole[5 : len(whole)-50]
		one, _ := Parse(b)
		two, _ := Parse(b)
		for place, text := range texts(one) {
			text = append(text, 0xee, 0xee, 0xee)
			for j := range text {
				text[j] ^= 0xff
			}
			text = texts(one)[place]
			for j := range text {
				text[j] ^= 0xff
			}
			for j, other := range texts(one) {
				if j > place && !slices.Equal(other, texts(x)[j]) {
					t.Fatalf("valid %d: text %d changes with text %d", i, j, place)
				}
			}
		}
		for j := range one.Txs {
			one.Txs[j].Ins = append(one.Txs[j].Ins[:0], api.In{Sequence: 77})
			one.Txs[j].Outs = append(one.Txs[j].Outs[:0], api.Out{Value: 77})
			for k := j + 1; k < len(one.Txs); k++ {
				if len(one.Txs[k].Ins) != len(x.Txs[k].Ins) || one.Txs[k].Ins[0].Sequence != x.Txs[k].Ins[0].Sequence || one.Txs[k].Outs[0].Value != x.Txs[k].Outs[0].Value {
					t.Fatalf("valid %d: transaction %d changes with %d", i, k, j)
				}
			}
		}
		if !slices.Equal(whole, was) || !equal(two, x) {
			t.Fatalf("valid %d: what was given, or another result, changes with a result", i)
		}
		clear(whole)
		if !equal(two, x) {
			t.Errorf("valid %d: a result changes with what was given", i)
		}
	}
}

// P7.5: nothing that is given is changed by what only looks at it; names are new memory.
func TestUnchanged(t *testing.T) {
	for i, x := range append(valid(), api.Block{Txs: refused()}) {
		was := append(valid(), api.Block{Txs: refused()})[i]
		Put(x)
		Same(x, x)
		for _, names := range []func(api.Block) []api.Hash{IDs, Fulls} {
			one, two := names(x), names(x)
			right := slices.Clone(two)
			for j := range one {
				one[j][0] ^= 0xff
			}
			if !slices.Equal(two, right) || !slices.Equal(names(x), right) {
				t.Errorf("block %d: names share memory", i)
			}
		}
		if !equal(x, was) {
			t.Errorf("block %d is changed", i)
		}
	}
}

// R6: the same call answers the same, whatever was called before.
func TestSameAgain(t *testing.T) {
	for i, x := range valid() {
		b, _ := Put(x)
		ids, fulls := IDs(x), Fulls(x)
		for _, y := range valid() {
			c, _ := Put(y)
			Parse(c[:len(c)-1])
			Parse(c)
			Fulls(y)
			IDs(y)
		}
		Put(api.Block{Txs: refused()})
		again, _ := Put(x)
		parsed, _ := Parse(b)
		if !slices.Equal(again, b) || !slices.Equal(IDs(x), ids) || !slices.Equal(Fulls(x), fulls) || !equal(parsed, x) {
			t.Errorf("valid %d answers otherwise", i)
		}
	}
}
