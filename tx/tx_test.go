package tx

import (
	"crypto/sha256"
	"encoding/binary"
	"encoding/hex"
	"math"
	"runtime"
	"slices"
	"testing"

	"spinney/api"
	"spinney/bytes"
)

// simple returns the transaction of the chapter's examples.
func simple() api.Tx {
	return api.Tx{Version: 1, Ins: []api.In{{Sequence: 5}}, Outs: []api.Out{{Value: 7, Script: []byte{0x51}}}, Lock: 9}
}

// sample returns n bytes that differ from place to place, and from those of another seed.
func sample(n, seed int) []byte {
	b := make([]byte, n)
	for i := range b {
		b[i] = byte(i*11 + seed*29 + 1)
	}
	return b
}

// items returns a witness whose items have as many bytes as lengths tells.
func items(lengths ...int) [][]byte {
	var l [][]byte
	for i, n := range lengths {
		l = append(l, sample(n, i+100))
	}
	return l
}

// input returns an input whose fields differ from those of another seed.
func input(seed, script int, lengths ...int) api.In {
	return api.In{
		Prev:     api.OutPoint{Tx: api.Hash(sample(32, seed)), Index: uint32(0x81a2b3c4 + seed)},
		Script:   sample(script, seed+1),
		Sequence: uint32(0xf1e2d3c4 - seed),
		Witness:  items(lengths...),
	}
}

// output returns an output with a script of that many bytes.
func output(value int64, script int) api.Out {
	return api.Out{Value: value, Script: sample(script, int(value&15))}
}

// inputs returns n inputs.
func inputs(n int) []api.In {
	var l []api.In
	for i := range n {
		l = append(l, input(i, i%4))
	}
	return l
}

// outputs returns n outputs.
func outputs(n int) []api.Out {
	var l []api.Out
	for i := range n {
		l = append(l, output(int64(i), i%4))
	}
	return l
}

// largest returns the valid transaction of which everything is at its limit.
func largest() api.Tx {
	t := api.Tx{Version: math.MaxUint32, Lock: math.MaxUint32}
	for i := range api.MaxIns {
		t.Ins = append(t.Ins, input(i, api.MaxScript, 128, 128, 128, 128, 128, 128, 128, 128))
	}
	for i := range api.MaxOuts {
		t.Outs = append(t.Outs, output(math.MaxInt64-int64(i), api.MaxScript))
	}
	return t
}

// bares are valid transactions that are not witnessed.
func bares() []api.Tx {
	return []api.Tx{
		simple(),
		{Ins: []api.In{{}}, Outs: []api.Out{{}}},
		{Version: 0x01020304, Ins: []api.In{input(1, 3)}, Outs: []api.Out{output(-1, 0)}, Lock: 0x05060708},
		{Version: math.MaxUint32, Ins: inputs(2), Outs: outputs(3), Lock: math.MaxUint32},
		{Version: 0x80000000, Ins: inputs(api.MaxIns), Outs: outputs(api.MaxOuts), Lock: 1},
		{Version: 0x00010000, Ins: []api.In{input(4, 128)}, Outs: []api.Out{output(math.MinInt64, 128), output(math.MaxInt64, 127), output(api.MaxMoney+1, 1)}},
		{Version: 2, Ins: []api.In{{Witness: [][]byte{}, Script: []byte{}}}, Outs: []api.Out{{Script: []byte{}}}},
	}
}

// witnessed are valid transactions that are.
func witnessed() []api.Tx {
	one := simple()
	one.Ins[0].Witness = [][]byte{{0xaa}}
	empty := simple()
	empty.Ins[0].Witness = [][]byte{nil}
	return []api.Tx{
		one,
		empty,
		{Version: 7, Ins: []api.In{input(1, 0), input(2, 5, 3), input(3, 1)}, Outs: outputs(2), Lock: 3},
		{Version: 8, Ins: []api.In{input(1, 0, 0, 0), input(2, 5)}, Outs: outputs(1)},
		{Version: 9, Ins: []api.In{input(1, 2), input(2, 5), input(3, 0, 128, 0, 1, 127, 2, 0, 64, 128)}, Outs: outputs(4), Lock: 1 << 31},
		largest(),
	}
}

// valid are all of them.
func valid() []api.Tx { return append(bares(), witnessed()...) }

// refused are transactions that are not valid, each with its error.
func refused() []struct {
	t api.Tx
	e api.Errno
} {
	long, nine, heavy := input(1, 129), input(2, 0, 1, 1, 1, 1, 1, 1, 1, 1, 1), input(3, 0, 129)
	last := func(in api.In) []api.In { return append(inputs(15), in) }
	return []struct {
		t api.Tx
		e api.Errno
	}{
		{api.Tx{}, api.ErrForm},
		{api.Tx{Outs: outputs(1)}, api.ErrForm},
		{api.Tx{Ins: []api.In{}, Outs: outputs(1)}, api.ErrForm},
		{api.Tx{Outs: outputs(17)}, api.ErrForm},
		{api.Tx{Outs: []api.Out{output(1, 129)}}, api.ErrForm},
		{api.Tx{Ins: inputs(17), Outs: outputs(1)}, api.ErrLong},
		{api.Tx{Ins: inputs(17)}, api.ErrLong},
		{api.Tx{Ins: inputs(300), Outs: outputs(300)}, api.ErrLong},
		{api.Tx{Ins: inputs(1)}, api.ErrForm},
		{api.Tx{Ins: inputs(16), Outs: []api.Out{}}, api.ErrForm},
		{api.Tx{Ins: []api.In{long}}, api.ErrForm},
		{api.Tx{Ins: []api.In{nine}}, api.ErrForm},
		{api.Tx{Ins: []api.In{heavy}}, api.ErrForm},
		{api.Tx{Ins: inputs(1), Outs: outputs(17)}, api.ErrLong},
		{api.Tx{Ins: inputs(1), Outs: outputs(300)}, api.ErrLong},
		{api.Tx{Ins: []api.In{long}, Outs: outputs(1)}, api.ErrLong},
		{api.Tx{Ins: last(long), Outs: outputs(1)}, api.ErrLong},
		{api.Tx{Ins: []api.In{input(1, 5000)}, Outs: outputs(1)}, api.ErrLong},
		{api.Tx{Ins: []api.In{nine}, Outs: outputs(1)}, api.ErrLong},
		{api.Tx{Ins: []api.In{input(2, 0, 0, 0, 0, 0, 0, 0, 0, 0, 0)}, Outs: outputs(1)}, api.ErrLong},
		{api.Tx{Ins: last(nine), Outs: outputs(1)}, api.ErrLong},
		{api.Tx{Ins: []api.In{heavy}, Outs: outputs(1)}, api.ErrLong},
		{api.Tx{Ins: last(heavy), Outs: outputs(1)}, api.ErrLong},
		{api.Tx{Ins: []api.In{input(3, 0, 1, 1, 1, 1, 1, 1, 1, 129)}, Outs: outputs(1)}, api.ErrLong},
		{api.Tx{Ins: inputs(1), Outs: []api.Out{output(1, 129)}}, api.ErrLong},
		{api.Tx{Ins: inputs(1), Outs: append(outputs(15), output(1, 129))}, api.ErrLong},
	}
}

// second is a second implementation of the encoding: it writes what it is told, valid or not.
type second struct{ b []byte }

func (s *second) four(n uint32) { s.b = binary.LittleEndian.AppendUint32(s.b, n) }

func (s *second) count(n int) {
	switch {
	case n < 253:
		s.b = append(s.b, byte(n))
	default:
		s.b = binary.LittleEndian.AppendUint16(append(s.b, 253), uint16(n))
	}
}

func (s *second) text(t []byte) {
	s.count(len(t))
	s.b = append(s.b, t...)
}

// write writes the bytes of t, those with witnesses or those without.
func (s *second) write(t api.Tx, witnesses bool) []byte {
	s.four(t.Version)
	if witnesses {
		s.b = append(s.b, 0, 1)
	}
	s.count(len(t.Ins))
	for _, in := range t.Ins {
		s.b = append(s.b, in.Prev.Tx[:]...)
		s.four(in.Prev.Index)
		s.text(in.Script)
		s.four(in.Sequence)
	}
	s.count(len(t.Outs))
	for _, out := range t.Outs {
		s.b = binary.LittleEndian.AppendUint64(s.b, uint64(out.Value))
		s.text(out.Script)
	}
	for _, in := range t.Ins {
		if witnesses {
			s.count(len(in.Witness))
			for _, item := range in.Witness {
				s.text(item)
			}
		}
	}
	s.four(t.Lock)
	return s.b
}

// bare returns, from the second implementation, the bare bytes of t.
func bare(t api.Tx) []byte { return new(second).write(t, false) }

// full returns, from the second implementation, the full bytes of t.
func full(t api.Tx) []byte {
	for _, in := range t.Ins {
		if len(in.Witness) > 0 {
			return new(second).write(t, true)
		}
	}
	return bare(t)
}

// twice returns, from elsewhere, the double digest.
func twice(b []byte) api.Hash {
	first := sha256.Sum256(b)
	return sha256.Sum256(first[:])
}

// judge is a second implementation of Parse: it goes over bytes, and panics with the first error.
type judge struct{ rest []byte }

func (j *judge) take(n int) []byte {
	if n > len(j.rest) {
		panic(api.ErrForm)
	}
	b := j.rest[:n]
	j.rest = j.rest[n:]
	return b
}

func (j *judge) count(least, most uint64) int {
	n, shortest := uint64(j.take(1)[0]), uint64(0)
	switch n {
	case 253:
		n, shortest = uint64(binary.LittleEndian.Uint16(j.take(2))), 253
	case 254:
		n, shortest = uint64(binary.LittleEndian.Uint32(j.take(4))), 1<<16
	case 255:
		n, shortest = binary.LittleEndian.Uint64(j.take(8)), 1<<32
	}
	switch {
	case n < shortest || n < least:
		panic(api.ErrForm)
	case n > most:
		panic(api.ErrLong)
	}
	return int(n)
}

// run returns how many bytes the transaction at the beginning has, or the first error.
func (j *judge) run() (n int, e api.Errno) {
	defer func() {
		if what := recover(); what != nil {
			n, e = 0, what.(api.Errno)
		}
	}()
	whole := len(j.rest)
	j.take(4)
	witnesses := len(j.rest) >= 2 && j.rest[0] == 0 && j.rest[1] == 1
	if witnesses {
		j.take(2)
	}
	ins := j.count(1, 16)
	for range ins {
		j.take(36)
		j.take(j.count(0, 128))
		j.take(4)
	}
	for range j.count(1, 16) {
		j.take(8)
		j.take(j.count(0, 128))
	}
	if witnesses {
		all := 0
		for range ins {
			items := j.count(0, 8)
			all += items
			for range items {
				j.take(j.count(0, 128))
			}
		}
		if all == 0 {
			panic(api.ErrForm)
		}
	}
	j.take(4)
	return whole - len(j.rest), api.OK
}

// none tells whether t is the zero transaction.
func none(t api.Tx) bool {
	return t.Version == 0 && t.Lock == 0 && len(t.Ins) == 0 && len(t.Outs) == 0
}

// hold parses b, holds what is answered against the second implementation, and returns the error.
func hold(t *testing.T, b []byte) api.Errno {
	t.Helper()
	want, e := (&judge{b}).run()
	r := bytes.Open(b)
	got, gotE := Parse(r)
	if gotE != e {
		t.Fatalf("Parse(%x): %d, not %d", b, gotE, e)
	}
	if e != api.OK {
		if !none(got) {
			t.Fatalf("Parse(%x): error %d beside %v", b, e, got)
		}
		return e
	}
	if r.Torn() || r.Left() != len(b)-want {
		t.Fatalf("Parse(%x): %d left, torn: %t; not %d", b, r.Left(), r.Torn(), len(b)-want)
	}
	again, putE := Put(nil, got)
	if putE != api.OK || !slices.Equal(again, b[:want]) || !slices.Equal(full(got), b[:want]) {
		t.Fatalf("Parse(%x), written again: %x, %d", b, again, putE)
	}
	return e
}

// heads are bytes that something is put behind.
func heads() [][]byte { return [][]byte{nil, {}, {0}, {0xff}, sample(7, 1), sample(9000, 2)} }

// P5.1 to P5.4: the examples of the chapter.
func TestExamples(t *testing.T) {
	x := simple()
	b, e := Put(nil, x)
	if e != api.OK || len(b) != 61 || hex.EncodeToString(b[:5]) != "0100000001" || hex.EncodeToString(b[46:]) != "010700000000000000015109000000" {
		t.Errorf("Put: %x, %d", b, e)
	}
	y := simple()
	y.Ins[0].Witness = [][]byte{{0xaa}}
	c, e := Put(nil, y)
	if e != api.OK || len(c) != 66 || hex.EncodeToString(c[4:7]) != "000101" {
		t.Errorf("Put with a witness: %x, %d", c, e)
	}
	if ID(x) != ID(y) || Full(x) == Full(y) {
		t.Errorf("names with a witness: %x, %x", ID(y), Full(y))
	}
	x.Ins = nil
	if e := Check(x); e != api.ErrForm {
		t.Errorf("Check without inputs: %d", e)
	}
	x.Ins = make([]api.In, 17)
	if e := Check(x); e != api.ErrLong {
		t.Errorf("Check with 17 inputs: %d", e)
	}
	x = simple()
	x.Outs[0].Script = make([]byte, 129)
	if e := Check(x); e != api.ErrLong {
		t.Errorf("Check with a script of 129 bytes: %d", e)
	}
	if got, e := Parse(bytes.Open(b[:60])); e != api.ErrForm || !none(got) {
		t.Errorf("Parse of 60 bytes: %v, %d", got, e)
	}
	empty := slices.Concat(b[:4], []byte{0, 1}, b[4:57], []byte{0}, b[57:])
	if got, e := Parse(bytes.Open(empty)); e != api.ErrForm || !none(got) {
		t.Errorf("Parse without items: %v, %d", got, e)
	}
}

// P5.1: every transaction within the limits is valid, whatever its numbers; beyond them the counts of inputs, then those of outputs, then the rest tell the error.
func TestCheck(t *testing.T) {
	for i, x := range valid() {
		if e := Check(x); e != api.OK {
			t.Errorf("valid %d: %d", i, e)
		}
	}
	for i, x := range refused() {
		if e := Check(x.t); e != x.e {
			t.Errorf("not valid %d: %d, not %d", i, e, x.e)
		}
	}
	for ins := range 20 {
		for outs := range 20 {
			want := api.OK
			switch {
			case ins == 0:
				want = api.ErrForm
			case ins > 16:
				want = api.ErrLong
			case outs == 0:
				want = api.ErrForm
			case outs > 16:
				want = api.ErrLong
			}
			if e := Check(api.Tx{Ins: inputs(ins), Outs: outputs(outs)}); e != want {
				t.Errorf("%d inputs, %d outputs: %d", ins, outs, e)
			}
		}
	}
}

// P5.1: at every place, a script, a witness and an item may be at their limits, and not beyond.
func TestCheckPlaces(t *testing.T) {
	for place := range 16 {
		for _, over := range []bool{false, true} {
			want, more := api.OK, 0
			if over {
				want, more = api.ErrLong, 1
			}
			for what, change := range map[string]func(x *api.Tx){
				"script of an input":  func(x *api.Tx) { x.Ins[place].Script = sample(128+more, 1) },
				"script of an output": func(x *api.Tx) { x.Outs[place].Script = sample(128+more, 1) },
				"items":               func(x *api.Tx) { x.Ins[place].Witness = make([][]byte, 8+more) },
				"item":                func(x *api.Tx) { x.Ins[place].Witness = items(128 + more) },
				"item at its place": func(x *api.Tx) {
					x.Ins[15].Witness = items(make([]int, 8)...)
					x.Ins[15].Witness[place/2] = sample(128+more, 1)
				},
				"script beside others": func(x *api.Tx) { *x = largest(); x.Ins[place].Script = sample(128+more, 1) },
			} {
				x := api.Tx{Ins: inputs(16), Outs: outputs(16)}
				change(&x)
				if e := Check(x); e != want {
					t.Errorf("%s, place %d, over its limit: %t: %d", what, place, over, e)
				}
			}
		}
	}
}

// P5.1: an item, even one without bytes, of any input, makes it witnessed; whether it is valid or not.
func TestWitnessed(t *testing.T) {
	for i, x := range bares() {
		if Witnessed(x) {
			t.Errorf("bare %d is witnessed", i)
		}
	}
	for i, x := range witnessed() {
		if !Witnessed(x) {
			t.Errorf("witnessed %d is not", i)
		}
	}
	for place := range 20 {
		for _, w := range [][][]byte{{nil}, {{}}, {{0}}, {{}, {}}, make([][]byte, 20), {make([]byte, 500)}} {
			x := api.Tx{Ins: inputs(20)}
			if Witnessed(x) {
				t.Error("inputs without a witness: witnessed")
			}
			x.Ins[place].Witness = w
			if !Witnessed(x) {
				t.Errorf("input %d with the witness %x: not witnessed", place, w)
			}
		}
	}
	for i, w := range [][][]byte{nil, {}} {
		if Witnessed(api.Tx{Ins: []api.In{{Witness: w}, {Witness: w}}, Outs: outputs(1)}) {
			t.Errorf("no items %d: witnessed", i)
		}
	}
	if Witnessed(api.Tx{}) || Witnessed(api.Tx{Outs: outputs(1)}) {
		t.Error("no inputs: witnessed")
	}
}

// changes are such as make a transaction of two inputs and two outputs, the first one with a witness, another one.
func changes() map[string]func(x *api.Tx) {
	return map[string]func(x *api.Tx){
		"version":              func(x *api.Tx) { x.Version ^= 1 << 31 },
		"lock":                 func(x *api.Tx) { x.Lock++ },
		"input fewer":          func(x *api.Tx) { x.Ins = x.Ins[:1] },
		"first input fewer":    func(x *api.Tx) { x.Ins = x.Ins[1:] },
		"no inputs":            func(x *api.Tx) { x.Ins = nil },
		"input more":           func(x *api.Tx) { x.Ins = append(x.Ins, x.Ins[1]) },
		"empty input more":     func(x *api.Tx) { x.Ins = append(x.Ins, api.In{}) },
		"inputs turned":        func(x *api.Tx) { x.Ins[0], x.Ins[1] = x.Ins[1], x.Ins[0] },
		"name":                 func(x *api.Tx) { x.Ins[0].Prev.Tx[31] ^= 1 },
		"name's first byte":    func(x *api.Tx) { x.Ins[1].Prev.Tx[0] ^= 128 },
		"index":                func(x *api.Tx) { x.Ins[1].Prev.Index ^= 1 << 31 },
		"script":               func(x *api.Tx) { x.Ins[1].Script[2] ^= 1 },
		"script shorter":       func(x *api.Tx) { x.Ins[0].Script = x.Ins[0].Script[:2] },
		"script longer":        func(x *api.Tx) { x.Ins[0].Script = append(x.Ins[0].Script, 0) },
		"script gone":          func(x *api.Tx) { x.Ins[0].Script = nil },
		"sequence":             func(x *api.Tx) { x.Ins[1].Sequence++ },
		"item":                 func(x *api.Tx) { x.Ins[0].Witness[1][1] ^= 1 },
		"item shorter":         func(x *api.Tx) { x.Ins[0].Witness[0] = x.Ins[0].Witness[0][:1] },
		"item fewer":           func(x *api.Tx) { x.Ins[0].Witness = x.Ins[0].Witness[:1] },
		"empty item more":      func(x *api.Tx) { x.Ins[0].Witness = append(x.Ins[0].Witness, nil) },
		"items turned":         func(x *api.Tx) { x.Ins[0].Witness = [][]byte{x.Ins[0].Witness[1], x.Ins[0].Witness[0]} },
		"items joined":         func(x *api.Tx) { x.Ins[0].Witness = [][]byte{slices.Concat(x.Ins[0].Witness...)} },
		"witness gone":         func(x *api.Tx) { x.Ins[0].Witness = nil },
		"witness of the other": func(x *api.Tx) { x.Ins[1].Witness = items(0) },
		"output fewer":         func(x *api.Tx) { x.Outs = x.Outs[:1] },
		"no outputs":           func(x *api.Tx) { x.Outs = nil },
		"empty output more":    func(x *api.Tx) { x.Outs = append(x.Outs, api.Out{}) },
		"outputs turned":       func(x *api.Tx) { x.Outs[0], x.Outs[1] = x.Outs[1], x.Outs[0] },
		"value":                func(x *api.Tx) { x.Outs[1].Value ^= math.MinInt64 },
		"value below 0":        func(x *api.Tx) { x.Outs[0].Value = -x.Outs[0].Value },
		"output's script":      func(x *api.Tx) { x.Outs[0].Script[0] ^= 1 },
		"output's script gone": func(x *api.Tx) { x.Outs[1].Script = nil },
	}
}

// pair returns a transaction of two inputs and two outputs, each time in new memory.
func pair() api.Tx {
	return api.Tx{Version: 3, Ins: []api.In{input(1, 3, 2, 4), input(2, 3)}, Outs: []api.Out{output(5, 3), output(6, 2)}, Lock: 4}
}

// P5.1: any field that differs makes two transactions different.
func TestSame(t *testing.T) {
	if !Same(pair(), pair()) {
		t.Error("the same one twice: false")
	}
	for what, change := range changes() {
		x := pair()
		change(&x)
		if Same(x, pair()) || Same(pair(), x) {
			t.Errorf("%s: still the same", what)
		}
		y := pair()
		change(&y)
		if !Same(x, y) {
			t.Errorf("%s, twice: false", what)
		}
	}
	l := valid()
	for _, x := range refused() {
		l = append(l, x.t)
	}
	for i, x := range l {
		for j, y := range l {
			if want := slices.Equal(new(second).write(x, true), new(second).write(y, true)); Same(x, y) != want {
				t.Errorf("%d and %d: %t", i, j, !want)
			}
		}
	}
}

// P5.1: nil is equal to what is there without bytes, items or elements.
func TestSameNil(t *testing.T) {
	a := api.Tx{Ins: []api.In{{}, {Witness: [][]byte{nil, {}}}}, Outs: []api.Out{{}}}
	b := api.Tx{Ins: []api.In{{Script: []byte{}, Witness: [][]byte{}}, {Witness: [][]byte{{}, nil}}}, Outs: []api.Out{{Script: []byte{}}}}
	if !Same(a, b) || !Same(b, a) {
		t.Error("nil and empty: false")
	}
	if c := (api.Tx{Ins: []api.In{}, Outs: []api.Out{}}); !Same(api.Tx{}, c) || !Same(c, api.Tx{}) {
		t.Error("no elements: false")
	}
}

// P5.2: the full bytes and the bare ones are put behind b.
func TestPut(t *testing.T) {
	for i, x := range valid() {
		for _, b := range heads() {
			if got, e := Put(b, x); e != api.OK || !slices.Equal(got, slices.Concat(b, full(x))) {
				t.Errorf("Put(%d bytes, valid %d): %x, %d", len(b), i, got, e)
			}
			if got, e := Bare(b, x); e != api.OK || !slices.Equal(got, slices.Concat(b, bare(x))) {
				t.Errorf("Bare(%d bytes, valid %d): %x, %d", len(b), i, got, e)
			}
		}
	}
}

// P5.2: what is not valid is refused with the error of Check, and nothing of it, nor of b, is returned.
func TestPutRefused(t *testing.T) {
	for i, x := range refused() {
		for _, b := range heads() {
			if got, e := Put(b, x.t); e != x.e || len(got) != 0 {
				t.Errorf("Put(%d bytes, not valid %d): %x, %d", len(b), i, got, e)
			}
			if got, e := Bare(b, x.t); e != x.e || len(got) != 0 {
				t.Errorf("Bare(%d bytes, not valid %d): %x, %d", len(b), i, got, e)
			}
		}
	}
}

// P5.2, P5.6: results are new memory, even where b has room behind it, and nothing that is given changes.
func TestPutNewMemory(t *testing.T) {
	for i := range valid() {
		for what, put := range map[string]func([]byte, api.Tx) ([]byte, api.Errno){"Put": Put, "Bare": Bare} {
			x := valid()[i]
			whole := sample(1<<16, i)
			was := slices.Clone(whole)
			b := whole[5:20]
			got, _ := put(b, x)
			again, _ := put(b, x)
			right := slices.Clone(again)
			if !Same(x, valid()[i]) || !slices.Equal(whole, was) {
				t.Errorf("%s, valid %d: what was given, or what lies behind it, is changed", what, i)
			}
			got = got[:cap(got)]
			for j := range got {
				got[j] ^= 0xff
			}
			if !Same(x, valid()[i]) || !slices.Equal(whole, was) || !slices.Equal(again, right) {
				t.Errorf("%s, valid %d: what was given, or another result, changes with a result", what, i)
			}
			clear(whole)
			for _, in := range x.Ins {
				clear(in.Script)
			}
			if !slices.Equal(again, right) {
				t.Errorf("%s, valid %d: a result changes with what was given", what, i)
			}
		}
	}
}

// P5.3, P5.5: what was put is read as it was, whatever precedes and follows it, and nothing else is.
func TestParse(t *testing.T) {
	for i, x := range valid() {
		b, _ := Put(nil, x)
		for _, behind := range [][]byte{nil, {0}, {0, 1}, {0xff, 0xff, 0xff}, b, sample(200, 5)} {
			r := bytes.Open(slices.Concat([]byte{9}, b, behind))
			r.Take(1)
			got, e := Parse(r)
			if e != api.OK || !Same(got, x) || r.Torn() || !slices.Equal(r.Take(r.Left()), behind) {
				t.Errorf("valid %d, and %x: %v, %d", i, behind, got, e)
			}
			hold(t, slices.Concat(b, behind))
		}
	}
}

// P5.5: transactions that are put one behind the other are read back, and then the reader is at its end.
func TestParseMany(t *testing.T) {
	var b []byte
	for _, x := range valid() {
		b, _ = Put(b, x)
	}
	r := bytes.Open(b)
	for i, x := range valid() {
		if got, e := Parse(r); e != api.OK || !Same(got, x) {
			t.Errorf("valid %d: %v, %d", i, got, e)
		}
	}
	if !r.End() {
		t.Error("not at the end")
	}
}

// P5.3: where bytes are missing at the end, however many, there is no transaction.
func TestParseCut(t *testing.T) {
	for i, x := range valid() {
		b := full(x)
		for n := range b {
			if e := hold(t, b[:n]); e != api.ErrForm {
				t.Errorf("valid %d, %d of %d bytes: %d", i, n, len(b), e)
			}
		}
	}
}

// P5.3, R1: nor is there one in a reader from which nothing can be read.
func TestParseShut(t *testing.T) {
	torn := bytes.Open(full(simple()))
	torn.Num(3)
	for i, r := range []*bytes.Reader{nil, {}, torn, bytes.Open(nil)} {
		if got, e := Parse(r); e != api.ErrForm || !none(got) || !r.Torn() {
			t.Errorf("reader %d: %v, %d", i, got, e)
		}
	}
}

// forms returns the bytes that may claim to be a count of n, each with the error for that count and that limit.
func forms(n uint64, least, most uint64) []struct {
	b []byte
	e api.Errno
} {
	one, two := append([]byte{}, byte(n)), binary.LittleEndian.AppendUint16([]byte{253}, uint16(n))
	four, eight := binary.LittleEndian.AppendUint32([]byte{254}, uint32(n)), binary.LittleEndian.AppendUint64([]byte{255}, n)
	var l []struct {
		b []byte
		e api.Errno
	}
	for _, f := range []struct {
		b          []byte
		from, upTo uint64
	}{{one, 0, 252}, {two, 253, 1<<16 - 1}, {four, 1 << 16, 1<<32 - 1}, {eight, 1 << 32, math.MaxUint64}} {
		if n > f.upTo {
			continue
		}
		e := api.OK
		switch {
		case n < f.from || n < least:
			e = api.ErrForm
		case n > most:
			e = api.ErrLong
		}
		l = append(l, struct {
			b []byte
			e api.Errno
		}{f.b, e})
	}
	return l
}

// P5.3: each count at its edges, in every form, with what it counts behind it and with nothing: the first error is that of the count.
func TestParseCounts(t *testing.T) {
	zeros := make([]byte, 3000)
	head := []byte{1, 0, 0, 0}
	in := make([]byte, 41)
	out := make([]byte, 9)
	marked := slices.Concat(head, []byte{0, 1})
	for _, x := range []struct {
		what        string
		before      []byte
		least, most uint64
	}{
		{"inputs", head, 1, 16},
		{"inputs, marked", marked, 1, 16},
		{"script of an input", slices.Concat(head, []byte{1}, in[:36]), 0, 128},
		{"script of a second input", slices.Concat(marked, []byte{2}, in, in[:36]), 0, 128},
		{"outputs", slices.Concat(head, []byte{1}, in), 1, 16},
		{"outputs, marked", slices.Concat(marked, []byte{1}, in), 1, 16},
		{"script of an output", slices.Concat(head, []byte{1}, in, []byte{1}, out[:8]), 0, 128},
		{"script of a second output", slices.Concat(marked, []byte{1}, in, []byte{2}, out, out[:8]), 0, 128},
		{"items", slices.Concat(marked, []byte{1}, in, []byte{1}, out), 0, 8},
		{"items of a second input", slices.Concat(marked, []byte{2}, in, in, []byte{1}, out, []byte{1, 0}), 0, 8},
		{"item", slices.Concat(marked, []byte{1}, in, []byte{1}, out, []byte{1}), 0, 128},
		{"second item", slices.Concat(marked, []byte{1}, in, []byte{1}, out, []byte{2, 1, 7}), 0, 128},
	} {
		for _, n := range []uint64{0, 1, 2, 7, 8, 9, 15, 16, 17, 127, 128, 129, 252, 253, 1 << 16, 1 << 32, 1 << 63, math.MaxUint64} {
			for _, f := range forms(n, x.least, x.most) {
				b := slices.Concat(x.before, f.b)
				for end := range f.b {
					if e := hold(t, slices.Concat(x.before, f.b[:end])); e != api.ErrForm {
						t.Errorf("%s, %x cut after %d: %d", x.what, f.b, end, e)
					}
				}
				want := f.e
				if want == api.OK {
					want = api.ErrForm // for what is missing behind it
				}
				if e := hold(t, b); e != want {
					t.Errorf("%s, %x and nothing: %d", x.what, f.b, e)
				}
				if e := hold(t, slices.Concat(b, zeros)); f.e != api.OK && e != f.e {
					t.Errorf("%s, %x and zeros: %d", x.what, f.b, e)
				}
			}
		}
	}
}

// P5.3: of several errors the one nearest to the beginning is returned.
func TestParseFirst(t *testing.T) {
	for place, x := range []struct {
		b string
		e api.Errno
	}{
		{"01000000 11", api.ErrLong},
		{"01000000 fd1000 11", api.ErrForm},
		{"01000000 fd1100", api.ErrForm},
		{"01000000 00", api.ErrForm},
		{"01000000 00 02", api.ErrForm},
		{"01000000 00 01", api.ErrForm},
		{"01000000 0001 00", api.ErrForm},
		{"01000000 0001 0001", api.ErrForm},
		{"01000000 0001 11", api.ErrLong},
		{"010000", api.ErrForm},
		{"01000000 01 " + zeros(36) + "81", api.ErrLong},
		{"01000000 01 " + zeros(36) + "80 " + zeros(127), api.ErrForm},
		{"01000000 01 " + zeros(41) + "00", api.ErrForm},
		{"01000000 01 " + zeros(41) + "11", api.ErrLong},
		{"01000000 02 " + zeros(41) + zeros(36) + "81", api.ErrLong},
		{"01000000 02 " + zeros(41) + zeros(35), api.ErrForm},
		{"01000000 01 " + zeros(41) + "01 " + zeros(8) + "81", api.ErrLong},
		{"01000000 0001 01 " + zeros(41) + "01 " + zeros(9) + "09", api.ErrLong},
		{"01000000 0001 01 " + zeros(41) + "01 " + zeros(9) + "01 81", api.ErrLong},
		{"01000000 0001 01 " + zeros(41) + "01 " + zeros(9) + "00 00000000", api.ErrForm},
		{"01000000 0001 01 " + zeros(41) + "01 " + zeros(9) + "01 00 000000", api.ErrForm},
		{"01000000 0001 02 " + zeros(82) + "01 " + zeros(9) + "00 09", api.ErrLong},
		{"01000000 0001 02 " + zeros(82) + "01 " + zeros(9) + "00 00 11", api.ErrForm},
	} {
		b, _ := hex.DecodeString(noSpaces(x.b))
		if e := hold(t, b); e != x.e {
			t.Errorf("%d: %d, not %d", place, e, x.e)
		}
	}
}

// zeros returns the digits of n bytes 0.
func zeros(n int) string { return hex.EncodeToString(make([]byte, n)) }

// noSpaces returns s without spaces.
func noSpaces(s string) string {
	return string(slices.DeleteFunc([]byte(s), func(c byte) bool { return c == ' ' }))
}

// P5.3, P5.5: any bytes are refused, or are exactly what is put of what was read: each byte of some transactions changed to each other one, and each removed or doubled.
func TestParseAny(t *testing.T) {
	l := []api.Tx{simple(), bares()[2], bares()[3], witnessed()[0], witnessed()[1], witnessed()[2], witnessed()[3]}
	for _, x := range l {
		b := full(x)
		for i := range b {
			for c := range 256 {
				changed := slices.Clone(b)
				changed[i] = byte(c)
				hold(t, changed)
				hold(t, append(changed, sample(300, c)...))
			}
			hold(t, slices.Delete(slices.Clone(b), i, i+1))
			hold(t, slices.Insert(slices.Clone(b), i, b[i]))
			hold(t, slices.Insert(slices.Clone(b), i, 0))
			hold(t, slices.Insert(slices.Clone(b), i, 0, 1))
		}
	}
}

// P5.3, P5.5: bytes that are drawn, many of them small, as counts are.
func TestParseDrawn(t *testing.T) {
	state := uint64(5)
	next := func() uint64 {
		state = state*6364136223846793005 + 1442695040888963407
		return state >> 33
	}
	valid := 0
	for range 200000 {
		b := make([]byte, 4, 300)
		if next()%2 == 0 {
			b = append(b, 0, 1)
		}
		for range next() % 290 {
			c := byte(next() % 4)
			if next()%40 == 0 {
				c = byte(next())
			}
			b = append(b, c)
		}
		if hold(t, b) == api.OK {
			valid++
		}
	}
	if valid < 1000 {
		t.Errorf("only %d of the drawn bytes are a transaction's", valid)
	}
}

// P5.4: names are double digests of the bare and of the full bytes.
func TestNames(t *testing.T) {
	for i, x := range valid() {
		if ID(x) != twice(bare(x)) || Full(x) != twice(full(x)) {
			t.Errorf("valid %d: %x, %x", i, ID(x), Full(x))
		}
	}
	for i, x := range refused() {
		if (ID(x.t) != api.Hash{} || Full(x.t) != api.Hash{}) {
			t.Errorf("not valid %d: %x, %x", i, ID(x.t), Full(x.t))
		}
	}
}

// P5.3, P5.4: the one transaction of the block of chapter 6's example has the name that is its Root there.
func TestKnownName(t *testing.T) {
	b, _ := hex.DecodeString("01000000010000000000000000000000000000000000000000000000000000000000000000ffffffff4d" +
		"04ffff001d0104455468652054696d65732030332f4a616e2f32303039204368616e63656c6c6f72206f6e206272696e6b206f66207365636f6e64206261696c6f757420666f722062616e6b73" +
		"ffffffff0100f2052a0100000043" +
		"4104678afdb0fe5548271967f1a67130b7105cd6a828e03909a67962e0ea1f61deb649f6bc3f4cef38c4f35504e51ec112de5c384df7ba0b8d578a4c702b6bf11d5fac" +
		"00000000")
	x, e := Parse(bytes.Open(b))
	if e != api.OK || len(x.Ins) != 1 || x.Ins[0].Prev.Index != math.MaxUint32 || len(x.Outs) != 1 || x.Outs[0].Value != 5000000000 {
		t.Fatalf("Parse: %v, %d", x, e)
	}
	for _, h := range []api.Hash{ID(x), Full(x)} {
		if hex.EncodeToString(h[:]) != "3ba3edfd7a7b12b27ac72c3e67768f617fc81bc3888a51323a9fb8aa4b1e5e4a" {
			t.Errorf("name: %x", h)
		}
	}
}

// P5.5: a witness changes the bytes of the full name, not those of the name; every other field changes those of both, and with them, here, the names.
func TestWitnessAndNames(t *testing.T) {
	of := map[string]bool{"item": true, "item shorter": true, "item fewer": true, "empty item more": true, "items turned": true, "items joined": true, "witness gone": true, "witness of the other": true}
	for what, change := range changes() {
		x := pair()
		change(&x)
		if Check(x) != api.OK {
			continue
		}
		if (ID(x) == ID(pair())) != of[what] {
			t.Errorf("%s: the name is the same: %t", what, !of[what])
		}
		if Full(x) == Full(pair()) {
			t.Errorf("%s: the full name is the same", what)
		}
	}
	for i, x := range bares() {
		if ID(x) != Full(x) {
			t.Errorf("bare %d has two names", i)
		}
	}
}

// texts returns all scripts and items of t.
func texts(t api.Tx) [][]byte {
	var l [][]byte
	for _, in := range t.Ins {
		l = append(append(l, in.Script), in.Witness...)
	}
	for _, out := range t.Outs {
		l = append(l, out.Script)
	}
	return l
}

// P5.6: what is parsed shares no memory with the bytes, with what is parsed from them again, or within itself.
func TestParseNewMemory(t *testing.T) {
	for i, x := range valid() {
		b := full(x)
		was := slices.Clone(b)
		one, _ := Parse(bytes.Open(b))
		for place := range texts(one) {
			got, _ := Parse(bytes.Open(b))
			other, _ := Parse(bytes.Open(b))
			l := texts(got)
			l[place] = append(l[place][:len(l[place]):cap(l[place])], 0xee, 0xee, 0xee)
			for j := range l[place] {
				l[place][j] ^= 0xff
			}
			for j, text := range texts(one) {
				if j != place && !slices.Equal(text, l[j]) {
					t.Fatalf("valid %d: text %d changes with text %d", i, j, place)
				}
			}
			if !slices.Equal(b, was) || !Same(other, x) {
				t.Fatalf("valid %d: what was given, or another result, changes with a result", i)
			}
		}
		clear(b)
		if !Same(one, x) {
			t.Errorf("valid %d: a result changes with what was given", i)
		}
		for j := range one.Ins {
			for k := range one.Ins {
				w := append(one.Ins[j].Witness, []byte{1})
				if j != k && len(one.Ins[k].Witness) > 0 && &w[0] == &one.Ins[k].Witness[0] {
					t.Errorf("valid %d: the witnesses %d and %d share memory", i, j, k)
				}
			}
		}
	}
}

// P5.6: nothing that is given is changed by what only looks at it, nor is it by Parse.
func TestUnchanged(t *testing.T) {
	for i, x := range valid() {
		Check(x)
		Witnessed(x)
		ID(x)
		Full(x)
		Same(x, x)
		if !Same(x, valid()[i]) {
			t.Errorf("valid %d is changed", i)
		}
	}
}

// P5.6: whatever counts are claimed, no more memory is taken than what the limits allow needs.
func TestParseLittleMemory(t *testing.T) {
	head := []byte{1, 0, 0, 0}
	in, out := make([]byte, 41), make([]byte, 9)
	for what, before := range map[string][]byte{
		"inputs":  head,
		"script":  slices.Concat(head, []byte{1}, in[:36]),
		"outputs": slices.Concat(head, []byte{1}, in),
		"locking": slices.Concat(head, []byte{1}, in, []byte{1}, out[:8]),
		"items":   slices.Concat(head, []byte{0, 1, 1}, in, []byte{1}, out),
		"item":    slices.Concat(head, []byte{0, 1, 1}, in, []byte{1}, out, []byte{1}),
	} {
		for _, n := range []uint64{16, 128, 252, 1<<16 - 1, 1 << 20, 1<<32 - 1, 1 << 33, 1<<40 + 1, 1<<63 - 1, 1 << 63, math.MaxUint64} {
			for _, f := range forms(n, 0, math.MaxUint64) {
				r := bytes.Open(slices.Concat(before, f.b))
				var from, to runtime.MemStats
				runtime.ReadMemStats(&from)
				_, e := Parse(r)
				runtime.ReadMemStats(&to)
				if took := to.TotalAlloc - from.TotalAlloc; e == api.OK || took > 1<<16 {
					t.Errorf("%s, a count of %d: %d; %d bytes taken", what, n, e, took)
				}
			}
		}
	}
	got, e := Parse(bytes.Open(full(largest())))
	if e != api.OK || len(got.Ins) != api.MaxIns || len(got.Outs) != api.MaxOuts || len(got.Ins[15].Witness) != api.MaxItems || len(got.Ins[15].Witness[7]) != api.MaxItem || len(got.Outs[15].Script) != api.MaxScript {
		t.Errorf("the largest one: %d", e)
	}
}
