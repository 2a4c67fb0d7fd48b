package bytes

import (
	"encoding/binary"
	"math"
	"slices"
	"strconv"
	"testing"

	"spinney/api"
)

// widths are all that there are.
var widths = []int{1, 2, 4, 8}

// noWidths are wrong ones: beside the widths, below 0, huge, and such as would be a width if bits of them were lost.
var noWidths = []int{
	0, 3, 5, 6, 7, 9, 10, 16, 32, 64, 255, 256, 257, 258, 260, 264, 1<<32 + 1, 1<<32 + 8, 1<<62 + 4,
	-1, -2, -4, -8, -255, -256, -1 << 32, math.MaxInt, math.MinInt, math.MinInt + 1, math.MaxInt32, math.MinInt32,
}

// noCounts are numbers of bytes of which no reader has that many.
var noCounts = []int{-1, -2, -32, math.MinInt, math.MinInt + 1, math.MinInt32, math.MaxInt, math.MaxInt - 1, math.MaxInt32, 1 << 32, 1<<32 + 1, 1 << 62, 1000}

// greatest returns the greatest number of a width.
func greatest(w int) uint64 { return math.MaxUint64 >> (64 - 8*w) }

// numbers are some that fit into a width: the edges, each single bit, and a mix of bytes.
func numbers(w int) []uint64 {
	l := []uint64{0, 1, greatest(w), greatest(w) - 1, greatest(w) / 2, 0x8091a2b3c4d5e6f7 & greatest(w), 0x0102030405060708 & greatest(w)}
	for i := range 8 * w {
		l = append(l, 1<<i)
	}
	return l
}

// written returns, from elsewhere, b followed by n as a number of the width w.
func written(b []byte, w int, n uint64) []byte {
	var all [8]byte
	binary.LittleEndian.PutUint64(all[:], n)
	return append(slices.Clone(b), all[:w]...)
}

// sample returns n bytes that differ from place to place.
func sample(n int) []byte {
	b := make([]byte, n)
	for i := range b {
		b[i] = byte(i*11 + i>>8 + 1)
	}
	return b
}

// closed are readers that Open did not return.
func closed() []*Reader { return []*Reader{nil, {}, new(Reader)} }

// looks tells what a reader shows of itself.
type looks struct {
	left      int
	torn, end bool
}

func look(r *Reader) looks { return looks{r.Left(), r.Torn(), r.End()} }

// tornLooks is what a torn reader shows of itself.
var tornLooks = looks{0, true, false}

// empty tells whether a reader is torn, and everything that is read from it is empty, whatever is asked.
func empty(r *Reader) bool {
	ok := look(r) == tornLooks
	for _, w := range append(slices.Clone(widths), noWidths...) {
		ok = ok && r.Num(w) == 0 && look(r) == tornLooks
	}
	for _, n := range append([]int{0, 1, 2, 3, 4, 8, 32}, noCounts...) {
		ok = ok && len(r.Take(n)) == 0 && len(r.Peek(n)) == 0 && look(r) == tornLooks
	}
	return ok && r.Hash() == api.Hash{} && look(r) == tornLooks
}

// P3.1 to P3.3: the examples of the chapter.
func TestExamples(t *testing.T) {
	if b, e := Put([]byte{7}, 2, 258); e != api.OK || !slices.Equal(b, []byte{7, 2, 1}) {
		t.Errorf("Put(07, 2, 258): %x, %d", b, e)
	}
	if b, e := Put(nil, 1, 256); e != api.ErrArg || len(b) != 0 {
		t.Errorf("Put(none, 1, 256): %x, %d", b, e)
	}
	if b, e := Put(nil, 3, 1); e != api.ErrArg || len(b) != 0 {
		t.Errorf("Put(none, 3, 1): %x, %d", b, e)
	}
	r := Open([]byte{2, 1, 5})
	if n := r.Num(2); n != 258 {
		t.Errorf("Num(2): %d", n)
	}
	if n := r.Left(); n != 1 {
		t.Errorf("Left: %d", n)
	}
	if b := r.Peek(1); !slices.Equal(b, []byte{5}) {
		t.Errorf("Peek(1): %x", b)
	}
	if b := r.Take(1); !slices.Equal(b, []byte{5}) {
		t.Errorf("Take(1): %x", b)
	}
	if !r.End() {
		t.Error("End: false")
	}
	r = Open([]byte{2, 1})
	if a, torn, b, left := r.Num(4), r.Torn(), r.Num(1), r.Left(); a != 0 || !torn || b != 0 || left != 0 {
		t.Errorf("torn: %d, %t, %d, %d", a, torn, b, left)
	}
}

// P3.1: what fits is written behind b, the lowest byte first.
func TestPut(t *testing.T) {
	for _, w := range widths {
		for _, n := range numbers(w) {
			for _, b := range [][]byte{nil, {}, {0}, {0xff}, sample(7), sample(300)} {
				got, e := Put(b, w, n)
				if e != api.OK || !slices.Equal(got, written(b, w, n)) {
					t.Errorf("Put(%d bytes, %d, %#x): %x, %d", len(b), w, n, got, e)
				}
			}
		}
	}
}

// P3.1: what does not fit is refused, from the first number on, and no lower byte of it is written.
func TestPutTooGreat(t *testing.T) {
	for _, w := range []int{1, 2, 4} {
		for _, n := range []uint64{greatest(w) + 1, greatest(w) + 2, 2 * (greatest(w) + 1), 1 << 63, 1<<63 + 1, math.MaxUint64, math.MaxUint64 - greatest(w)} {
			for _, b := range [][]byte{nil, {}, sample(3)} {
				if got, e := Put(b, w, n); e != api.ErrArg || len(got) != 0 {
					t.Errorf("Put(%d bytes, %d, %#x): %x, %d", len(b), w, n, got, e)
				}
			}
		}
		for i := 8 * w; i < 64; i++ {
			if got, e := Put(nil, w, 1<<i); e != api.ErrArg || len(got) != 0 {
				t.Errorf("bit %d in %d bytes: %x, %d", i, w, got, e)
			}
		}
	}
}

// P3.1: other widths are refused, whatever the number, 0 too.
func TestPutNoWidth(t *testing.T) {
	for _, w := range noWidths {
		for _, n := range []uint64{0, 1, 255, 256, math.MaxUint64} {
			for _, b := range [][]byte{nil, {}, sample(3)} {
				if got, e := Put(b, w, n); e != api.ErrArg || len(got) != 0 {
					t.Errorf("Put(%d bytes, %d, %#x): %x, %d", len(b), w, n, got, e)
				}
			}
		}
	}
}

// P3.1: the result is new memory, even where b has room behind it: neither changes with the other.
func TestPutNewMemory(t *testing.T) {
	for _, w := range widths {
		whole := sample(40)
		was := slices.Clone(whole)
		b := whole[5:20]
		first, _ := Put(b, w, 1)
		second, _ := Put(b, w, 2)
		if !slices.Equal(whole, was) {
			t.Errorf("width %d: what was given, or what lies behind it, is changed", w)
		}
		for i := range whole {
			whole[i] = 0xee
		}
		if !slices.Equal(first, written(was[5:20], w, 1)) || !slices.Equal(second, written(was[5:20], w, 2)) {
			t.Errorf("width %d: a result changes with what was given, or with another result", w)
		}
		for i := range first {
			first[i] = 0xdd
		}
		for _, c := range whole {
			if c != 0xee {
				t.Errorf("width %d: what was given changes with the result", w)
				break
			}
		}
	}
}

// P3.2: of what was opened nothing has been read.
func TestOpen(t *testing.T) {
	for _, n := range []int{0, 1, 2, 31, 32, 33, 1000, 70000} {
		r := Open(sample(n))
		if got := look(r); got != (looks{n, false, n == 0}) {
			t.Errorf("%d bytes: %v", n, got)
		}
		if got := r.Take(n); !slices.Equal(got, sample(n)) {
			t.Errorf("%d bytes: %d read", n, len(got))
		}
		if got := look(r); got != (looks{0, false, true}) {
			t.Errorf("%d bytes, read: %v", n, got)
		}
	}
	if got := look(Open(nil)); got != (looks{0, false, true}) {
		t.Errorf("nil: %v", got)
	}
}

// P3.2: numbers of every width, one after the other.
func TestNum(t *testing.T) {
	for _, w := range widths {
		b := sample(1)
		for _, n := range numbers(w) {
			b = written(b, w, n)
		}
		r := Open(b)
		r.Take(1)
		left := len(b) - 1
		for _, n := range numbers(w) {
			got := r.Num(w)
			left -= w
			if got != n || look(r) != (looks{left, false, left == 0}) {
				t.Errorf("width %d: %#x, not %#x; then %v", w, got, n, look(r))
			}
		}
	}
}

// P3.2: a number of which the last byte is missing, or all, tears the reader; all that there is is enough.
func TestNumTooFew(t *testing.T) {
	for _, w := range widths {
		for n := range w + 3 {
			r := Open(sample(n))
			got := r.Num(w)
			if n < w {
				if got != 0 || !empty(r) {
					t.Errorf("width %d of %d bytes: %#x, %v", w, n, got, look(r))
				}
				continue
			}
			var all [8]byte
			copy(all[:w], sample(n))
			if got != binary.LittleEndian.Uint64(all[:]) || look(r) != (looks{n - w, false, n == w}) {
				t.Errorf("width %d of %d bytes: %#x, %v", w, n, got, look(r))
			}
		}
	}
}

// P3.2: another width tears the reader, however many bytes there are.
func TestNumNoWidth(t *testing.T) {
	for _, w := range noWidths {
		for _, n := range []int{0, 1, 3, 100} {
			r := Open(sample(n))
			if got := r.Num(w); got != 0 || !empty(r) {
				t.Errorf("width %d of %d bytes: %#x, %v", w, n, got, look(r))
			}
		}
	}
}

// P3.2: as many bytes as are asked for, none of them too; one more than there are tears the reader.
func TestTake(t *testing.T) {
	for size := range 40 {
		for n := range size + 3 {
			r := Open(sample(size))
			got := r.Take(n)
			if n > size {
				if len(got) != 0 || !empty(r) {
					t.Errorf("%d of %d bytes: %x, %v", n, size, got, look(r))
				}
				continue
			}
			if !slices.Equal(got, sample(size)[:n]) || look(r) != (looks{size - n, false, size == n}) {
				t.Errorf("%d of %d bytes: %x, %v", n, size, got, look(r))
			}
			if rest := r.Take(size - n); !slices.Equal(rest, sample(size)[n:]) || !r.End() {
				t.Errorf("%d of %d bytes: then %x", n, size, rest)
			}
			if none := r.Take(0); len(none) != 0 || !r.End() {
				t.Errorf("none at the end: %x, %v", none, look(r))
			}
			if none := r.Take(1); len(none) != 0 || !empty(r) {
				t.Errorf("one at the end: %x, %v", none, look(r))
			}
		}
	}
}

// P3.2: numbers of bytes below 0, and huge ones, tear the reader.
func TestTakeWrong(t *testing.T) {
	for _, n := range noCounts {
		for _, size := range []int{0, 1, 100} {
			for _, read := range []int{0, size / 2, size} {
				r := Open(sample(size))
				r.Take(read)
				if got := r.Take(n); len(got) != 0 || !empty(r) {
					t.Errorf("%d of %d bytes after %d: %x, %v", n, size, read, got, look(r))
				}
			}
		}
	}
}

// P3.2: a hash is the next 32 bytes in their order; 31 tear the reader.
func TestHash(t *testing.T) {
	for size := range 100 {
		r := Open(sample(size))
		read := 0
		for ; size-read >= 32; read += 32 {
			if got := r.Hash(); got != api.Hash(sample(size)[read:]) || look(r) != (looks{size - read - 32, false, size == read+32}) {
				t.Errorf("at %d of %d bytes: %x, %v", read, size, got, look(r))
			}
		}
		if got := r.Hash(); got != (api.Hash{}) || !empty(r) {
			t.Errorf("at %d of %d bytes: %x, %v", read, size, got, look(r))
		}
	}
}

// P3.3: looking ahead reads nothing and tears nothing.
func TestPeek(t *testing.T) {
	for size := range 20 {
		for read := range size + 1 {
			r := Open(sample(size))
			r.Take(read)
			was := looks{size - read, false, size == read}
			for n := range size + 3 {
				want := sample(size)[read:]
				if n <= size-read {
					want = want[:n]
				} else {
					want = nil
				}
				for range 2 {
					if got := r.Peek(n); !slices.Equal(got, want) || look(r) != was {
						t.Errorf("%d at %d of %d bytes: %x, %v", n, read, size, got, look(r))
					}
				}
			}
			for _, n := range noCounts {
				if got := r.Peek(n); len(got) != 0 || look(r) != was {
					t.Errorf("%d at %d of %d bytes: %x, %v", n, read, size, got, look(r))
				}
			}
			if got := r.Take(size - read); !slices.Equal(got, sample(size)[read:]) {
				t.Errorf("at %d of %d bytes, after looks: %x", read, size, got)
			}
		}
	}
}

// P3.3: nil, and a reader that Open did not return: no bytes, 0, torn.
func TestClosed(t *testing.T) {
	for i := range closed() {
		for what, call := range map[string]func(*Reader) bool{
			"Num":  func(r *Reader) bool { return r.Num(1) == 0 && r.Num(3) == 0 },
			"Take": func(r *Reader) bool { return len(r.Take(0)) == 0 && len(r.Take(1)) == 0 && len(r.Take(-1)) == 0 },
			"Hash": func(r *Reader) bool { return r.Hash() == api.Hash{} },
			"Peek": func(r *Reader) bool { return len(r.Peek(0)) == 0 && len(r.Peek(1)) == 0 && len(r.Peek(-1)) == 0 },
			"Left": func(r *Reader) bool { return r.Left() == 0 },
			"Torn": (*Reader).Torn,
			"End":  func(r *Reader) bool { return !r.End() },
			"all":  empty,
		} {
			r := closed()[i]
			if !call(r) || look(r) != tornLooks {
				t.Errorf("%s of reader %d", what, i)
			}
		}
	}
}

// P3.4: what is written one after the other is read back in the same way, and then the reader is at its end.
func TestBack(t *testing.T) {
	state := uint64(1)
	next := func(n int) int {
		state = state*6364136223846793005 + 1442695040888963407
		return int(state >> 33 % uint64(n))
	}
	for round := range 300 {
		var b []byte
		var back []func(r *Reader) bool
		for range next(30) {
			switch next(3) {
			case 0:
				w := widths[next(4)]
				n := numbers(w)[next(len(numbers(w)))]
				var e api.Errno
				if b, e = Put(b, w, n); e != api.OK {
					t.Fatalf("Put of %#x in %d bytes: %d", n, w, e)
				}
				back = append(back, func(r *Reader) bool { return r.Num(w) == n })
			case 1:
				part := sample(next(50))
				b = append(b, part...)
				back = append(back, func(r *Reader) bool { return slices.Equal(r.Take(len(part)), part) })
			case 2:
				h := api.Hash(sample(96 + round)[next(64):])
				b = append(b, h[:]...)
				back = append(back, func(r *Reader) bool { return r.Hash() == h })
			}
		}
		r := Open(b)
		for i, same := range back {
			if !same(r) || r.Torn() {
				t.Fatalf("round %d: thing %d of %d is not read back", round, i, len(back))
			}
		}
		if !r.End() || r.Left() != 0 || r.Torn() {
			t.Fatalf("round %d: not at the end", round)
		}
		if r.Num(1); !empty(r) {
			t.Fatalf("round %d: read beyond the end", round)
		}
	}
}

// model is a reader of another make: all bytes and a position.
type model struct {
	all  []byte
	at   int
	torn bool
}

// take reads the next n bytes.
func (m *model) take(n int) []byte {
	m.torn = m.torn || n < 0 || n > len(m.all)-m.at
	if m.torn {
		return nil
	}
	m.at += n
	return m.all[m.at-n : m.at]
}

// num reads the next number of the width w.
func (m *model) num(w int) uint64 {
	if !slices.Contains(widths, w) {
		w = -1
	}
	var all [8]byte
	copy(all[:], m.take(w))
	return binary.LittleEndian.Uint64(all[:])
}

// peek returns the next n bytes.
func (m *model) peek(n int) []byte { return (&model{m.all, m.at, m.torn}).take(n) }

// looks tells what the model shows of itself.
func (m *model) looks() looks {
	if m.torn {
		return tornLooks
	}
	return looks{len(m.all) - m.at, false, len(m.all) == m.at}
}

// step does one of some calls to both; it tells how the call is written, and whether both answer alike.
func step(k int, r *Reader, m *model) (string, bool) {
	counts := []int{-1, 0, 1, 2, 9}
	switch tried := []int{0, 1, 2, 3, 4, 8}; {
	case k < len(tried):
		return "Num " + strconv.Itoa(tried[k]), r.Num(tried[k]) == m.num(tried[k])
	case k < len(tried)+len(counts):
		n := counts[k-len(tried)]
		return "Take " + strconv.Itoa(n), slices.Equal(r.Take(n), m.take(n))
	case k < len(tried)+2*len(counts):
		n := counts[k-len(tried)-len(counts)]
		return "Peek " + strconv.Itoa(n), slices.Equal(r.Peek(n), m.peek(n))
	}
	var h api.Hash
	copy(h[:], m.take(32))
	return "Hash", r.Hash() == h
}

// P3.2, P3.3, P3.5: all sequences of four calls, of readers of several lengths, beside a reader of another make.
func TestSequences(t *testing.T) {
	const calls = 17
	for _, size := range []int{0, 1, 2, 3, 4, 5, 8, 9, 12, 33, 34, 64} {
		b := sample(size)
		for number := range calls * calls * calls * calls {
			r, m := Open(b), &model{all: b}
			told := ""
			for k := number; len(told) == 0 || k > 0; k /= calls {
				call, same := step(k%calls, r, m)
				told += "; " + call
				if !same || look(r) != m.looks() {
					t.Fatalf("%d bytes%s: %v, not %v", size, told, look(r), m.looks())
				}
			}
		}
	}
}

// P3.5: a torn reader stays so, however it was torn and whatever is asked afterwards, by another name of it too.
func TestTornStays(t *testing.T) {
	for what, tear := range map[string]func(*Reader){
		"a width that is none":    func(r *Reader) { r.Num(3) },
		"a number that is longer": func(r *Reader) { r.Take(93); r.Num(8) },
		"less than no bytes":      func(r *Reader) { r.Take(-1) },
		"more bytes":              func(r *Reader) { r.Take(101) },
		"a hash that is longer":   func(r *Reader) { r.Take(69); r.Hash() },
	} {
		r := Open(sample(100))
		again := r
		tear(r)
		for range 3 {
			if !empty(r) || !empty(again) {
				t.Errorf("%s: not torn for good", what)
			}
		}
	}
}

// P3.5: readers of the same bytes do not disturb each other.
func TestReadersApart(t *testing.T) {
	b := sample(40)
	one, other := Open(b), Open(b)
	one.Take(5)
	if look(other) != (looks{40, false, false}) {
		t.Error("the other has read")
	}
	one.Take(-1)
	if h := other.Hash(); h != api.Hash(b) || other.Left() != 8 || !empty(one) {
		t.Error("the other is disturbed")
	}
}

// P3.5: what was opened is not changed, and may be changed afterwards.
func TestOpenNotKept(t *testing.T) {
	whole := sample(100)
	was := slices.Clone(whole)
	r := Open(whole[10:60])
	n, taken, h, ahead := r.Num(4), r.Take(3), r.Hash(), r.Peek(2)
	if !slices.Equal(whole, was) {
		t.Error("what was opened is changed")
	}
	clear(whole)
	if n != uint64(binary.LittleEndian.Uint32(was[10:])) || !slices.Equal(taken, was[14:17]) || h != api.Hash(was[17:]) || !slices.Equal(ahead, was[49:51]) {
		t.Error("what was read changes with what was opened")
	}
	if !slices.Equal(r.Take(11), was[49:60]) || !r.End() {
		t.Error("what is read changes with what was opened")
	}
}

// P3.5: results are new memory: written to, or appended to, they change neither the reader nor each other, nor the copy that it keeps.
func TestResultsNew(t *testing.T) {
	spoil := func(b []byte) {
		for i := range b[:cap(b)] {
			b[:cap(b)][i] = 0xee
		}
	}
	for _, n := range []int{1, 2, 8, 20} {
		was := sample(60)
		r := Open(was)
		kept := r.rest
		ahead, same := r.Peek(n), r.Peek(n)
		spoil(ahead)
		if !slices.Equal(same, was[:n]) {
			t.Errorf("%d bytes: one look changes with another", n)
		}
		taken := r.Take(n)
		spoil(same)
		if !slices.Equal(taken, was[:n]) {
			t.Errorf("%d bytes: what is read changes with a look", n)
		}
		further := r.Peek(n)
		spoil(taken)
		if !slices.Equal(further, was[n:2*n]) {
			t.Errorf("%d bytes: a look changes with what was read before", n)
		}
		more := append(r.Take(n), 1, 2, 3, 4, 5, 6, 7, 8)
		if !slices.Equal(more[:n], was[n:2*n]) || !slices.Equal(r.Take(60-2*n), was[2*n:]) {
			t.Errorf("%d bytes: what is read later changes with what was appended", n)
		}
		spoil(more)
		if !slices.Equal(was, sample(60)) || !slices.Equal(kept, sample(60)) {
			t.Errorf("%d bytes: what was opened, or the copy of it, changes with a result", n)
		}
	}
}
