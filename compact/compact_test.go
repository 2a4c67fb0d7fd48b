package compact

import (
	"encoding/binary"
	"math"
	"slices"
	"testing"

	"spinney/api"
	"spinney/bytes"
)

// numbers are the edges of every width, each single bit, all bits below it, and mixes of bytes; rising, each once.
func numbers() []uint64 {
	l := []uint64{0, 251, 252, 253, 254, 255, 256, 257, 0xfdfd, 0xfefefefe, 0xfdfeff, 0x0102, 0x01020304, 0x0102030405060708, 0x8091a2b3c4d5e6f7}
	for i := range 64 {
		l = append(l, 1<<i-2, 1<<i-1, 1<<i, 1<<i+1)
	}
	l = append(l, math.MaxUint64-1, math.MaxUint64, math.MaxInt64, math.MaxInt64+1)
	slices.Sort(l)
	return slices.Compact(l)
}

// wide returns, from elsewhere, the form of n with as many bytes after its first one: 0, 2, 4 or 8, be they enough or not.
func wide(n uint64, follow int) []byte {
	b := []byte{byte(n)}
	switch follow {
	case 2:
		b = binary.LittleEndian.AppendUint16([]byte{253}, uint16(n))
	case 4:
		b = binary.LittleEndian.AppendUint32([]byte{254}, uint32(n))
	case 8:
		b = binary.LittleEndian.AppendUint64([]byte{255}, n)
	}
	return b
}

// follows returns how many bytes follow the first one of the compact form of n.
func follows(n uint64) int {
	switch {
	case n <= 252:
		return 0
	case n <= 65535:
		return 2
	case n <= 4294967295:
		return 4
	}
	return 8
}

// form returns, from elsewhere, the compact form of n.
func form(n uint64) []byte { return wide(n, follows(n)) }

// sample returns n bytes that differ from place to place.
func sample(n int) []byte {
	b := make([]byte, n)
	for i := range b {
		b[i] = byte(i*11 + i>>8 + 1)
	}
	return b
}

// joined returns lists of bytes, one after the other, in new memory.
func joined(parts ...[]byte) []byte { return slices.Concat(parts...) }

// heads are bytes that something is put behind.
func heads() [][]byte { return [][]byte{nil, {}, {0}, {0xff}, sample(7), sample(300)} }

// shut are readers from which nothing can be read: nil, one that Open did not return, one that was torn, one at its end.
func shut() []*bytes.Reader {
	torn := bytes.Open(sample(20))
	torn.Num(3)
	return []*bytes.Reader{nil, {}, torn, bytes.Open(nil)}
}

// tornNow tells whether a reader is torn.
func tornNow(r *bytes.Reader) bool { return r.Torn() && r.Left() == 0 && !r.End() }

// P4.1 to P4.3: the examples of the chapter.
func TestExamples(t *testing.T) {
	for n, want := range map[uint64]string{252: "\xfc", 253: "\xfd\xfd\x00", 65536: "\xfe\x00\x00\x01\x00", 1 << 32: "\xff\x00\x00\x00\x00\x01\x00\x00\x00"} {
		if got := Put(nil, n); string(got) != want {
			t.Errorf("Put(%d): %x", n, got)
		}
	}
	for _, x := range []struct {
		b    string
		most uint64
		n    uint64
		e    api.Errno
	}{
		{"\xfc", math.MaxUint64, 252, api.OK},
		{"\xfd\xfc\x00", math.MaxUint64, 0, api.ErrForm},
		{"\xfd\xfd", math.MaxUint64, 0, api.ErrForm},
		{"\xfd\xfd\x00", 252, 0, api.ErrLong},
	} {
		if n, e := Get(bytes.Open([]byte(x.b)), x.most); n != x.n || e != x.e {
			t.Errorf("Get(%x, %d): %d, %d", x.b, x.most, n, e)
		}
	}
	if got := PutText([]byte{7}, []byte("ab")); string(got) != "\x07\x02ab" {
		t.Errorf("PutText: %x", got)
	}
	for _, x := range []struct {
		b    string
		most int
		text string
		e    api.Errno
	}{
		{"\x02abc", 2, "ab", api.OK},
		{"\x02abc", 1, "", api.ErrLong},
		{"\x03ab", 100, "", api.ErrForm},
	} {
		if got, e := Text(bytes.Open([]byte(x.b)), x.most); string(got) != x.text || e != x.e {
			t.Errorf("Text(%x, %d): %x, %d", x.b, x.most, got, e)
		}
	}
}

// P4.1: every number is put behind b in its form, which has as many bytes as Size tells.
func TestPut(t *testing.T) {
	for _, n := range numbers() {
		if got := Size(n); got != len(form(n)) {
			t.Errorf("Size(%#x): %d", n, got)
		}
		for _, b := range heads() {
			if got := Put(b, n); !slices.Equal(got, joined(b, form(n))) {
				t.Errorf("Put(%d bytes, %#x): %x", len(b), n, got)
			}
		}
	}
}

// P4.1: all numbers of the shorter forms, and some beyond.
func TestPutAll(t *testing.T) {
	for n := range uint64(1<<16 + 1<<10) {
		if got := Put(nil, n); !slices.Equal(got, form(n)) || Size(n) != len(got) {
			t.Fatalf("Put(%#x): %x; Size: %d", n, got, Size(n))
		}
	}
}

// lengths are those of texts: about the edges of their number's forms.
func lengths() []int {
	l := []int{1000, 65534, 65535, 65536, 65537, 100000}
	for n := range 300 {
		l = append(l, n)
	}
	return l
}

// P4.1: a text is put behind b after the form of its number of bytes.
func TestPutText(t *testing.T) {
	for _, n := range lengths() {
		for _, b := range heads() {
			if got := PutText(b, sample(n)); !slices.Equal(got, joined(b, form(uint64(n)), sample(n))) {
				t.Errorf("PutText(%d bytes, %d bytes): %d bytes, not as they should be", len(b), n, len(got))
			}
		}
	}
	if got := PutText(nil, nil); !slices.Equal(got, []byte{0}) {
		t.Errorf("PutText(nil, nil): %x", got)
	}
}

// P4.1: results are new memory, even where b has room behind it: none changes with what was given, nor with another result.
func TestPutNewMemory(t *testing.T) {
	for what, put := range map[string]func(b, text []byte) []byte{
		"a byte":            func(b, _ []byte) []byte { return Put(b, 1) },
		"two bytes":         func(b, _ []byte) []byte { return Put(b, 1000) },
		"four bytes":        func(b, _ []byte) []byte { return Put(b, 1<<20) },
		"eight bytes":       func(b, _ []byte) []byte { return Put(b, 1<<40) },
		"a text":            PutText,
		"no text":           func(b, _ []byte) []byte { return PutText(b, nil) },
		"b as its own text": func(b, _ []byte) []byte { return PutText(b, b) },
	} {
		whole := sample(60)
		was := slices.Clone(whole)
		b, text := whole[5:20], whole[30:37]
		got, again := put(b, text), put(b, text)
		if !slices.Equal(whole, was) {
			t.Errorf("%s: what was given, or what lies behind it, is changed", what)
		}
		right := slices.Clone(again)
		for i := range got[:cap(got)] {
			got[:cap(got)][i] = 0xee
		}
		if !slices.Equal(whole, was) || !slices.Equal(again, right) {
			t.Errorf("%s: what was given, or another result, changes with a result", what)
		}
		clear(whole)
		if !slices.Equal(again, right) || !slices.Equal(again[:15], was[5:20]) {
			t.Errorf("%s: a result changes with what was given", what)
		}
	}
}

// P4.2, P4.4: what was put is read, whatever precedes and follows it, and nothing else is.
func TestGet(t *testing.T) {
	for _, n := range numbers() {
		for _, behind := range [][]byte{nil, {0}, {0xff}, sample(8), {0xfd, 0xfe, 0xff}} {
			for _, most := range []uint64{n, n | n>>1 | 1, math.MaxUint64} {
				r := bytes.Open(joined([]byte{9}, form(n), behind))
				r.Take(1)
				got, e := Get(r, most)
				if got != n || e != api.OK || r.Torn() || !slices.Equal(r.Peek(len(behind)), behind) || r.Left() != len(behind) {
					t.Errorf("Get(%x and %x, %#x): %#x, %d; %d left", form(n), behind, most, got, e, r.Left())
				}
			}
		}
	}
}

// P4.2: a number above most is refused, from the first one on; its form has been read.
func TestGetTooGreat(t *testing.T) {
	for _, n := range numbers() {
		for _, most := range numbers() {
			if most >= n {
				break
			}
			r := bytes.Open(joined(form(n), []byte{1, 2, 3}))
			if got, e := Get(r, most); got != 0 || e != api.ErrLong || r.Torn() || r.Left() != 3 {
				t.Errorf("Get(%x, %#x): %#x, %d; %d left", form(n), most, got, e, r.Left())
			}
		}
	}
}

// P4.2: bytes that end before the end of a form tear the reader, whether the form would be too great, or not the shortest one, or neither.
func TestGetCut(t *testing.T) {
	for _, n := range numbers() {
		for _, follow := range []int{0, 2, 4, 8} {
			whole := wide(n, follow)
			for length := range whole {
				for _, most := range []uint64{0, 252, 253, n, math.MaxUint64} {
					r := bytes.Open(whole[:length])
					if got, e := Get(r, most); got != 0 || e != api.ErrForm || !tornNow(r) {
						t.Errorf("Get(%x, %#x): %#x, %d; torn: %t", whole[:length], most, got, e, r.Torn())
					}
				}
			}
		}
	}
}

// P4.2: a form that is not the shortest one is refused, before the number is held against most; it has been read.
func TestGetNotShortest(t *testing.T) {
	for _, n := range numbers() {
		for _, follow := range []int{2, 4, 8} {
			if follow <= follows(n) {
				continue
			}
			for _, most := range []uint64{0, n - 1, n, math.MaxUint64} {
				r := bytes.Open(joined(wide(n, follow), []byte{1, 2, 3}))
				if got, e := Get(r, most); got != 0 || e != api.ErrForm || r.Torn() || r.Left() != 3 {
					t.Errorf("Get(%x, %#x): %#x, %d; %d left", wide(n, follow), most, got, e, r.Left())
				}
			}
		}
	}
}

// P4.2, R1: from a reader from which nothing can be read nothing is.
func TestGetShut(t *testing.T) {
	for _, most := range []uint64{0, 252, math.MaxUint64} {
		for i, r := range shut() {
			if got, e := Get(r, most); got != 0 || e != api.ErrForm || !tornNow(r) {
				t.Errorf("Get(reader %d, %#x): %d, %d", i, most, got, e)
			}
		}
	}
}

// P4.2, P4.4: any bytes are refused, or are exactly what is put of the number that was read: all of up to two bytes, all of two behind a mark, and many of four and eight.
func TestGetAny(t *testing.T) {
	try := func(b ...byte) {
		r := bytes.Open(b)
		n, e := Get(r, math.MaxUint64)
		switch read := len(b) - r.Left(); {
		case e == api.OK && !r.Torn() && slices.Equal(Put(nil, n), b[:read]):
		case e == api.ErrForm && n == 0 && r.Torn() == (len(b) < 1+followsMark(b)):
		default:
			t.Fatalf("Get(%x): %#x, %d", b, n, e)
		}
	}
	try()
	for first := range 256 {
		try(byte(first))
		for second := range 256 {
			try(byte(first), byte(second))
			try(253, byte(first), byte(second))
			try(253, byte(first), byte(second), 7)
			for _, third := range []byte{0, 1, 0x7f, 0x80, 0xff} {
				try(254, byte(first), byte(second), third, 0)
				try(254, 0, third, byte(first), byte(second))
				try(255, byte(first), 0, byte(second), 0, third, 0, 0, 0)
				try(255, 0, third, 0, byte(first), 0, 0, 0, byte(second))
			}
		}
	}
}

// followsMark returns how many bytes should follow the first one of b.
func followsMark(b []byte) int {
	if len(b) == 0 || b[0] < 253 {
		return 0
	}
	return 2 << (b[0] - 253)
}

// P4.3: a text of at most most bytes is read, and nothing behind it.
func TestText(t *testing.T) {
	for _, n := range lengths() {
		for _, behind := range [][]byte{nil, {0}, {0xff, 1, 2}} {
			for _, most := range []int{n, n + 1, math.MaxInt} {
				r := bytes.Open(joined([]byte{9}, form(uint64(n)), sample(n), behind))
				r.Take(1)
				got, e := Text(r, most)
				if e != api.OK || !slices.Equal(got, sample(n)) || r.Torn() || !slices.Equal(r.Peek(len(behind)), behind) || r.Left() != len(behind) {
					t.Errorf("Text of %d bytes, most %d: %d bytes, %d; %d left", n, most, len(got), e, r.Left())
				}
			}
		}
	}
}

// P4.3: a text of more than most bytes is refused when its number has been read, be its bytes there or not.
func TestTextTooLong(t *testing.T) {
	for _, n := range lengths() {
		for _, most := range []int{n - 1, n / 2, 0} {
			for _, there := range []int{0, n / 2, n} {
				if most >= n || most < 0 {
					continue
				}
				r := bytes.Open(joined(form(uint64(n)), sample(there)))
				if got, e := Text(r, most); len(got) != 0 || e != api.ErrLong || r.Torn() || r.Left() != there {
					t.Errorf("Text of %d bytes, most %d: %d bytes, %d; %d left", n, most, len(got), e, r.Left())
				}
			}
		}
	}
}

// P4.3: a most below 0 counts as 0: a text without bytes is read, any other is too long.
func TestTextMostBelowZero(t *testing.T) {
	for _, most := range []int{0, -1, -2, -252, -1 << 32, math.MinInt32, math.MinInt + 1, math.MinInt} {
		r := bytes.Open([]byte{0, 5})
		if got, e := Text(r, most); len(got) != 0 || e != api.OK || r.Left() != 1 {
			t.Errorf("no text, most %d: %x, %d; %d left", most, got, e, r.Left())
		}
		for _, n := range numbers()[1:] {
			r := bytes.Open(joined(form(n), []byte{1, 2, 3}))
			if got, e := Text(r, most); len(got) != 0 || e != api.ErrLong || r.Torn() || r.Left() != 3 {
				t.Errorf("Text of %#x bytes, most %d: %x, %d; %d left", n, most, got, e, r.Left())
			}
		}
	}
}

// P4.3: where bytes of the text are missing, one or nearly all of a huge number, the reader is torn.
func TestTextCut(t *testing.T) {
	for _, n := range numbers()[1:] {
		for _, there := range []int{0, 1, 2, 251, 252, 1000} {
			if uint64(there) >= n || n > math.MaxInt {
				continue
			}
			for _, most := range []int{int(n), math.MaxInt} {
				r := bytes.Open(joined(form(n), sample(there)))
				if got, e := Text(r, most); len(got) != 0 || e != api.ErrForm || !tornNow(r) {
					t.Errorf("Text of %d of %#x bytes, most %d: %d bytes, %d; torn: %t", there, n, most, len(got), e, r.Torn())
				}
			}
		}
	}
	for _, n := range lengths()[6:] {
		for there := range n {
			r := bytes.Open(joined(form(uint64(n)), sample(there)))
			if got, e := Text(r, 1000); len(got) != 0 || e != api.ErrForm || !tornNow(r) {
				t.Errorf("Text of %d of %d bytes: %d bytes, %d; torn: %t", there, n, len(got), e, r.Torn())
			}
		}
	}
}

// P4.3: the errors of the number come first, and leave the reader as Get does.
func TestTextOfNoNumber(t *testing.T) {
	for _, n := range numbers() {
		for _, follow := range []int{2, 4, 8} {
			whole := wide(n, follow)
			for length := range len(whole) {
				r := bytes.Open(whole[:length])
				if got, e := Text(r, math.MaxInt); len(got) != 0 || e != api.ErrForm || !tornNow(r) {
					t.Errorf("Text(%x): %x, %d; torn: %t", whole[:length], got, e, r.Torn())
				}
			}
			if follow <= follows(n) {
				continue
			}
			for _, most := range []int{-1, 0, 1, math.MaxInt} {
				r := bytes.Open(joined(whole, sample(300)))
				if got, e := Text(r, most); len(got) != 0 || e != api.ErrForm || r.Torn() || r.Left() != 300 {
					t.Errorf("Text(%x .., %d): %x, %d; %d left", whole, most, got, e, r.Left())
				}
			}
		}
		if n > math.MaxInt {
			r := bytes.Open(joined(form(n), []byte{1}))
			if got, e := Text(r, math.MaxInt); len(got) != 0 || e != api.ErrLong || r.Left() != 1 {
				t.Errorf("Text of %#x bytes: %x, %d; %d left", n, got, e, r.Left())
			}
		}
	}
	for _, most := range []int{-1, 0, 5, math.MaxInt} {
		for i, r := range shut() {
			if got, e := Text(r, most); len(got) != 0 || e != api.ErrForm || !tornNow(r) {
				t.Errorf("Text(reader %d, %d): %x, %d", i, most, got, e)
			}
		}
	}
}

// P4.3: texts are new memory: each may be changed without the next ones.
func TestTextNewMemory(t *testing.T) {
	whole := joined([]byte{3}, sample(3), []byte{4}, sample(4))
	was := slices.Clone(whole)
	r := bytes.Open(whole)
	got, _ := Text(r, 10)
	for i := range got[:cap(got)] {
		got[:cap(got)][i] = 0xee
	}
	_ = append(got, 0xdd, 0xdd, 0xdd, 0xdd, 0xdd)
	if next, e := Text(r, 10); e != api.OK || !slices.Equal(next, sample(4)) || !slices.Equal(whole, was) {
		t.Errorf("what is read, or was given, changes with a text: %x, %d", next, e)
	}
}

// P4.4: different numbers have different forms, and none is the beginning of another's.
func TestNoPrefix(t *testing.T) {
	l := numbers()
	for _, a := range l {
		for _, b := range l {
			short, long := Put(nil, a), Put(nil, b)
			if a != b && len(short) <= len(long) && slices.Equal(short, long[:len(short)]) {
				t.Errorf("%x of %#x begins %x of %#x", short, a, long, b)
			}
		}
	}
}

// P4.4: numbers and texts that are written one after the other are read back in the same way.
func TestBack(t *testing.T) {
	state := uint64(1)
	next := func() uint64 {
		state = state*6364136223846793005 + 1442695040888963407
		return state>>32 | state<<32
	}
	for round := range 300 {
		var b []byte
		var back []func(r *bytes.Reader) bool
		for range next() % 40 {
			n := next() >> (next() % 64)
			if n%3 > 0 {
				b = Put(b, n)
				back = append(back, func(r *bytes.Reader) bool {
					got, e := Get(r, n)
					return got == n && e == api.OK
				})
				continue
			}
			text := sample(int(n % 400))
			b = PutText(b, text)
			back = append(back, func(r *bytes.Reader) bool {
				got, e := Text(r, len(text))
				return slices.Equal(got, text) && e == api.OK
			})
		}
		r := bytes.Open(b)
		for i, same := range back {
			if !same(r) {
				t.Fatalf("round %d: thing %d of %d is not read back", round, i, len(back))
			}
		}
		if !r.End() {
			t.Fatalf("round %d: not at the end", round)
		}
	}
}
