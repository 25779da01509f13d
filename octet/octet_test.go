package octet_test

import (
	"bytes"
	"math"
	"slices"
	"testing"

	"mainsheet/api"
	"mainsheet/octet"
)

// put is one of Put16, Put32, Put64, all asked alike.
type put struct {
	name  string
	width int
	most  uint64
	lay   func(b []byte, x uint64) []byte
}

// puts are the three calls that lay numbers.
func puts() []put {
	return []put{
		{"Put16", 2, math.MaxUint16, func(b []byte, x uint64) []byte { return octet.Put16(b, uint16(x)) }},
		{"Put32", 4, math.MaxUint32, func(b []byte, x uint64) []byte { return octet.Put32(b, uint32(x)) }},
		{"Put64", 8, math.MaxUint64, func(b []byte, x uint64) []byte { return octet.Put64(b, x) }},
	}
}

// number reads a number of that width.
func number(r *octet.Reader, width int) uint64 {
	switch width {
	case 1:
		return uint64(r.U8())
	case 2:
		return uint64(r.U16())
	case 4:
		return uint64(r.U32())
	}
	return r.U64()
}

// numbers are edges of all widths up to a greatest one.
func numbers(most uint64) []uint64 {
	var l []uint64
	for bit := range 64 {
		for _, x := range []uint64{1<<bit - 1, 1 << bit, 1<<bit + 1} {
			if x <= most {
				l = append(l, x)
			}
		}
	}
	return append(l, most-1, most)
}

// byWords are the bytes as the chapter tells them: how often each power is in what is left.
func byWords(x uint64, width int) []byte {
	power := uint64(1)
	for range width - 1 {
		power *= 256
	}
	var l []byte
	for range width {
		l = append(l, byte(x/power))
		x %= power
		power /= 256
	}
	return l
}

// stands asks all that a reader tells without walking.
func stands(t *testing.T, where string, r *octet.Reader, left int, err api.Errno, whole bool) {
	t.Helper()
	if r.Left() != left || r.Err() != err || r.Whole() != whole {
		t.Errorf("%s: Left %d, Err %d, Whole %v; want %d, %d, %v", where, r.Left(), r.Err(), r.Whole(), left, err, whole)
	}
}

// still asks that nothing is walked over any more, whatever is asked for, and that the reader stands as it stood.
func still(t *testing.T, where string, r *octet.Reader) {
	t.Helper()
	left, err := r.Left(), r.Err()
	for _, width := range []int{1, 2, 4, 8} {
		if x := number(r, width); x != 0 {
			t.Errorf("%s: a number of %d bytes: %d; want 0", where, width, x)
		}
	}
	for _, n := range []int{math.MinInt, -1, 0, 1, left, left + 1, math.MaxInt} {
		if l := r.Raw(n); len(l) != 0 {
			t.Errorf("%s: Raw(%d): %v; want nothing", where, n, l)
		}
	}
	stands(t, where, r, left, err, false)
}

// P1.1: the highest byte first, behind what was handed in.
func TestPutLaysTheHighestFirst(t *testing.T) {
	head := []byte{7, 0, 255}
	for _, p := range puts() {
		for _, x := range numbers(p.most) {
			want := byWords(x, p.width)
			if got := p.lay(nil, x); !bytes.Equal(got, want) {
				t.Errorf("%s(none, %d): %v; want %v", p.name, x, got, want)
			}
			if got := p.lay(head, x); !bytes.Equal(got, append(slices.Clone(head), want...)) {
				t.Errorf("%s(%v, %d): %v", p.name, head, x, got)
			}
		}
	}
}

// P1.1: bytes written out by hand, one unlike another.
func TestPutOfKnownNumbers(t *testing.T) {
	if b := octet.Put16([]byte{9}, 0x0102); !bytes.Equal(b, []byte{9, 1, 2}) {
		t.Errorf("Put16: %v", b)
	}
	if b := octet.Put32([]byte{9}, 0x01020304); !bytes.Equal(b, []byte{9, 1, 2, 3, 4}) {
		t.Errorf("Put32: %v", b)
	}
	if b := octet.Put64([]byte{9}, 0x0102030405060708); !bytes.Equal(b, []byte{9, 1, 2, 3, 4, 5, 6, 7, 8}) {
		t.Errorf("Put64: %v", b)
	}
}

// P1.1, R3: what is handed in is neither changed nor kept, the room behind its end neither.
func TestPutLeavesWhatIsHandedIn(t *testing.T) {
	for _, p := range puts() {
		for length := range 4 {
			room := bytes.Repeat([]byte{170}, 16)
			got := p.lay(room[:length], p.most)
			if !bytes.Equal(room, bytes.Repeat([]byte{170}, 16)) {
				t.Errorf("%s changed what was handed in, or the room behind it: %v", p.name, room)
			}
			want := slices.Clone(got)
			clear(room)
			if !bytes.Equal(got, want) {
				t.Errorf("%s kept what was handed in: %v; want %v", p.name, got, want)
			}
			clear(got)
			if got := p.lay(room[:length], p.most); !bytes.Equal(got[:length], make([]byte, length)) {
				t.Errorf("%s kept what it answered: %v", p.name, got)
			}
		}
	}
}

// P1.1, R3: two answers behind the same bytes share nothing.
func TestPutAnswersNewMemory(t *testing.T) {
	for _, p := range puts() {
		base := p.lay(nil, 1)
		one, other := p.lay(base, 2), p.lay(base, 3)
		if !bytes.Equal(one, append(byWords(1, p.width), byWords(2, p.width)...)) {
			t.Errorf("%s: %v was written over", p.name, one)
		}
		clear(one)
		if !bytes.Equal(other, append(byWords(1, p.width), byWords(3, p.width)...)) {
			t.Errorf("%s: %v shares memory", p.name, other)
		}
	}
}

// P1.1: the noughts ahead alone count.
func TestLead(t *testing.T) {
	for _, c := range []struct {
		b    []byte
		want int
	}{
		{nil, 0},
		{[]byte{}, 0},
		{[]byte{0}, 1},
		{[]byte{0, 0, 0}, 3},
		{[]byte{1}, 0},
		{[]byte{255, 0, 0}, 0},
		{[]byte{128, 0}, 0},
		{[]byte{0, 1}, 1},
		{[]byte{0, 128}, 1},
		{[]byte{0, 0, 1, 0}, 2},
		{[]byte{0, 0, 1, 0, 0, 0, 1}, 2},
		{make([]byte, 1000), 1000},
		{append(make([]byte, 1000), 1), 1000},
		{make([]byte, 2, 9), 2},
	} {
		was := slices.Clone(c.b)
		if n := octet.Lead(c.b); n != c.want {
			t.Errorf("Lead(%v): %d; want %d", c.b, n, c.want)
		}
		if !bytes.Equal(c.b, was) {
			t.Errorf("Lead changed %v to %v", was, c.b)
		}
	}
}

// P1.2: each width walks over as many bytes, one behind the other.
func TestReaderWalks(t *testing.T) {
	b := []byte{1, 2, 3, 4, 5, 6, 7, 8, 9, 10, 11, 12, 13, 14, 15, 16, 17, 18, 19}
	r := octet.Read(b)
	stands(t, "at first", r, 19, api.OK, false)
	if x := r.U8(); x != 0x01 {
		t.Errorf("U8: %x", x)
	}
	stands(t, "behind U8", r, 18, api.OK, false)
	if x := r.U16(); x != 0x0203 {
		t.Errorf("U16: %x", x)
	}
	stands(t, "behind U16", r, 16, api.OK, false)
	if x := r.U32(); x != 0x04050607 {
		t.Errorf("U32: %x", x)
	}
	stands(t, "behind U32", r, 12, api.OK, false)
	if x := r.U64(); x != 0x08090a0b0c0d0e0f {
		t.Errorf("U64: %x", x)
	}
	stands(t, "behind U64", r, 4, api.OK, false)
	if l := r.Raw(3); !bytes.Equal(l, []byte{16, 17, 18}) {
		t.Errorf("Raw: %v", l)
	}
	stands(t, "behind Raw", r, 1, api.OK, false)
	if x := r.U8(); x != 19 {
		t.Errorf("U8: %d", x)
	}
	stands(t, "at the end", r, 0, api.OK, true)
}

// P1.2: the greatest and the least numbers of each width.
func TestReaderReadsEdges(t *testing.T) {
	for _, width := range []int{1, 2, 4, 8} {
		for _, x := range numbers(1<<(8*width) - 1) {
			r := octet.Read(byWords(x, width))
			if got := number(r, width); got != x {
				t.Errorf("%d bytes: %d; want %d", width, got, x)
			}
			stands(t, "at the end", r, 0, api.OK, true)
		}
	}
}

// P1.2: Raw of none, of all, of more than there is ahead, of fewer than none.
func TestRawEdges(t *testing.T) {
	r := octet.Read([]byte{1, 2, 3})
	if l := r.Raw(0); len(l) != 0 {
		t.Errorf("Raw(0): %v", l)
	}
	stands(t, "behind Raw(0)", r, 3, api.OK, false)
	if l := r.Raw(3); !bytes.Equal(l, []byte{1, 2, 3}) {
		t.Errorf("Raw(3): %v", l)
	}
	if l := r.Raw(0); len(l) != 0 {
		t.Errorf("Raw(0) at the end: %v", l)
	}
	stands(t, "Raw(0) at the end", r, 0, api.OK, true)
	for _, n := range []int{4, 5, 1 << 31, math.MaxInt} {
		r := octet.Read([]byte{1, 2, 3})
		if l := r.Raw(n); len(l) != 0 {
			t.Errorf("Raw(%d): %v; want nothing", n, l)
		}
		stands(t, "Raw of too many", r, 3, api.ErrShort, false)
		still(t, "Raw of too many", r)
	}
	for _, n := range []int{-1, -3, math.MinInt} {
		r := octet.Read([]byte{1, 2, 3})
		if l := r.Raw(n); len(l) != 0 {
			t.Errorf("Raw(%d): %v; want nothing", n, l)
		}
		stands(t, "Raw of fewer than none", r, 3, api.ErrArg, false)
		still(t, "Raw of fewer than none", r)
	}
}

// P1.2, P1.3: a number that is cut stops the reader ahead of it, where those ahead were read.
func TestReaderStopsAtACutNumber(t *testing.T) {
	for _, width := range []int{1, 2, 4, 8} {
		for ahead := range width {
			r := octet.Read(append([]byte{200}, bytes.Repeat([]byte{201}, ahead)...))
			if x := r.U8(); x != 200 {
				t.Errorf("U8: %d", x)
			}
			if x := number(r, width); x != 0 {
				t.Errorf("%d of %d bytes: %d; want 0", ahead, width, x)
			}
			stands(t, "at a cut number", r, ahead, api.ErrShort, false)
			still(t, "at a cut number", r)
		}
	}
}

// P1.2, P1.3: once it has stopped it walks no more, though what is asked for is there, and why it stopped stays.
func TestReaderStaysStopped(t *testing.T) {
	r := octet.Read([]byte{1, 2, 3})
	r.U32()
	r.Raw(-1)
	stands(t, "Raw(-1) behind U32", r, 3, api.ErrShort, false)
	still(t, "Raw(-1) behind U32", r)
	r = octet.Read(nil)
	r.Raw(-1)
	r.U8()
	stands(t, "U8 behind Raw(-1)", r, 0, api.ErrArg, false)
	still(t, "U8 behind Raw(-1)", r)
}

// P1.2: a reader of nothing is one, and whole.
func TestReadOfNothing(t *testing.T) {
	for _, b := range [][]byte{nil, {}, make([]byte, 0, 8)} {
		r := octet.Read(b)
		if r == nil {
			t.Fatal("Read answers nil")
		}
		stands(t, "of nothing", r, 0, api.OK, true)
		if l := r.Raw(0); len(l) != 0 {
			t.Errorf("Raw(0): %v", l)
		}
		stands(t, "of nothing, behind Raw(0)", r, 0, api.OK, true)
		if x := r.U8(); x != 0 {
			t.Errorf("U8 of nothing, with room behind it: %d", x)
		}
		stands(t, "of nothing, behind U8", r, 0, api.ErrShort, false)
	}
}

// P1.2: the room behind the end of what was handed in is not ahead.
func TestReadEndsAtTheEnd(t *testing.T) {
	r := octet.Read([]byte{1, 2, 3, 4}[:1])
	if x := r.U16(); x != 0 {
		t.Errorf("U16: %d", x)
	}
	stands(t, "at the end", r, 1, api.ErrShort, false)
}

// P1.2, R3: a reader walks over a copy.
func TestReadKeepsACopy(t *testing.T) {
	b := []byte{1, 2, 3, 4}
	r := octet.Read(b)
	clear(b)
	if x := r.U16(); x != 0x0102 {
		t.Errorf("U16: %x", x)
	}
	if l := r.Raw(2); !bytes.Equal(l, []byte{3, 4}) {
		t.Errorf("Raw: %v", l)
	}
	b = []byte{1, 2, 3, 4, 5, 6, 7, 8}
	r = octet.Read(b)
	clear(r.Raw(4))
	r.U32()
	if !bytes.Equal(b, []byte{1, 2, 3, 4, 5, 6, 7, 8}) {
		t.Errorf("what was handed in was changed: %v", b)
	}
}

// P1.2, R3: what Raw answers shares nothing with what is ahead, nor with what it answers next.
func TestRawAnswersNewMemory(t *testing.T) {
	r := octet.Read([]byte{1, 2, 3, 4})
	one := r.Raw(2)
	_ = append(one, 99, 99)
	other := r.Raw(1)
	_ = append(other, 98)
	clear(one)
	if !bytes.Equal(other, []byte{3}) {
		t.Errorf("Raw: %v; want [3]", other)
	}
	if x := r.U8(); x != 4 {
		t.Errorf("U8: %d; want 4", x)
	}
	r = octet.Read([]byte{1, 2})
	twin := *r
	clear(r.Raw(2))
	if l := twin.Raw(2); !bytes.Equal(l, []byte{1, 2}) {
		t.Errorf("Raw of a reader's twin: %v; want [1 2]", l)
	}
}

// R5: two readers of the same bytes know nothing of one another.
func TestReadersAreApart(t *testing.T) {
	b := []byte{1, 2}
	one, other := octet.Read(b), octet.Read(b)
	one.U32()
	stands(t, "the other one", other, 2, api.OK, false)
	if x := other.U16(); x != 0x0102 {
		t.Errorf("U16: %x", x)
	}
}

// P1.3: all of a nil reader.
func TestNilReader(t *testing.T) {
	var r *octet.Reader
	for range 2 {
		stands(t, "nil", r, 0, api.ErrNil, false)
		still(t, "nil", r)
	}
}

// P1.4: of bytes that are cut anywhere just the whole numbers are read.
func TestCutAnywhere(t *testing.T) {
	widths := []int{2, 8, 1, 4, 2, 4, 8, 1, 1, 2}
	var all []byte
	for i, width := range widths {
		all = append(all, bytes.Repeat([]byte{byte(i + 1)}, width)...)
	}
	for cut := range len(all) + 1 {
		r := octet.Read(all[:cut])
		begin, stopped := 0, false
		for i, width := range widths {
			whole := begin+width <= cut
			want := uint64(0)
			if whole && !stopped {
				for range width {
					want = want<<8 | uint64(i+1)
				}
				begin += width
			} else {
				stopped = true
			}
			if x := number(r, width); x != want {
				t.Errorf("cut at %d, number %d: %x; want %x", cut, i, x, want)
			}
		}
		err := api.OK
		if stopped {
			err = api.ErrShort
		}
		stands(t, "cut", r, cut-begin, err, !stopped)
	}
}

// P1.4: what was put is read; the other way round, the other way round.
func TestTheOtherWayRound(t *testing.T) {
	for _, p := range puts() {
		for _, q := range puts() {
			for _, x := range []uint64{0, 1, 258, p.most} {
				for _, y := range []uint64{0, 3, 772, q.most} {
					one, other := q.lay(p.lay(nil, x), y), p.lay(q.lay(nil, y), x)
					if turned := append(slices.Clone(one[p.width:]), one[:p.width]...); !bytes.Equal(other, turned) {
						t.Errorf("%s of %d, %s of %d: %v and %v", p.name, x, q.name, y, one, other)
					}
					r := octet.Read(one)
					if a, b := number(r, p.width), number(r, q.width); a != x || b != y || !r.Whole() {
						t.Errorf("%s of %d, %s of %d: read %d, %d", p.name, x, q.name, y, a, b)
					}
				}
			}
		}
	}
}

// P1.4: as many noughts stand ahead as powers of 256 are greater.
func TestNoughtsAheadOfANumber(t *testing.T) {
	for _, p := range puts() {
		for _, x := range numbers(p.most) {
			want, power := 0, uint64(1)
			for range p.width {
				if power > x {
					want++
				}
				power *= 256
			}
			if n := octet.Lead(p.lay(nil, x)); n != want {
				t.Errorf("%s of %d: %d noughts; want %d", p.name, x, n, want)
			}
		}
	}
}

// The chapter's examples.
func TestExamples(t *testing.T) {
	if b := octet.Put32([]byte{8}, 65537); !bytes.Equal(b, []byte{8, 0, 1, 0, 1}) {
		t.Errorf("Put32: %v", b)
	}
	if n, none := octet.Lead([]byte{0, 0, 1, 0}), octet.Lead(nil); n != 2 || none != 0 {
		t.Errorf("Lead: %d, %d", n, none)
	}
	r := octet.Read([]byte{0, 9, 7})
	if x, whole := r.U16(), r.Whole(); x != 9 || whole {
		t.Errorf("U16: %d, %v", x, whole)
	}
	if x, whole := r.U8(), r.Whole(); x != 7 || !whole {
		t.Errorf("U8: %d, %v", x, whole)
	}
	if x, err, whole := r.U8(), r.Err(), r.Whole(); x != 0 || err != api.ErrShort || whole {
		t.Errorf("U8 at the end: %d, %d, %v", x, err, whole)
	}
}
