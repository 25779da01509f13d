package frac_test

import (
	"fmt"
	"math"
	"math/big"
	"slices"
	"testing"

	"mainsheet/api"
	"mainsheet/frac"
)

// The bounds, as the chapter says them.
const (
	most64    = math.MaxUint64
	mostHi    = 1<<36 - 1 // of 2^100 - 1
	maxWeight = 65535
)

// bound is 2^100, which a fraction's number is below.
var bound = new(big.Int).Lsh(big.NewInt(1), 100)

// at is a fraction whose number has both halves.
func at(hi, lo, w uint64) api.Frac {
	return api.Frac{N: api.Wide{Hi: hi, Lo: lo}, W: w}
}

// of is a fraction of a small number.
func of(n, w uint64) api.Frac {
	return at(0, n, w)
}

// of64 is n without bounds.
func of64(n uint64) *big.Int {
	return new(big.Int).SetUint64(n)
}

// whole is a without bounds.
func whole(a api.Wide) *big.Int {
	n := new(big.Int).Lsh(of64(a.Hi), 64)
	return n.Add(n, of64(a.Lo))
}

// worth is the value of f, exact.
func worth(f api.Frac) *big.Rat {
	return new(big.Rat).SetFrac(whole(f.N), of64(f.W))
}

// big100 is a number around 2^100: so much more.
func big100(more int64) *big.Int {
	return new(big.Int).Add(bound, big.NewInt(more))
}

// over is a fraction of a number below 2^128.
func over(n *big.Int, w uint64) api.Frac {
	lo := new(big.Int).And(n, of64(most64))
	return at(new(big.Int).Rsh(n, 64).Uint64(), lo.Uint64(), w)
}

// up is the least whole number that is not less than r, which is not below 0.
func up(r *big.Rat) *big.Int {
	q, rest := new(big.Int).QuoRem(r.Num(), r.Denom(), new(big.Int))
	if rest.Sign() > 0 {
		q.Add(q, big.NewInt(1))
	}
	return q
}

// times is r times n.
func times(r *big.Rat, n uint64) *big.Rat {
	return new(big.Rat).Mul(r, new(big.Rat).SetInt(of64(n)))
}

// behind is whether top is more than slack above f, exact.
func behind(f, top api.Frac, slack uint64) bool {
	gap := new(big.Rat).Sub(worth(top), worth(f))
	return gap.Cmp(new(big.Rat).SetInt(of64(slack))) > 0
}

// weights are edges of all weights, and some between them.
func weights() []uint64 {
	return []uint64{1, 2, 3, 7, 10, 256, 32768, 65534, 65535}
}

// noWeights are some over which no fraction is, those among them that would be weights, were some bits lost.
func noWeights() []uint64 {
	return []uint64{0, 65536, 65537, 1<<17 | 2, 1 << 32, 1<<32 | 1, 1<<32 | 65535, 1 << 63, 1<<63 | 5, most64 - 1, most64}
}

// numbers are edges of all numbers that fractions have, and some between them.
func numbers() []api.Wide {
	l := []api.Wide{{Lo: 6}, {Lo: 7}, {Lo: 65534}, {Lo: 65535}, {Lo: 65536}, {Lo: 0x0102030405060708}, {Hi: 0x123456789, Lo: 0xfedcba9876543210}}
	for _, hi := range []uint64{0, 1, 65535, 1 << 20, 1 << 35, mostHi - 1, mostHi} {
		for _, lo := range []uint64{0, 1, 2, 1 << 63, most64 - 1, most64} {
			l = append(l, api.Wide{Hi: hi, Lo: lo})
		}
	}
	return l
}

// fracs are each of these numbers over each of these weights.
func fracs() []api.Frac {
	var l []api.Frac
	for _, n := range numbers() {
		for _, w := range weights() {
			l = append(l, api.Frac{N: n, W: w})
		}
	}
	return l
}

// fewFracs are those of them of which pairs, or three, are asked for; some have one value.
func fewFracs() []api.Frac {
	l := []api.Frac{of(0, 1), of(0, 65535), of(1, 2), of(2, 4), of(32767, 65534), of(1, 3), of(1, 65535), of(1, 65534), of(65535, 65535), of(1, 1)}
	for i, f := range fracs() {
		if i%11 == 0 {
			l = append(l, f)
		}
	}
	return append(l, at(mostHi, most64, 1), at(mostHi, most64, 65535))
}

// noFracs are some that may not be: of a number that is too great, over no weight, both.
func noFracs() []api.Frac {
	var l []api.Frac
	for _, hi := range []uint64{1 << 36, 1<<36 + 1, 1 << 37, 1 << 63, most64} {
		for _, w := range []uint64{1, 2, 65535, 0, 65536} {
			l = append(l, at(hi, 0, w), at(hi, most64, w))
		}
	}
	for _, w := range noWeights() {
		l = append(l, of(0, w), of(1, w), of(w, w), at(mostHi, most64, w))
	}
	return l
}

// steps are numbers that are added, taken away, and left as a slack.
func steps() []uint64 {
	return []uint64{0, 1, 2, 9, 65535, 1 << 28, 1 << 32, 1 << 63, most64 - 1, most64}
}

// asked names a call and its arguments.
func asked(name string, args ...any) string {
	return fmt.Sprintf("%s%v", name, args)
}

// is asks for a fraction.
func is(t *testing.T, where string, want api.Frac) func(api.Frac, api.Errno) {
	return func(f api.Frac, no api.Errno) {
		t.Helper()
		if f != want || no != api.OK {
			t.Errorf("%s: %v, %d; want %v", where, f, no, want)
		}
	}
}

// isOver asks for n over w, or, if n is 2^100 or more, for ErrRange.
func isOver(t *testing.T, where string, n *big.Int, w uint64) func(api.Frac, api.Errno) {
	if n.Cmp(bound) >= 0 {
		return refused(t, where, api.ErrRange)
	}
	return is(t, where, over(n, w))
}

// refused asks for an error, and nothing beside it.
func refused(t *testing.T, where string, want api.Errno) func(api.Frac, api.Errno) {
	return func(f api.Frac, no api.Errno) {
		t.Helper()
		if f != (api.Frac{}) || no != want {
			t.Errorf("%s: %v, %d; want nothing, %d", where, f, no, want)
		}
	}
}

// P5.1: what may be, from the least to the greatest number, over the least and the greatest weight.
func TestCheck(t *testing.T) {
	for _, f := range append(fracs(), of(0, 1), of(0, 65535), at(mostHi, most64, 1), at(mostHi, most64, 65535)) {
		if no := frac.Check(f); no != api.OK {
			t.Errorf("Check(%v): %d; want OK", f, no)
		}
	}
	for _, f := range append(noFracs(), api.Frac{}, of(0, 65536), of(7, most64), at(1<<36, 0, 1), at(most64, most64, 65535)) {
		if no := frac.Check(f); no != api.ErrFrac {
			t.Errorf("Check(%v): %d; want ErrFrac", f, no)
		}
	}
}

// P5.1: Of at the edges of both.
func TestOf(t *testing.T) {
	for _, n := range append(steps(), 3, most64/2) {
		for _, w := range weights() {
			is(t, asked("Of", n, w), at(0, n, w))(frac.Of(n, w))
		}
		for _, w := range noWeights() {
			refused(t, asked("Of", n, w), api.ErrArg)(frac.Of(n, w))
		}
	}
}

// P5.1: values that are whole, just below and just above, written out by hand.
func TestWholeOfKnownFractions(t *testing.T) {
	for _, c := range []struct {
		f    api.Frac
		want api.Wide
	}{
		{of(0, 1), api.Wide{}},
		{of(0, 65535), api.Wide{}},
		{of(1, 1), api.Wide{Lo: 1}},
		{of(1, 2), api.Wide{}},
		{of(5, 2), api.Wide{Lo: 2}},
		{of(6, 2), api.Wide{Lo: 3}},
		{of(7, 2), api.Wide{Lo: 3}},
		{of(65534, 65535), api.Wide{}},
		{of(65535, 65535), api.Wide{Lo: 1}},
		{of(65536, 65535), api.Wide{Lo: 1}},
		{of(131069, 65535), api.Wide{Lo: 1}},
		{of(131070, 65535), api.Wide{Lo: 2}},
		{of(most64, 1), api.Wide{Lo: most64}},
		{of(most64, 65535), api.Wide{Lo: 281479271743489}},
		{at(1, 0, 1), api.Wide{Hi: 1}},
		{at(1, 0, 2), api.Wide{Lo: 1 << 63}},
		{at(3, 0, 2), api.Wide{Hi: 1, Lo: 1 << 63}},
		{at(1, 0, 10), api.Wide{Lo: 1844674407370955161}},
		{at(65535, 65534, 65535), api.Wide{Hi: 1}},
		{at(65535, 65535, 65535), api.Wide{Hi: 1, Lo: 1}},
		{at(65534, most64, 65535), api.Wide{Lo: most64}},
		{at(mostHi, most64, 1), api.Wide{Hi: mostHi, Lo: most64}},
		{at(mostHi, most64, 2), api.Wide{Hi: 1<<35 - 1, Lo: most64}},
	} {
		if n, no := frac.Whole(c.f); n != c.want || no != api.OK {
			t.Errorf("Whole(%v): %v, %d; want %v", c.f, n, no, c.want)
		}
	}
}

// P5.1: all edges; and what may not be.
func TestWhole(t *testing.T) {
	for _, f := range fracs() {
		want := new(big.Int).Quo(whole(f.N), of64(f.W))
		if n, no := frac.Whole(f); no != api.OK || whole(n).Cmp(want) != 0 {
			t.Errorf("Whole(%v): %v, %d; want %v", f, n, no, want)
		}
	}
	for _, f := range noFracs() {
		if n, no := frac.Whole(f); n != (api.Wide{}) || no != api.ErrFrac {
			t.Errorf("Whole(%v): %v, %d; want 0, ErrFrac", f, n, no)
		}
	}
}

// P5.2: one value with unlike parts, values that differ by the least, the greatest numbers; each the other way round too.
func TestCompareOfKnownFractions(t *testing.T) {
	// so many times each of two neighbouring weights, and one less of each: their values differ by one over the weights' product
	so := new(big.Int).Lsh(big.NewInt(1), 84)
	lesser := over(new(big.Int).Sub(new(big.Int).Mul(so, of64(65534)), big.NewInt(1)), 65534)
	greater := over(new(big.Int).Sub(new(big.Int).Mul(so, of64(65535)), big.NewInt(1)), 65535)
	for _, c := range []struct {
		a, b api.Frac
		want int
	}{
		{of(0, 1), of(0, 65535), 0},
		{of(1, 2), of(2, 4), 0},
		{of(3, 3), of(65535, 65535), 0},
		{of(32767, 65534), of(1, 2), 0},
		{of(65535, 65535), of(65534, 65534), 0},
		{at(65535, 65535, 65535), at(1, 1, 1), 0},
		{at(1<<35, 0, 32768), at(1<<20, 0, 1), 0},
		{of(0, 1), of(1, 65535), -1},
		{of(1, 3), of(1, 2), -1},
		{of(2, 6), of(1, 2), -1},
		{of(1, 65535), of(1, 65534), -1},
		{of(65533, 65534), of(65534, 65535), -1},
		{of(65534, 65533), of(65533, 65532), -1},
		{of(1<<63, 3), of(1<<63+1, 3), -1},
		{of(most64, 2), at(1, 0, 2), -1},
		{of(most64, 1), at(1, 0, 1), -1},
		{at(1, most64, 7), at(2, 0, 7), -1},
		{at(1, 0, 2), of(1<<63+1, 1), -1},
		{of(most64, 65535), of(most64, 65534), -1},
		{lesser, greater, -1},
		{at(mostHi, most64, 65535), at(mostHi, most64, 1), -1},
		{at(mostHi, most64, 65535), at(mostHi, most64, 65534), -1},
		{at(mostHi, most64-1, 65535), at(mostHi, most64, 65535), -1},
		{at(mostHi, most64-1, 1), at(mostHi, most64, 1), -1},
		{at(mostHi, most64, 1), at(mostHi, most64, 1), 0},
		{at(mostHi, most64, 65535), at(mostHi, most64, 65535), 0},
		{of(65535, 1), at(mostHi, most64, 65535), -1},
	} {
		if n := frac.Compare(c.a, c.b); n != c.want {
			t.Errorf("Compare(%v, %v): %d; want %d", c.a, c.b, n, c.want)
		}
		if n := frac.Compare(c.b, c.a); n != -c.want {
			t.Errorf("Compare(%v, %v): %d; want %d", c.b, c.a, n, -c.want)
		}
	}
}

// P5.2: all edges with all, held against their exact values.
func TestCompare(t *testing.T) {
	for _, a := range fracs() {
		left := new(big.Int)
		for _, b := range fracs() {
			left.Mul(whole(a.N), of64(b.W))
			want := left.Cmp(new(big.Int).Mul(whole(b.N), of64(a.W)))
			if n := frac.Compare(a, b); n != want {
				t.Errorf("Compare(%v, %v): %d; want %d", a, b, n, want)
			}
		}
	}
}

// P5.2: one of both may not be, or both.
func TestCompareOfWhatMayNotBe(t *testing.T) {
	for _, no := range noFracs() {
		for _, f := range []api.Frac{of(0, 1), of(1, 2), of(9, 65535), at(mostHi, most64, 1)} {
			if n := frac.Compare(no, f); n != 0 {
				t.Errorf("Compare(%v, %v): %d; want 0", no, f, n)
			}
			if n := frac.Compare(f, no); n != 0 {
				t.Errorf("Compare(%v, %v): %d; want 0", f, no, n)
			}
		}
		for _, other := range noFracs() {
			if n := frac.Compare(no, other); n != 0 {
				t.Errorf("Compare(%v, %v): %d; want 0", no, other, n)
			}
		}
	}
}

// P5.3: carries from one half to the other one, up to 2^100 - 1; one more is refused.
func TestAddOfKnownFractions(t *testing.T) {
	for _, c := range []struct {
		f    api.Frac
		n    uint64
		want api.Frac
	}{
		{of(0, 1), 0, of(0, 1)},
		{of(0, 65535), 1, of(1, 65535)},
		{of(3, 5), 7, of(10, 5)},
		{of(0, 3), most64, of(most64, 3)},
		{of(1, 3), most64, at(1, 0, 3)},
		{of(most64, 3), 0, of(most64, 3)},
		{of(most64, 3), 1, at(1, 0, 3)},
		{of(most64, 3), most64, at(1, most64-1, 3)},
		{at(1, most64, 2), 1, at(2, 0, 2)},
		{at(1, 1<<63, 2), 1 << 63, at(2, 0, 2)},
		{at(mostHi-1, most64, 65535), 1, at(mostHi, 0, 65535)},
		{at(mostHi-1, most64, 1), most64, at(mostHi, most64-1, 1)},
		{at(mostHi, 0, 1), most64, at(mostHi, most64, 1)},
		{at(mostHi, most64-1, 9), 1, at(mostHi, most64, 9)},
		{at(mostHi, most64, 9), 0, at(mostHi, most64, 9)},
	} {
		is(t, asked("Add", c.f, c.n), c.want)(frac.Add(c.f, c.n))
	}
	for _, c := range []struct {
		f api.Frac
		n uint64
	}{
		{at(mostHi, most64, 1), 1},
		{at(mostHi, most64, 65535), 1},
		{at(mostHi, most64, 1), most64},
		{at(mostHi, 1, 65535), most64},
		{at(mostHi, most64-1, 2), 2},
		{at(mostHi, 1<<63, 2), 1 << 63},
	} {
		refused(t, asked("Add", c.f, c.n), api.ErrRange)(frac.Add(c.f, c.n))
	}
}

// P5.3: n just below the number, the number itself, just above it; borrows from one half to the other one.
func TestLessOfKnownFractions(t *testing.T) {
	for _, c := range []struct {
		f    api.Frac
		n    uint64
		want api.Frac
	}{
		{of(0, 1), 0, of(0, 1)},
		{of(0, 65535), 1, of(0, 65535)},
		{of(0, 65535), most64, of(0, 65535)},
		{of(3, 5), 0, of(3, 5)},
		{of(3, 5), 1, of(2, 5)},
		{of(3, 5), 2, of(1, 5)},
		{of(3, 5), 3, of(0, 5)},
		{of(3, 5), 4, of(0, 5)},
		{of(3, 5), 7, of(0, 5)},
		{of(3, 5), most64, of(0, 5)},
		{of(most64, 7), most64 - 1, of(1, 7)},
		{of(most64, 7), most64, of(0, 7)},
		{of(most64-1, 7), most64, of(0, 7)},
		{at(1, 0, 7), 0, at(1, 0, 7)},
		{at(1, 0, 7), 1, of(most64, 7)},
		{at(1, 0, 7), most64, of(1, 7)},
		{at(1, 5, 7), 6, of(most64, 7)},
		{at(1, most64, 7), most64, at(1, 0, 7)},
		{at(2, 0, 7), 1, at(1, most64, 7)},
		{at(mostHi, 0, 1), 1, at(mostHi-1, most64, 1)},
		{at(mostHi, most64, 65535), most64, at(mostHi, 0, 65535)},
		{at(mostHi, most64, 1), 0, at(mostHi, most64, 1)},
	} {
		is(t, asked("Less", c.f, c.n), c.want)(frac.Less(c.f, c.n))
	}
}

// P5.3: all edges with all steps.
func TestAddAndLess(t *testing.T) {
	for _, f := range fracs() {
		for _, n := range steps() {
			isOver(t, asked("Add", f, n), new(big.Int).Add(whole(f.N), of64(n)), f.W)(frac.Add(f, n))
			left := new(big.Int).Sub(whole(f.N), of64(n))
			if left.Sign() < 0 {
				left.SetInt64(0)
			}
			isOver(t, asked("Less", f, n), left, f.W)(frac.Less(f, n))
		}
	}
}

// P5.3: what may not be is refused ahead of all else: also where the number would be too great besides, or nothing is left.
func TestAddAndLessOfWhatMayNotBe(t *testing.T) {
	for _, f := range noFracs() {
		for _, n := range steps() {
			refused(t, asked("Add", f, n), api.ErrFrac)(frac.Add(f, n))
			refused(t, asked("Less", f, n), api.ErrFrac)(frac.Less(f, n))
		}
	}
	refused(t, "Add to what would come below 2^100", api.ErrFrac)(frac.Add(at(1<<36, 0, 1), 0))
	refused(t, "Less of what would come below 2^100", api.ErrFrac)(frac.Less(at(1<<36, 0, 1), 1))
}

// P5.4: exact and rounded up, of numbers of one half and of two.
func TestOverOfKnownFractions(t *testing.T) {
	for _, c := range []struct {
		f    api.Frac
		w    uint64
		want api.Frac
	}{
		{of(0, 65535), 1, of(0, 1)},
		{of(0, 1), 65535, of(0, 65535)},
		{of(1, 3), 2, of(1, 2)},
		{of(2, 3), 2, of(2, 2)},
		{of(3, 3), 1, of(1, 1)},
		{of(1, 2), 4, of(2, 4)},
		{of(2, 4), 2, of(1, 2)},
		{of(1, 65535), 1, of(1, 1)},
		{of(65535, 65535), 1, of(1, 1)},
		{of(65536, 65535), 1, of(2, 1)},
		{of(1, 65535), 65534, of(1, 65534)},
		{of(65534, 65535), 65534, of(65534, 65534)},
		{of(1, 1), 65535, of(65535, 65535)},
		{of(7, 9), 9, of(7, 9)},
		{of(6, 4), 4, of(6, 4)},
		{of(most64, 1), 2, at(1, most64-1, 2)},
		{of(most64, 2), 1, of(1<<63, 1)},
		{at(1, 0, 10), 1, of(1844674407370955162, 1)},
		{at(1, 0, 3), 7, at(2, 6148914691236517206, 7)}, // (7 times 2^64, and 2) over 3
		{at(mostHi, most64, 65535), 1, at(1<<20+16, 4503668347895825, 1)},
		{at(mostHi, most64, 65535), 65535, at(mostHi, most64, 65535)},
		{at(mostHi, most64, 1), 1, at(mostHi, most64, 1)},
		{at(mostHi, most64, 2), 1, at(1<<35, 0, 1)},
		{at(1<<35, 0, 65535), 65534, at(34359214071, 18444492239535603704, 65534)},
	} {
		is(t, asked("Over", c.f, c.w), c.want)(frac.Over(c.f, c.w))
	}
}

// P5.4: numbers that come to 2^100 - 1, and to 2^100, exact and rounded up; and some far above.
func TestOverAtTheBound(t *testing.T) {
	for _, c := range []struct {
		f    api.Frac
		w    uint64
		want *big.Int
	}{
		{over(part(t, 1, big100(-1), 0, 3), 1), 3, big100(-1)},
		{over(part(t, 7, big100(-1), 1, 13), 7), 13, big100(-1)}, // a seventh below it
		{at(1<<35-1, most64, 1), 2, big100(-2)},
		{at(1<<35, 0, 1), 2, big100(0)},
		{over(part(t, 5, big100(0), 3, 7), 5), 7, big100(0)},   // three fifths below it
		{over(part(t, 5, big100(0), 10, 7), 5), 7, big100(-2)}, // one number less: just two below it
	} {
		isOver(t, asked("Over", c.f, c.w), c.want, c.w)(frac.Over(c.f, c.w))
	}
	for _, c := range []struct {
		f api.Frac
		w uint64
	}{
		{at(mostHi, most64, 65534), 65535},
		{at(mostHi, most64, 1), 2},
		{at(mostHi, most64, 1), 65535},
		{at(1<<20+17, 0, 1), 65535},
		{at(mostHi, 0, 32768), 65535},
	} {
		refused(t, asked("Over", c.f, c.w), api.ErrRange)(frac.Over(c.f, c.w))
	}
}

// part is (m times n, less l) over d, which leaves nothing.
func part(t *testing.T, m int64, n *big.Int, l, d int64) *big.Int {
	all := new(big.Int).Mul(big.NewInt(m), n)
	q, rest := all.QuoRem(all.Sub(all, big.NewInt(l)), big.NewInt(d), new(big.Int))
	if rest.Sign() != 0 {
		t.Fatalf("%d times %v, less %d, over %d: %v left", m, n, l, d, rest)
	}
	return q
}

// P5.4: all edges over all weights.
func TestOver(t *testing.T) {
	for _, f := range fracs() {
		for _, w := range weights() {
			isOver(t, asked("Over", f, w), up(times(worth(f), w)), w)(frac.Over(f, w))
		}
	}
}

// P5.4: a weight that may not be; ahead of that, and of all else, a fraction that may not be; behind it a number that is too great.
func TestOverRefuses(t *testing.T) {
	for _, w := range noWeights() {
		for _, f := range []api.Frac{of(0, 1), of(1, 2), at(mostHi, most64, 1), at(mostHi, most64, 65535)} {
			refused(t, asked("Over", f, w), api.ErrArg)(frac.Over(f, w))
		}
		for _, f := range noFracs() {
			refused(t, asked("Over", f, w), api.ErrFrac)(frac.Over(f, w))
		}
	}
	for _, w := range weights() {
		for _, f := range noFracs() {
			refused(t, asked("Over", f, w), api.ErrFrac)(frac.Over(f, w))
		}
	}
}

// P5.5: just at the slack, and a least bit off it; the top below, the same, above; unlike weights; the greatest slack.
func TestBehindAndRaiseOfKnownFractions(t *testing.T) {
	for _, c := range []struct {
		f, top api.Frac
		slack  uint64
		want   bool
		raised api.Frac
	}{
		{of(0, 1), of(0, 1), 0, false, of(0, 1)},
		{of(2, 4), of(1, 2), 0, false, of(2, 4)},
		{of(1, 2), of(1, 3), 0, false, of(1, 2)},
		{of(5, 1), of(3, 1), 0, false, of(5, 1)},
		{of(5, 1), of(3, 1), most64, false, of(5, 1)},
		{of(0, 2), of(10, 1), 9, true, of(2, 2)},
		{of(0, 2), of(10, 1), 10, false, of(0, 2)},
		{of(0, 2), of(10, 1), 11, false, of(0, 2)},
		{of(1, 2), of(10, 1), 9, true, of(2, 2)},
		{of(2, 2), of(10, 1), 9, false, of(2, 2)},
		{of(3, 2), of(10, 1), 9, false, of(3, 2)},
		{of(1, 3), of(1, 2), 0, true, of(2, 3)},
		{of(1, 65535), of(1, 65534), 0, true, of(2, 65535)},
		{of(0, 65535), of(1, 65535), 0, true, of(1, 65535)},
		{of(0, 1), of(1, 65535), 0, true, of(1, 1)},
		{of(7, 10), of(77, 10), 7, false, of(7, 10)},
		{of(7, 10), of(78, 10), 7, true, of(8, 10)},
		{of(7, 10), of(76, 10), 7, false, of(7, 10)},
		{of(7, 10), of(77, 10), 6, true, of(17, 10)},
		{of(7, 10), of(77, 10), 8, false, of(7, 10)},
		{of(4, 3), of(65535, 7), 100, true, of(27787, 3)}, // 9362 and 1/7, less 100
		{of(0, 1), of(most64, 1), most64, false, of(0, 1)},
		{of(0, 1), at(1, 0, 1), most64, true, of(1, 1)},
		{of(0, 1), at(1, 0, 1), most64 - 1, true, of(2, 1)},
		{of(1, 65535), at(65535, 0, 65535), most64, true, of(65535, 65535)},
		{of(65535, 65535), at(65535, 0, 65535), most64, false, of(65535, 65535)},
		{of(65534, 65535), at(65535, 0, 65535), most64, true, of(65535, 65535)},
		{at(mostHi, most64, 1), at(mostHi, most64, 1), 0, false, at(mostHi, most64, 1)},
		{at(mostHi, most64, 1), at(mostHi, most64, 1), most64, false, at(mostHi, most64, 1)},
		{at(mostHi, most64-1, 1), at(mostHi, most64, 1), 0, true, at(mostHi, most64, 1)},
		{at(mostHi, most64-1, 1), at(mostHi, most64, 1), 1, false, at(mostHi, most64-1, 1)},
		{at(mostHi, most64-1, 65535), at(mostHi, most64, 65535), 0, true, at(mostHi, most64, 65535)},
		{at(mostHi, most64, 65535), at(mostHi, most64, 65535), 0, false, at(mostHi, most64, 65535)},
	} {
		if is := frac.Behind(c.f, c.top, c.slack); is != c.want {
			t.Errorf("Behind(%v, %v, %d): %v; want %v", c.f, c.top, c.slack, is, c.want)
		}
		is(t, asked("Raise", c.f, c.top, c.slack), c.raised)(frac.Raise(c.f, c.top, c.slack))
	}
}

// P5.5: raised numbers of 2^100 - 1, and of 2^100, exact and rounded up, and some far above; also where the top itself is too great over the weight, and the slack takes it below the bound again.
func TestRaiseAtTheBound(t *testing.T) {
	for _, c := range []struct {
		f, top api.Frac
		slack  uint64
		want   *big.Int
	}{
		{of(0, 2), at(mostHi, most64, 2), 0, big100(-1)},
		{of(0, 13), over(part(t, 7, big100(-1), 1, 13), 7), 0, big100(-1)},
		{of(0, 2), at(1<<35, 0, 1), 0, big100(0)},
		{of(0, 7), over(part(t, 5, big100(0), 3, 7), 5), 0, big100(0)},
		{of(0, 7), over(part(t, 5, big100(0), 10, 7), 5), 0, big100(-2)},
		{of(0, 2), at(1<<35, 0, 1), 1, big100(-2)},
		{of(0, 2), at(1<<35, 9, 1), 9, big100(0)},
		{of(0, 2), at(1<<35, 9, 1), 10, big100(-2)},
		{of(0, 2), at(1<<35, 8, 1), 9, big100(-2)},
		{of(0, 2), at(1<<35, most64, 1), most64, big100(0)},
		{of(0, 2), at(1<<35, most64-1, 1), most64, big100(-2)},
	} {
		if !frac.Behind(c.f, c.top, c.slack) {
			t.Errorf("Behind(%v, %v, %d): false", c.f, c.top, c.slack)
		}
		isOver(t, asked("Raise", c.f, c.top, c.slack), c.want, c.f.W)(frac.Raise(c.f, c.top, c.slack))
	}
	for _, slack := range []uint64{0, most64} {
		for _, f := range []api.Frac{of(0, 65535), of(9, 2), at(mostHi, most64, 65535)} {
			refused(t, asked("Raise", f, slack), api.ErrRange)(frac.Raise(f, at(mostHi, most64, 1), slack))
		}
		refused(t, asked("Raise", slack), api.ErrRange)(frac.Raise(at(mostHi, most64, 65535), at(mostHi, most64, 65534), slack))
	}
}

// P5.5: pairs of edges with all slacks, and with those next to what lies between the two.
func TestBehindAndRaise(t *testing.T) {
	for _, f := range fewFracs() {
		for _, top := range fewFracs() {
			slacks := steps()
			gap := new(big.Rat).Sub(worth(top), worth(f))
			if gap.Sign() > 0 && up(gap).IsUint64() {
				n := up(gap).Uint64()
				slacks = append(slacks, n, n-1, n+1)
			}
			for _, slack := range slacks {
				want := behind(f, top, slack)
				if is := frac.Behind(f, top, slack); is != want {
					t.Errorf("Behind(%v, %v, %d): %v; want %v", f, top, slack, is, want)
				}
				n := whole(f.N)
				if want {
					n = up(times(new(big.Rat).Sub(worth(top), new(big.Rat).SetInt(of64(slack))), f.W))
				}
				isOver(t, asked("Raise", f, top, slack), n, f.W)(frac.Raise(f, top, slack))
			}
		}
	}
}

// P5.5: one of both may not be, or both: also where it would not be behind, or the raised number would be too great.
func TestBehindAndRaiseOfWhatMayNotBe(t *testing.T) {
	refuses := func(f, top api.Frac) {
		t.Helper()
		for _, slack := range []uint64{0, 1, most64} {
			if frac.Behind(f, top, slack) {
				t.Errorf("Behind(%v, %v, %d): true", f, top, slack)
			}
			refused(t, asked("Raise", f, top, slack), api.ErrFrac)(frac.Raise(f, top, slack))
		}
	}
	for _, no := range noFracs() {
		for _, f := range []api.Frac{of(0, 1), of(5, 65535), at(mostHi, most64, 1), at(mostHi, most64, 65535)} {
			refuses(f, no)
			refuses(no, f)
		}
		refuses(no, no)
		refuses(no, api.Frac{})
		refuses(api.Frac{}, no)
	}
}

// P5.6: none, one, several with one value, with unlike parts: the first one.
func TestMostAndLeastOfKnownFractions(t *testing.T) {
	for _, c := range []struct {
		l           []api.Frac
		most, least int
	}{
		{[]api.Frac{of(0, 1)}, 0, 0},
		{[]api.Frac{at(mostHi, most64, 65535)}, 0, 0},
		{[]api.Frac{of(1, 3), of(1, 2)}, 1, 0},
		{[]api.Frac{of(1, 2), of(1, 3)}, 0, 1},
		{[]api.Frac{of(1, 2), of(2, 4), of(3, 6)}, 0, 0},
		{[]api.Frac{of(3, 6), of(1, 2), of(1, 2)}, 0, 0},
		{[]api.Frac{of(9, 9), of(1, 2), of(2, 4), of(5, 5), of(3, 6)}, 0, 1},
		{[]api.Frac{of(1, 2), of(1, 1), of(2, 4), of(2, 2), of(0, 7), of(0, 1)}, 1, 4},
		{[]api.Frac{of(3, 1), of(100, 50), of(2, 1), of(7, 1), of(14, 2), of(4, 2)}, 3, 1},
		{[]api.Frac{of(65535, 65535), of(65534, 65535), of(65534, 65534), of(1, 1)}, 0, 1},
		{[]api.Frac{of(5, 9), of(4, 9), of(3, 9), of(2, 9), of(1, 9)}, 0, 4},
		{[]api.Frac{of(1, 9), of(2, 9), of(3, 9), of(4, 9), of(5, 9)}, 4, 0},
		{[]api.Frac{of(1, 65535), of(1, 65534), of(1, 65535), of(1, 65534)}, 1, 0},
		{[]api.Frac{at(mostHi, most64, 65535), at(mostHi, most64, 1), at(mostHi, most64-1, 1), of(65535, 1)}, 1, 3},
		{slices.Repeat([]api.Frac{of(2, 4), of(1, 2)}, 500), 0, 0},
	} {
		was := slices.Clone(c.l)
		if place, there := frac.Most(c.l); place != c.most || !there {
			t.Errorf("Most(%v): %d, %v; want %d", c.l, place, there, c.most)
		}
		if place, there := frac.Least(c.l); place != c.least || !there {
			t.Errorf("Least(%v): %d, %v; want %d", c.l, place, there, c.least)
		}
		if !slices.Equal(c.l, was) {
			t.Errorf("%v was changed to %v", was, c.l)
		}
	}
}

// nothing asks both calls for 0 and false.
func nothing(t *testing.T, l []api.Frac) {
	t.Helper()
	if place, there := frac.Most(l); place != 0 || there {
		t.Errorf("Most(%v): %d, %v; want 0, false", l, place, there)
	}
	if place, there := frac.Least(l); place != 0 || there {
		t.Errorf("Least(%v): %d, %v; want 0, false", l, place, there)
	}
}

// P5.6: none; and one that may not be, in each place.
func TestMostAndLeastOfNothing(t *testing.T) {
	nothing(t, nil)
	nothing(t, []api.Frac{})
	nothing(t, make([]api.Frac, 0, 5))
	for _, no := range append(noFracs(), api.Frac{}) {
		nothing(t, []api.Frac{no})
		nothing(t, []api.Frac{no, no})
		l := []api.Frac{of(1, 2), of(9, 1), of(0, 3), of(4, 1)}
		for place := range len(l) + 1 {
			nothing(t, slices.Insert(slices.Clone(l), place, no))
		}
		for place := range l {
			with := slices.Clone(l)
			with[place] = no
			nothing(t, with)
		}
	}
}

// P5.6: rows of all lengths out of the edges, held against their exact values; what stands behind a row's end does not count.
func TestMostAndLeast(t *testing.T) {
	all := fracs()
	for round := range 200 {
		var l []api.Frac
		for i := range round % 12 {
			l = append(l, all[(round*37+i*i*101+i*59)%len(all)])
		}
		if len(l) == 0 {
			continue
		}
		most, least := 0, 0
		for i, f := range l {
			if worth(f).Cmp(worth(l[most])) > 0 {
				most = i
			}
			if worth(f).Cmp(worth(l[least])) < 0 {
				least = i
			}
		}
		l = append(l, api.Frac{}, at(mostHi, most64, 1))[:len(l)]
		if place, there := frac.Most(l); place != most || !there {
			t.Errorf("Most(%v): %d, %v; want %d", l, place, there, most)
		}
		if place, there := frac.Least(l); place != least || !there {
			t.Errorf("Least(%v): %d, %v; want %d", l, place, there, least)
		}
	}
}

// P5.7: Compare is one order.
func TestCompareIsOneOrder(t *testing.T) {
	l := fewFracs()
	for _, a := range l {
		if frac.Compare(a, a) != 0 {
			t.Errorf("Compare(%v, itself): %d", a, frac.Compare(a, a))
		}
		for _, b := range l {
			ab := frac.Compare(a, b)
			if back := frac.Compare(b, a); ab != -back {
				t.Errorf("Compare(%v, %v): %d; the other way round %d", a, b, ab, back)
			}
			for _, c := range l {
				bc, ac := frac.Compare(b, c), frac.Compare(a, c)
				if ab <= 0 && bc <= 0 && (ac > 0 || ac == 0 && (ab < 0 || bc < 0)) {
					t.Errorf("Compare: %v, %v, %v stand in no order", a, b, c)
				}
			}
		}
	}
}

// P5.7: Over never makes less, and makes more by less than one over the weight; over the same one nothing is changed.
func TestOverChangesLittle(t *testing.T) {
	for _, f := range fracs() {
		is(t, asked("Over the same", f), f)(frac.Over(f, f.W))
		for _, w := range weights() {
			g, no := frac.Over(f, w)
			if no != api.OK {
				continue
			}
			if g.W != w || frac.Compare(g, f) < 0 {
				t.Errorf("Over(%v, %d): %v", f, w, g)
			}
			if least, no := frac.Less(g, 1); g.N != (api.Wide{}) && (no != api.OK || frac.Compare(least, f) >= 0) {
				t.Errorf("Over(%v, %d): %v, though %v is not less", f, w, g, least)
			}
		}
	}
}

// P5.7: what is added is taken away again.
func TestAddLeadsBack(t *testing.T) {
	for _, f := range fracs() {
		for _, n := range steps() {
			if more, no := frac.Add(f, n); no == api.OK {
				is(t, asked("Less of Add", f, n), f)(frac.Less(more, n))
			}
		}
	}
}

// P5.7: raised it is not behind, and as little above that as its weight lets it be: with one less it would be.
func TestRaisedIsJustNotBehind(t *testing.T) {
	for _, f := range fewFracs() {
		for _, top := range fewFracs() {
			for _, slack := range steps() {
				g, no := frac.Raise(f, top, slack)
				if no != api.OK {
					continue
				}
				if g.W != f.W || frac.Compare(g, f) < 0 || frac.Behind(g, top, slack) {
					t.Errorf("Raise(%v, %v, %d): %v", f, top, slack, g)
				}
				if g == f {
					continue
				}
				if least, _ := frac.Less(g, 1); !frac.Behind(least, top, slack) {
					t.Errorf("Raise(%v, %v, %d): %v, though %v is not behind", f, top, slack, g, least)
				}
				is(t, asked("Raise again", g, top, slack), g)(frac.Raise(g, top, slack))
			}
		}
	}
}

// P5.1 to P5.5: fractions of all lengths, none of them an edge, told by a short rule.
func TestManyFractions(t *testing.T) {
	x := uint64(1)
	next := func(round int) uint64 {
		x = x*6364136223846793005 + 1442695040888963407
		return (x ^ x>>29) >> (round % 64)
	}
	some := func(round int) api.Frac {
		return at(next(round*7)>>28, next(round*3), next(round*11)%maxWeight+1)
	}
	for round := range 4000 {
		f, top := some(round), some(round+1)
		n, w := next(round*5), next(round*13)%maxWeight+1
		if round%3 == 0 { // near each other: the top some whole steps above, over another weight
			above, _ := frac.Add(f, n)
			top, _ = frac.Over(above, w)
		}
		if frac.Check(f) != api.OK || frac.Check(top) != api.OK {
			continue
		}
		if is := frac.Compare(f, top); is != worth(f).Cmp(worth(top)) {
			t.Errorf("Compare(%v, %v): %d", f, top, is)
		}
		isOver(t, asked("Add", f, n), new(big.Int).Add(whole(f.N), of64(n)), f.W)(frac.Add(f, n))
		isOver(t, asked("Over", f, w), up(times(worth(f), w)), w)(frac.Over(f, w))
		slack := n / f.W
		if is := frac.Behind(f, top, slack); is != behind(f, top, slack) {
			t.Errorf("Behind(%v, %v, %d): %v", f, top, slack, is)
		}
		want := whole(f.N)
		if behind(f, top, slack) {
			want = up(times(new(big.Rat).Sub(worth(top), new(big.Rat).SetInt(of64(slack))), f.W))
		}
		isOver(t, asked("Raise", f, top, slack), want, f.W)(frac.Raise(f, top, slack))
	}
}

// The chapter's examples.
func TestExamples(t *testing.T) {
	if n := frac.Compare(of(1, 2), of(2, 4)); n != 0 {
		t.Errorf("Compare(1/2, 2/4): %d", n)
	}
	if n := frac.Compare(of(1, 3), of(1, 2)); n != -1 {
		t.Errorf("Compare(1/3, 1/2): %d", n)
	}
	is(t, "Over(1/3, 2)", of(1, 2))(frac.Over(of(1, 3), 2))
	is(t, "Over(3/3, 1)", of(1, 1))(frac.Over(of(3, 3), 1))
	refused(t, "Over(1/2, 0)", api.ErrArg)(frac.Over(of(1, 2), 0))
	if !frac.Behind(of(0, 2), of(10, 1), 9) {
		t.Error("Behind(0/2, 10/1, 9): false")
	}
	is(t, "Raise(0/2, 10/1, 9)", of(2, 2))(frac.Raise(of(0, 2), of(10, 1), 9))
	if frac.Behind(of(2, 2), of(10, 1), 9) {
		t.Error("Behind(2/2, 10/1, 9): true")
	}
	is(t, "Less(3/5, 7)", of(0, 5))(frac.Less(of(3, 5), 7))
	is(t, "Add(3/5, 7)", of(10, 5))(frac.Add(of(3, 5), 7))
	if n, no := frac.Whole(of(7, 2)); n != (api.Wide{Lo: 3}) || no != api.OK {
		t.Errorf("Whole(7/2): %v, %d", n, no)
	}
}
