package wide_test

import (
	"fmt"
	"math"
	"math/big"
	"strconv"
	"strings"
	"testing"

	"mainsheet/api"
	"mainsheet/wide"
)

// The greatest numbers.
const (
	most64   = math.MaxUint64
	most     = "340282366920938463463374607431768211455" // 2^128 - 1
	tooGreat = "340282366920938463463374607431768211456" // 2^128
)

// numbers are edges of all numbers of 64 bits, and some between them.
func numbers() []uint64 {
	l := []uint64{0, 1, 2, 3, 7, 9, 10, 11, 99, 65535, 1000000000, 0x0102030405060708, 0xfedcba9876543210, 10000000000000000000}
	for _, bit := range []int{31, 32, 33, 63} {
		l = append(l, 1<<bit-1, 1<<bit, 1<<bit+1)
	}
	return append(l, 0xffffffff00000000, 0xffffffff00000001, most64-1, most64)
}

// wides are edges of all wide numbers, and some between them.
func wides() []api.Wide {
	var l []api.Wide
	for _, hi := range []uint64{0, 1, 2, 9, 1<<32 - 1, 1 << 32, 0x0102030405060708, 1<<63 - 1, 1 << 63, most64 - 1, most64} {
		for _, lo := range []uint64{0, 1, 2, 10, 1<<32 - 1, 1 << 32, 0xfedcba9876543210, 1<<63 - 1, 1 << 63, most64 - 1, most64} {
			l = append(l, api.Wide{Hi: hi, Lo: lo})
		}
	}
	return l
}

// fewWides are those of them with which three are asked at once.
func fewWides() []api.Wide {
	var l []api.Wide
	for i, a := range wides() {
		if i%5 == 0 {
			l = append(l, a)
		}
	}
	return append(l, api.Wide{Hi: most64, Lo: most64})
}

// of64 is n without bounds.
func of64(n uint64) *big.Int {
	return new(big.Int).SetUint64(n)
}

// whole is a without bounds.
func whole(a api.Wide) *big.Int {
	n := new(big.Int).Lsh(of64(a.Hi), 64)
	return n.Add(n, of64(a.Lo))
}

// product is a times b without bounds.
func product(a, b *big.Int) *big.Int {
	return new(big.Int).Mul(a, b)
}

// over is a over d without bounds, rounded down, or up.
func over(a, d *big.Int, up bool) *big.Int {
	q, rest := new(big.Int).QuoRem(a, d, new(big.Int))
	if up && rest.Sign() > 0 {
		q.Add(q, big.NewInt(1))
	}
	return q
}

// asked names a call and its arguments.
func asked(name string, args ...any) string {
	return fmt.Sprintf("%s%v", name, args)
}

// is asks for a wide number, or, if want is none of 128 bits, for ErrRange and nothing beside it.
func is(t *testing.T, where string, want *big.Int) func(api.Wide, api.Errno) {
	return func(a api.Wide, no api.Errno) {
		t.Helper()
		switch {
		case want.Sign() < 0 || want.BitLen() > 128:
			if a != (api.Wide{}) || no != api.ErrRange {
				t.Errorf("%s: %v, %d; want nothing, ErrRange", where, a, no)
			}
		case no != api.OK || whole(a).Cmp(want) != 0:
			t.Errorf("%s: %v, %d; want %v", where, a, no, want)
		}
	}
}

// is64 asks for a number, or, if want is none of 64 bits, for ErrRange and nothing beside it.
func is64(t *testing.T, where string, want *big.Int) func(uint64, api.Errno) {
	return func(n uint64, no api.Errno) {
		t.Helper()
		switch {
		case want.BitLen() > 64:
			if n != 0 || no != api.ErrRange {
				t.Errorf("%s: %d, %d; want 0, ErrRange", where, n, no)
			}
		case no != api.OK || of64(n).Cmp(want) != 0:
			t.Errorf("%s: %d, %d; want %v", where, n, no, want)
		}
	}
}

// refused asks for an error, and nothing beside it.
func refused(t *testing.T, where string, want api.Errno) func(api.Wide, api.Errno) {
	return func(a api.Wide, no api.Errno) {
		t.Helper()
		if a != (api.Wide{}) || no != want {
			t.Errorf("%s: %v, %d; want nothing, %d", where, a, no, want)
		}
	}
}

// P3.1: Of is n.
func TestOf(t *testing.T) {
	for _, n := range numbers() {
		if a := wide.Of(n); a != (api.Wide{Lo: n}) {
			t.Errorf("Of(%d): %v", n, a)
		}
	}
}

// P3.1: products written out by hand.
func TestMulOfKnownNumbers(t *testing.T) {
	for _, c := range []struct {
		a, b uint64
		want api.Wide
	}{
		{0, 0, api.Wide{}},
		{0, most64, api.Wide{}},
		{1, most64, api.Wide{Lo: most64}},
		{6, 7, api.Wide{Lo: 42}},
		{1<<32 - 1, 1<<32 - 1, api.Wide{Lo: 1<<64 - 1<<33 + 1}},
		{1<<32 - 1, 1 << 32, api.Wide{Lo: 1<<64 - 1<<32}},
		{1 << 32, 1 << 32, api.Wide{Hi: 1}},
		{1 << 63, 2, api.Wide{Hi: 1}},
		{1 << 63, 1 << 63, api.Wide{Hi: 1 << 62}},
		{1 << 63, most64, api.Wide{Hi: 1<<63 - 1, Lo: 1 << 63}},
		{2, most64, api.Wide{Hi: 1, Lo: most64 - 1}},
		{most64, most64, api.Wide{Hi: most64 - 1, Lo: 1}},
	} {
		if a := wide.Mul(c.a, c.b); a != c.want {
			t.Errorf("Mul(%d, %d): %v; want %v", c.a, c.b, a, c.want)
		}
		if a := wide.Mul(c.b, c.a); a != c.want {
			t.Errorf("Mul(%d, %d): %v; want %v", c.b, c.a, a, c.want)
		}
	}
}

// P3.1: all products of two edges.
func TestMul(t *testing.T) {
	for _, a := range numbers() {
		for _, b := range numbers() {
			if got := whole(wide.Mul(a, b)); got.Cmp(product(of64(a), of64(b))) != 0 {
				t.Errorf("Mul(%d, %d): %v", a, b, got)
			}
		}
	}
}

// P3.1: those that differ in Hi alone, in Lo alone, in both the other way round, in one quarter alone.
func TestCompareOfKnownNumbers(t *testing.T) {
	for _, c := range []struct {
		less, more api.Wide
	}{
		{api.Wide{}, api.Wide{Lo: 1}},
		{api.Wide{}, api.Wide{Hi: 1}},
		{api.Wide{Lo: most64}, api.Wide{Hi: 1}},
		{api.Wide{Hi: 1, Lo: 5}, api.Wide{Hi: 2, Lo: 5}},
		{api.Wide{Hi: 5, Lo: 1}, api.Wide{Hi: 5, Lo: 2}},
		{api.Wide{Hi: 1, Lo: 2}, api.Wide{Hi: 2, Lo: 1}},
		{api.Wide{Hi: 1, Lo: most64}, api.Wide{Hi: 2}},
		{api.Wide{Hi: 1<<63 - 1, Lo: most64}, api.Wide{Hi: 1 << 63}},
		{api.Wide{Hi: 1<<63 - 1}, api.Wide{Hi: most64}},
		{api.Wide{Hi: 7, Lo: 1<<63 - 1}, api.Wide{Hi: 7, Lo: 1 << 63}},
		{api.Wide{Hi: 1 << 32}, api.Wide{Hi: 2 << 32}},
		{api.Wide{Hi: 1<<32 | 9}, api.Wide{Hi: 2<<32 | 3}},
		{api.Wide{Hi: 3, Lo: 1<<32 | 9}, api.Wide{Hi: 3, Lo: 2<<32 | 3}},
		{api.Wide{Hi: most64, Lo: most64 - 1}, api.Wide{Hi: most64, Lo: most64}},
	} {
		for _, got := range []struct {
			name string
			n    int
			want int
		}{
			{"less, more", wide.Compare(c.less, c.more), -1},
			{"more, less", wide.Compare(c.more, c.less), 1},
			{"less, less", wide.Compare(c.less, c.less), 0},
			{"more, more", wide.Compare(c.more, c.more), 0},
		} {
			if got.n != got.want {
				t.Errorf("Compare(%s) of %v, %v: %d; want %d", got.name, c.less, c.more, got.n, got.want)
			}
		}
	}
}

// P3.1: all of two edges.
func TestCompare(t *testing.T) {
	for _, a := range wides() {
		for _, b := range wides() {
			if n := wide.Compare(a, b); n != whole(a).Cmp(whole(b)) {
				t.Errorf("Compare(%v, %v): %d", a, b, n)
			}
		}
	}
}

// P3.2: sums that carry, a sum of 2^128 - 1, and of 2^128.
func TestAddOfKnownNumbers(t *testing.T) {
	for _, c := range []struct {
		a, b, want api.Wide
		no         api.Errno
	}{
		{api.Wide{}, api.Wide{}, api.Wide{}, api.OK},
		{api.Wide{Hi: 1, Lo: 2}, api.Wide{Hi: 30, Lo: 40}, api.Wide{Hi: 31, Lo: 42}, api.OK},
		{api.Wide{Lo: most64}, api.Wide{Lo: 1}, api.Wide{Hi: 1}, api.OK},
		{api.Wide{Lo: most64}, api.Wide{Lo: most64}, api.Wide{Hi: 1, Lo: most64 - 1}, api.OK},
		{api.Wide{Hi: 5, Lo: most64}, api.Wide{Hi: 6, Lo: 2}, api.Wide{Hi: 12, Lo: 1}, api.OK},
		{api.Wide{Hi: 1 << 63}, api.Wide{Hi: 1<<63 - 1, Lo: most64}, api.Wide{Hi: most64, Lo: most64}, api.OK},
		{api.Wide{Hi: most64, Lo: most64 - 1}, api.Wide{Lo: 1}, api.Wide{Hi: most64, Lo: most64}, api.OK},
		{api.Wide{Hi: most64, Lo: most64}, api.Wide{}, api.Wide{Hi: most64, Lo: most64}, api.OK},
		{api.Wide{Hi: most64, Lo: most64}, api.Wide{Lo: 1}, api.Wide{}, api.ErrRange},
		{api.Wide{Hi: 1 << 63}, api.Wide{Hi: 1 << 63}, api.Wide{}, api.ErrRange},
		{api.Wide{Hi: 1 << 63, Lo: 7}, api.Wide{Hi: 1 << 63, Lo: 8}, api.Wide{}, api.ErrRange},
		{api.Wide{Hi: 1 << 63, Lo: 1 << 63}, api.Wide{Hi: 1<<63 - 1, Lo: 1 << 63}, api.Wide{}, api.ErrRange},
		{api.Wide{Hi: most64}, api.Wide{Hi: 1}, api.Wide{}, api.ErrRange},
		{api.Wide{Hi: most64, Lo: most64}, api.Wide{Hi: most64, Lo: most64}, api.Wide{}, api.ErrRange},
	} {
		for _, l := range [][2]api.Wide{{c.a, c.b}, {c.b, c.a}} {
			if a, no := wide.Add(l[0], l[1]); a != c.want || no != c.no {
				t.Errorf("Add(%v, %v): %v, %d; want %v, %d", l[0], l[1], a, no, c.want, c.no)
			}
		}
	}
}

// P3.2: differences that borrow, of 0, and one below.
func TestSubOfKnownNumbers(t *testing.T) {
	for _, c := range []struct {
		a, b, want api.Wide
		no         api.Errno
	}{
		{api.Wide{}, api.Wide{}, api.Wide{}, api.OK},
		{api.Wide{Hi: 31, Lo: 42}, api.Wide{Hi: 1, Lo: 2}, api.Wide{Hi: 30, Lo: 40}, api.OK},
		{api.Wide{Hi: 1}, api.Wide{Lo: 1}, api.Wide{Lo: most64}, api.OK},
		{api.Wide{Hi: 1}, api.Wide{Lo: most64}, api.Wide{Lo: 1}, api.OK},
		{api.Wide{Hi: 12, Lo: 1}, api.Wide{Hi: 6, Lo: 2}, api.Wide{Hi: 5, Lo: most64}, api.OK},
		{api.Wide{Hi: 7, Lo: 7}, api.Wide{Hi: 7, Lo: 7}, api.Wide{}, api.OK},
		{api.Wide{Hi: 7, Lo: 7}, api.Wide{Hi: 7, Lo: 6}, api.Wide{Lo: 1}, api.OK},
		{api.Wide{Hi: most64, Lo: most64}, api.Wide{Hi: most64, Lo: most64}, api.Wide{}, api.OK},
		{api.Wide{Hi: most64, Lo: most64}, api.Wide{}, api.Wide{Hi: most64, Lo: most64}, api.OK},
		{api.Wide{}, api.Wide{Lo: 1}, api.Wide{}, api.ErrRange},
		{api.Wide{Hi: 7, Lo: 7}, api.Wide{Hi: 7, Lo: 8}, api.Wide{}, api.ErrRange},
		{api.Wide{Hi: 7, Lo: 7}, api.Wide{Hi: 8}, api.Wide{}, api.ErrRange},
		{api.Wide{Hi: 7, Lo: 7}, api.Wide{Hi: 8, Lo: 7}, api.Wide{}, api.ErrRange},
		{api.Wide{Lo: most64}, api.Wide{Hi: 1}, api.Wide{}, api.ErrRange},
		{api.Wide{}, api.Wide{Hi: most64, Lo: most64}, api.Wide{}, api.ErrRange},
	} {
		if a, no := wide.Sub(c.a, c.b); a != c.want || no != c.no {
			t.Errorf("Sub(%v, %v): %v, %d; want %v, %d", c.a, c.b, a, no, c.want, c.no)
		}
	}
}

// P3.2: all sums and differences of two edges.
func TestAddAndSub(t *testing.T) {
	for _, a := range wides() {
		for _, b := range wides() {
			is(t, asked("Add", a, b), new(big.Int).Add(whole(a), whole(b)))(wide.Add(a, b))
			is(t, asked("Sub", a, b), new(big.Int).Sub(whole(a), whole(b)))(wide.Sub(a, b))
		}
	}
}

// P3.3: of 0 nothing is had, whatever is divided, and ahead of ErrRange.
func TestDividedByZero(t *testing.T) {
	for _, a := range wides() {
		if q, rest, no := wide.Div(a, 0); q != (api.Wide{}) || rest != 0 || no != api.ErrZero {
			t.Errorf("Div(%v, 0): %v, %d, %d; want ErrZero", a, q, rest, no)
		}
		for _, m := range numbers() {
			refused(t, asked("Scale", a, m, 0), api.ErrZero)(wide.Scale(a, m, 0))
		}
	}
	for _, a := range numbers() {
		for _, b := range numbers() {
			for _, up := range []bool{false, true} {
				if n, no := wide.MulDiv(a, b, 0, up); n != 0 || no != api.ErrZero {
					t.Errorf("MulDiv(%d, %d, 0, %v): %d, %d; want ErrZero", a, b, up, n, no)
				}
			}
		}
	}
}

// P3.3: Hi below d, the same as d, above it; d of 1 and of 2^64 - 1.
func TestDivOfKnownNumbers(t *testing.T) {
	for _, c := range []struct {
		a    api.Wide
		d    uint64
		q    api.Wide
		rest uint64
	}{
		{api.Wide{}, 1, api.Wide{}, 0},
		{api.Wide{}, most64, api.Wide{}, 0},
		{api.Wide{Lo: 17}, 5, api.Wide{Lo: 3}, 2},
		{api.Wide{Lo: 4}, 5, api.Wide{}, 4},
		{api.Wide{Hi: 8, Lo: 9}, 1, api.Wide{Hi: 8, Lo: 9}, 0},
		{api.Wide{Hi: 4}, 5, api.Wide{Lo: 14757395258967641292}, 4},
		{api.Wide{Hi: 5}, 5, api.Wide{Hi: 1}, 0},
		{api.Wide{Hi: 5, Lo: 4}, 5, api.Wide{Hi: 1}, 4},
		{api.Wide{Hi: 6}, 5, api.Wide{Hi: 1, Lo: 3689348814741910323}, 1},
		{api.Wide{Hi: 3, Lo: 5}, 1 << 32, api.Wide{Lo: 3 << 32}, 5},
		{api.Wide{Hi: 3, Lo: 5}, 1 << 63, api.Wide{Lo: 6}, 5},
		{api.Wide{Hi: most64, Lo: most64}, 1, api.Wide{Hi: most64, Lo: most64}, 0},
		{api.Wide{Hi: most64, Lo: most64}, most64, api.Wide{Hi: 1, Lo: 1}, 0},
		{api.Wide{Hi: most64 - 1, Lo: most64}, most64, api.Wide{Lo: most64}, most64 - 1},
		{api.Wide{Hi: most64, Lo: most64 - 1}, most64, api.Wide{Hi: 1}, most64 - 1},
	} {
		if q, rest, no := wide.Div(c.a, c.d); q != c.q || rest != c.rest || no != api.OK {
			t.Errorf("Div(%v, %d): %v, %d, %d; want %v, %d", c.a, c.d, q, rest, no, c.q, c.rest)
		}
	}
}

// P3.3: all quotients of two edges.
func TestDiv(t *testing.T) {
	for _, a := range wides() {
		for _, d := range numbers()[1:] {
			want, left := new(big.Int).QuoRem(whole(a), of64(d), new(big.Int))
			q, rest, no := wide.Div(a, d)
			is(t, asked("Div", a, d), want)(q, no)
			if of64(rest).Cmp(left) != 0 {
				t.Errorf("Div(%v, %d): %d left; want %v", a, d, rest, left)
			}
		}
	}
}

// P3.3: Scale, exact and not, up to 2^128 - 1, where what is in between has more than 128 bits.
func TestScaleOfKnownNumbers(t *testing.T) {
	all := api.Wide{Hi: most64, Lo: most64}
	for _, c := range []struct {
		a    api.Wide
		m, d uint64
		want api.Wide
	}{
		{api.Wide{}, most64, 1, api.Wide{}},
		{all, 0, 7, api.Wide{}},
		{api.Wide{Lo: 1}, 1, most64, api.Wide{Lo: 1}},
		{api.Wide{Lo: 6}, 4, 3, api.Wide{Lo: 8}},
		{api.Wide{Lo: 7}, 4, 3, api.Wide{Lo: 10}},
		{api.Wide{Lo: 8}, 4, 3, api.Wide{Lo: 11}},
		{api.Wide{Hi: 1}, 1, 10, api.Wide{Lo: 1844674407370955162}},
		{api.Wide{Hi: 1, Lo: most64}, 1, 2, api.Wide{Hi: 1}},
		{api.Wide{Lo: most64}, 2, 1, api.Wide{Hi: 1, Lo: most64 - 1}},
		{api.Wide{Hi: 1<<63 - 1, Lo: most64}, 2, 1, api.Wide{Hi: most64, Lo: most64 - 1}},
		{all, 1, 1, all},
		{all, 2, 2, all},
		{all, most64, most64, all},
		{all, 1, most64, api.Wide{Hi: 1, Lo: 1}},
		{api.Wide{Hi: most64 - 1, Lo: most64 - 1}, most64, most64 - 1, all},
		{api.Wide{Hi: 12297829382473034410, Lo: 12297829382473034410}, 3, 2, all},
		{api.Wide{Hi: 12912720851596686131, Lo: 3689348814741910322}, 10, 7, all}, // 2^128 - 2, and 2 left
	} {
		if a, no := wide.Scale(c.a, c.m, c.d); no != api.OK || a != c.want {
			t.Errorf("Scale(%v, %d, %d): %v, %d; want %v", c.a, c.m, c.d, a, no, c.want)
		}
	}
}

// P3.3: Scale of 2^128 and more, also where it is so just for what is left of 2^128 - 1.
func TestScaleOutOfRange(t *testing.T) {
	all := api.Wide{Hi: most64, Lo: most64}
	for _, c := range []struct {
		a    api.Wide
		m, d uint64
	}{
		{all, most64, 1},
		{all, 2, 1},
		{all, most64, most64 - 1},
		{api.Wide{Hi: 1 << 63}, 2, 1},
		{api.Wide{Hi: 1 << 63}, 4, 2},
		{api.Wide{Hi: 1 << 63, Lo: 1}, 2, 1},
		{api.Wide{Hi: 12297829382473034410, Lo: 12297829382473034411}, 3, 2},
		{api.Wide{Hi: 12912720851596686131, Lo: 3689348814741910323}, 10, 7}, // 2^128 - 1, and 5 left
		{api.Wide{Hi: 10540996613548315209, Lo: 2635249153387078802}, 7, 4},  // 2^128 - 1, and 2 left
	} {
		refused(t, asked("Scale", c.a, c.m, c.d), api.ErrRange)(wide.Scale(c.a, c.m, c.d))
	}
}

// P3.3: all of three edges.
func TestScale(t *testing.T) {
	for _, a := range wides() {
		for _, m := range numbers() {
			for _, d := range numbers()[1:] {
				want := over(product(whole(a), of64(m)), of64(d), true)
				is(t, asked("Scale", a, m, d), want)(wide.Scale(a, m, d))
			}
		}
	}
}

// P3.3: MulDiv, down and up, exact and not, at 2^64 - 1 and one above.
func TestMulDivOfKnownNumbers(t *testing.T) {
	for _, c := range []struct {
		a, b, d  uint64
		down, up uint64
	}{
		{0, most64, 1, 0, 0},
		{most64, 0, most64, 0, 0},
		{1, 1, most64, 0, 1},
		{6, 4, 3, 8, 8},
		{7, 4, 3, 9, 10},
		{8, 4, 3, 10, 11},
		{1 << 32, 1<<32 - 1, 1, 1<<64 - 1<<32, 1<<64 - 1<<32},
		{1 << 63, 1 << 63, 1 << 63, 1 << 63, 1 << 63},
		{most64, most64, most64, most64, most64},
		{most64, 1, 1, most64, most64},
		{most64, 3, 3, most64, most64},
		{most64 - 1, most64, most64, most64 - 1, most64 - 1},
		{most64 - 1, most64 - 1, most64, most64 - 2, most64 - 1},
		{1<<63 + 1, most64 - 2, 1 << 63, most64 - 1, most64}, // 2^63 - 3 left
		{12297829382473034410, 3, 2, most64, most64},
		{12912720851596686130, 10, 7, most64 - 1, most64}, // 2 left
	} {
		is64(t, asked("MulDiv", c.a, c.b, c.d, false), of64(c.down))(wide.MulDiv(c.a, c.b, c.d, false))
		is64(t, asked("MulDiv", c.b, c.a, c.d, false), of64(c.down))(wide.MulDiv(c.b, c.a, c.d, false))
		is64(t, asked("MulDiv", c.a, c.b, c.d, true), of64(c.up))(wide.MulDiv(c.a, c.b, c.d, true))
		is64(t, asked("MulDiv", c.b, c.a, c.d, true), of64(c.up))(wide.MulDiv(c.b, c.a, c.d, true))
	}
}

// P3.3: MulDiv of 2^64 and more, also where it is so just for what is left of 2^64 - 1.
func TestMulDivOutOfRange(t *testing.T) {
	tooMuch := new(big.Int).Lsh(of64(1), 64)
	for _, c := range [][3]uint64{
		{1 << 63, 2, 1}, {1 << 32, 1 << 32, 1}, {most64, most64, 1}, {most64, most64, most64 - 1}, {most64, 2, 1}, {most64, 9, 8},
		{1 << 63, 4, 2}, {12297829382473034411, 3, 2},
	} {
		is64(t, asked("MulDiv", c, false), tooMuch)(wide.MulDiv(c[0], c[1], c[2], false))
		is64(t, asked("MulDiv", c, true), tooMuch)(wide.MulDiv(c[0], c[1], c[2], true))
	}
	for _, c := range [][3]uint64{{12912720851596686131, 10, 7}, {10540996613548315209, 7, 4}, {most64 - 1, 1<<63 + 1, 1 << 63}} {
		is64(t, asked("MulDiv", c, false), of64(most64))(wide.MulDiv(c[0], c[1], c[2], false))
		is64(t, asked("MulDiv", c, true), tooMuch)(wide.MulDiv(c[0], c[1], c[2], true))
	}
}

// P3.3: all of three edges.
func TestMulDiv(t *testing.T) {
	for _, a := range numbers() {
		for _, b := range numbers() {
			for _, d := range numbers()[1:] {
				for _, up := range []bool{false, true} {
					want := over(product(of64(a), of64(b)), of64(d), up)
					is64(t, asked("MulDiv", a, b, d, up), want)(wide.MulDiv(a, b, d, up))
				}
			}
		}
	}
}

// P3.4: the digits, without noughts ahead, those between and behind them told.
func TestText(t *testing.T) {
	for _, c := range []struct {
		a    api.Wide
		want string
	}{
		{api.Wide{}, "0"},
		{api.Wide{Lo: 7}, "7"},
		{api.Wide{Lo: 10}, "10"},
		{api.Wide{Lo: 1000000000}, "1000000000"},
		{api.Wide{Lo: 4294967296}, "4294967296"},
		{api.Wide{Lo: most64}, "18446744073709551615"},
		{api.Wide{Hi: 1}, "18446744073709551616"},
		{api.Wide{Hi: 1, Lo: 1}, "18446744073709551617"},
		{api.Wide{Hi: 1 << 32}, "79228162514264337593543950336"},
		{api.Wide{Hi: most64, Lo: most64}, most},
	} {
		if s := wide.Text(c.a); s != c.want {
			t.Errorf("Text(%v): %q; want %q", c.a, s, c.want)
		}
	}
	for _, a := range wides() {
		if s := wide.Text(a); s != whole(a).String() {
			t.Errorf("Text(%v): %q; want %v", a, s, whole(a))
		}
	}
}

// P3.4: all powers of ten, and their neighbours, told and read: each number of digits, from 1 to 39.
func TestEachNumberOfDigits(t *testing.T) {
	for n := range 39 {
		noughts, nines := "1"+strings.Repeat("0", n), strings.Repeat("9", n+1)
		for _, s := range []string{noughts, noughts[:n] + "1", nines[:n], nines} {
			if s == "" {
				continue
			}
			want, _ := new(big.Int).SetString(s, 10)
			is(t, asked("Parse", strconv.Quote(s)), want)(wide.Parse(s))
			if a, no := wide.Parse(s); no == api.OK && wide.Text(a) != s {
				t.Errorf("Text of Parse(%q): %q", s, wide.Text(a))
			}
		}
	}
}

// P3.4: numbers that are read, the greatest one too, and those that are too great though of 39 digits.
func TestParse(t *testing.T) {
	for _, c := range []struct {
		s    string
		want api.Wide
	}{
		{"0", api.Wide{}},
		{"1", api.Wide{Lo: 1}},
		{"9", api.Wide{Lo: 9}},
		{"10", api.Wide{Lo: 10}},
		{"1234567890", api.Wide{Lo: 1234567890}},
		{"18446744073709551615", api.Wide{Lo: most64}},
		{"18446744073709551616", api.Wide{Hi: 1}},
		{most, api.Wide{Hi: most64, Lo: most64}},
	} {
		if a, no := wide.Parse(c.s); a != c.want || no != api.OK {
			t.Errorf("Parse(%q): %v, %d; want %v", c.s, a, no, c.want)
		}
	}
	for _, s := range []string{
		tooGreat, most[:38] + "9", most[:37] + "60", "340282366920938463463374607431768211460",
		"350000000000000000000000000000000000000", "4" + most[1:], strings.Repeat("9", 39),
	} {
		refused(t, asked("Parse", strconv.Quote(s)), api.ErrRange)(wide.Parse(s))
	}
}

// P3.4: noughts ahead, nothing, signs, other bytes, digits of other alphabets, bytes that are no text.
func TestParseRefusesWhatIsNoNumber(t *testing.T) {
	for _, s := range []string{
		"", "00", "01", "007", "0" + most[1:], strings.Repeat("0", 39), "-0", "+0", "-1", "+1", "-", "+", " ", " 1", "1 ",
		"1 2", "1_000", "1,000", "1.0", ".", "1e3", "0x10", "0b1", "a", "1a", "a1", "1\n", "\x00", "1\x00", "/", ":", "1/", "1:", "0/", "0:",
		"\x80", "1\xff", "\xff1", "٣", "1٣", "１", "²", "½", "1\u00a0", "\ufffd",
		most[:38] + "x", "x" + most[1:], most[:38] + "-", most[:19] + " " + most[20:], strings.Repeat("x", 39), "9" + strings.Repeat("é", 19),
	} {
		refused(t, asked("Parse", strconv.Quote(s)), api.ErrArg)(wide.Parse(s))
	}
}

// P3.4: of one byte, of two: just the numbers of one digit, and of two without a nought ahead, are read.
func TestParseOfAllShortTexts(t *testing.T) {
	numbers := map[string]int64{}
	for n := range int64(100) {
		numbers[strconv.FormatInt(n, 10)] = n
	}
	for i := range 256 {
		for j := range 257 {
			s := string([]byte{byte(i), byte(j)})
			if j == 256 {
				s = s[:1]
			}
			if n, there := numbers[s]; there {
				is(t, asked("Parse", strconv.Quote(s)), big.NewInt(n))(wide.Parse(s))
			} else {
				refused(t, asked("Parse", strconv.Quote(s)), api.ErrArg)(wide.Parse(s))
			}
		}
	}
}

// P3.4, R2: more than 39 bytes are too long, ahead of all else that is wrong with them.
func TestParseRefusesWhatIsTooLong(t *testing.T) {
	for _, s := range []string{
		most + "0", "1" + strings.Repeat("0", 39), strings.Repeat("9", 40), strings.Repeat("0", 40), "0" + most, strings.Repeat("7", 1000),
		"-" + most, "+" + most, " " + most, most + "\n", most[:38] + "xy", strings.Repeat("x", 40), "1" + strings.Repeat(" ", 39),
		strings.Repeat("\xff", 40), strings.Repeat("é", 20), strings.Repeat("٣", 39), "0x" + strings.Repeat("f", 38), strings.Repeat("\x00", 4000),
	} {
		refused(t, asked("Parse", strconv.Quote(s)), api.ErrLong)(wide.Parse(s))
	}
}

// P3.5: the quotient times d, and the rest, is the number; the rest is below d.
func TestDivLeadsBack(t *testing.T) {
	for _, a := range wides() {
		for _, d := range numbers()[1:] {
			q, rest, _ := wide.Div(a, d)
			if rest >= d {
				t.Errorf("Div(%v, %d): %d left", a, d, rest)
			}
			times, no := wide.Scale(q, d, 1)
			if no != api.OK {
				t.Errorf("Scale(%v, %d, 1): %d", q, d, no)
			}
			is(t, asked("Div led back", a, d), whole(a))(wide.Add(times, wide.Of(rest)))
		}
	}
}

// P3.5: what is added is taken away again.
func TestAddLeadsBack(t *testing.T) {
	for _, a := range wides() {
		for _, b := range wides() {
			if sum, no := wide.Add(a, b); no == api.OK {
				is(t, asked("Sub of Add", a, b), whole(a))(wide.Sub(sum, b))
				is(t, asked("Sub of Add", b, a), whole(b))(wide.Sub(sum, a))
			}
			if less, no := wide.Sub(a, b); no == api.OK {
				is(t, asked("Add of Sub", a, b), whole(a))(wide.Add(less, b))
			}
		}
	}
}

// P3.5: scaled up by m over d, and by d over m, it is no less.
func TestScaleLeadsBack(t *testing.T) {
	for _, a := range wides() {
		for _, m := range numbers()[1:] {
			for _, d := range numbers()[1:] {
				there, no := wide.Scale(a, m, d)
				if no != api.OK {
					continue
				}
				if back, no := wide.Scale(there, d, m); no == api.OK && wide.Compare(back, a) < 0 {
					t.Errorf("Scale(%v, %d, %d), and back: %v", a, m, d, back)
				}
			}
		}
	}
}

// P3.5: Compare is one order.
func TestCompareIsOneOrder(t *testing.T) {
	for _, a := range fewWides() {
		for _, b := range fewWides() {
			ab := wide.Compare(a, b)
			if ab != -wide.Compare(b, a) || (ab == 0) != (a == b) {
				t.Errorf("Compare(%v, %v): %d; the other way round %d", a, b, ab, wide.Compare(b, a))
			}
			for _, c := range fewWides() {
				if ab <= 0 && wide.Compare(b, c) <= 0 && wide.Compare(a, c) > 0 {
					t.Errorf("Compare: %v, %v, %v stand in no order", a, b, c)
				}
			}
		}
	}
}

// P3.5: sums keep the order.
func TestSumsKeepTheOrder(t *testing.T) {
	for _, a := range fewWides() {
		for _, b := range fewWides() {
			for _, c := range fewWides() {
				one, no := wide.Add(a, c)
				other, otherNo := wide.Add(b, c)
				if no == api.OK && otherNo == api.OK && wide.Compare(one, other) != wide.Compare(a, b) {
					t.Errorf("%v more: Compare(%v, %v) is %d", c, a, b, wide.Compare(one, other))
				}
			}
		}
	}
}

// P3.5: Parse of Text is the number.
func TestTextLeadsBack(t *testing.T) {
	for _, a := range wides() {
		is(t, asked("Parse of Text", a), whole(a))(wide.Parse(wide.Text(a)))
	}
}

// P3.1 to P3.5: numbers of all lengths, none of them an edge, told by a short rule.
func TestManyNumbers(t *testing.T) {
	x := uint64(1)
	next := func(round int) uint64 {
		x = x*6364136223846793005 + 1442695040888963407
		return (x ^ x>>29) >> (round % 64)
	}
	for round := range 4000 {
		a := api.Wide{Hi: next(round * 7), Lo: next(round * 3)}
		b := api.Wide{Hi: next(round * 5), Lo: next(round * 11)}
		m, d := next(round*13), next(round*17)|1
		is(t, asked("Add", a, b), new(big.Int).Add(whole(a), whole(b)))(wide.Add(a, b))
		is(t, asked("Sub", a, b), new(big.Int).Sub(whole(a), whole(b)))(wide.Sub(a, b))
		is(t, asked("Mul", m, d), product(of64(m), of64(d)))(wide.Mul(m, d), api.OK)
		is(t, asked("Scale", a, m, d), over(product(whole(a), of64(m)), of64(d), true))(wide.Scale(a, m, d))
		up := round%2 == 0
		is64(t, asked("MulDiv", a.Lo, m, d, up), over(product(of64(a.Lo), of64(m)), of64(d), up))(wide.MulDiv(a.Lo, m, d, up))
		want, left := new(big.Int).QuoRem(whole(a), of64(d), new(big.Int))
		q, rest, no := wide.Div(a, d)
		is(t, asked("Div", a, d), want)(q, no)
		if of64(rest).Cmp(left) != 0 {
			t.Errorf("Div(%v, %d): %d left; want %v", a, d, rest, left)
		}
		if n := wide.Compare(a, b); n != whole(a).Cmp(whole(b)) {
			t.Errorf("Compare(%v, %v): %d", a, b, n)
		}
		if s := wide.Text(a); s != whole(a).String() {
			t.Errorf("Text(%v): %q", a, s)
		}
		is(t, asked("Parse of Text", a), whole(a))(wide.Parse(wide.Text(a)))
	}
}

// The chapter's examples.
func TestExamples(t *testing.T) {
	if a := wide.Mul(1<<63, 4); a != (api.Wide{Hi: 2}) {
		t.Errorf("Mul(2^63, 4): %v", a)
	}
	refused(t, "Add", api.ErrRange)(wide.Add(api.Wide{Hi: most64, Lo: most64}, wide.Of(1)))
	refused(t, "Sub(0, 1)", api.ErrRange)(wide.Sub(wide.Of(0), wide.Of(1)))
	if q, rest, no := wide.Div(api.Wide{Hi: 1}, 10); q != wide.Of(1844674407370955161) || rest != 6 || no != api.OK {
		t.Errorf("Div(2^64, 10): %v, %d, %d", q, rest, no)
	}
	is64(t, "MulDiv(7, 3, 2, false)", big.NewInt(10))(wide.MulDiv(7, 3, 2, false))
	is64(t, "MulDiv(7, 3, 2, true)", big.NewInt(11))(wide.MulDiv(7, 3, 2, true))
	if n, no := wide.MulDiv(1<<63, 2, 1, false); n != 0 || no != api.ErrRange {
		t.Errorf("MulDiv(2^63, 2, 1, false): %d, %d", n, no)
	}
	if s := wide.Text(api.Wide{Hi: 1}); s != "18446744073709551616" {
		t.Errorf("Text(2^64): %q", s)
	}
	refused(t, "Parse(00)", api.ErrArg)(wide.Parse("00"))
	is(t, "Parse(2^64)", whole(api.Wide{Hi: 1}))(wide.Parse("18446744073709551616"))
}
