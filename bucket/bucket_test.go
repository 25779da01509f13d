package bucket_test

import (
	"fmt"
	"math"
	"math/big"
	"testing"

	"mainsheet/api"
	"mainsheet/bucket"
)

// The limits, as the document says them.
const (
	maxCap  = 800
	maxEach = 8
	maxGap  = 10000000
	maxTime = 1 << 50
	maxDebt = 100 * maxEach * maxGap
	period  = 100000000
)

// of is a bucket.
func of(percent int, tokens int64) api.Bucket {
	return api.Bucket{Cap: percent, Tokens: tokens}
}

// full is a bucket of as many tokens as there is room for.
func full(percent int) api.Bucket {
	return of(percent, int64(percent)*period)
}

// whole is n without bounds.
func whole(n int64) *big.Int {
	return big.NewInt(n)
}

// product is that of all of these, without bounds.
func product(l ...int64) *big.Int {
	p := whole(1)
	for _, n := range l {
		p.Mul(p, whole(n))
	}
	return p
}

// sum is that of all of these, without bounds.
func sum(l ...*big.Int) *big.Int {
	s := whole(0)
	for _, n := range l {
		s.Add(s, n)
	}
	return s
}

// mayBe tells whether b may be, as the chapter says it.
func mayBe(b api.Bucket) bool {
	switch {
	case b.Cap < 0 || b.Cap > maxCap:
		return false
	case b.Cap == 0:
		return b.Tokens == 0
	}
	return b.Tokens >= -maxDebt && whole(b.Tokens).Cmp(product(int64(b.Cap), period)) <= 0
}

// isDry tells whether b is dry, as the chapter says it.
func isDry(b api.Bucket) bool {
	return mayBe(b) && b.Cap > 0 && b.Tokens <= 0
}

// isPercent tells whether a cap may be such a one, or none.
func isPercent(percent int) bool {
	return percent >= 0 && percent <= maxCap
}

// passed is what Pass makes of b, or its error, told another way.
func passed(b api.Bucket, dt int64, n int) (api.Bucket, api.Errno) {
	switch {
	case !mayBe(b):
		return api.Bucket{}, api.ErrBucket
	case dt < 0 || dt > maxGap || n < 0 || n > maxEach:
		return api.Bucket{}, api.ErrArg
	case isDry(b) && n > 0 && dt > 0:
		return api.Bucket{}, api.ErrDry
	case b.Cap == 0:
		return b, api.OK
	}
	t := sum(whole(b.Tokens), product(int64(b.Cap), dt), product(-100, int64(n), dt))
	if most := product(int64(b.Cap), period); t.Cmp(most) > 0 {
		t = most
	}
	return of(b.Cap, t.Int64()), api.OK
}

// changed is what Change makes of b, or its error, told another way.
func changed(b api.Bucket, percent int) (api.Bucket, api.Errno) {
	switch {
	case !mayBe(b):
		return api.Bucket{}, api.ErrBucket
	case !isPercent(percent):
		return api.Bucket{}, api.ErrArg
	case percent == 0:
		return api.Bucket{}, api.OK
	case b.Cap == 0 || b.Tokens > full(percent).Tokens:
		return full(percent), api.OK
	}
	return of(percent, b.Tokens), api.OK
}

// chance tells numbers below n by a short rule, the same whenever it is asked anew.
func chance() func(n int) int {
	x := uint64(11)
	return func(n int) int {
		x = x*6364136223846793005 + 1442695040888963407
		return int(x >> 33 % uint64(n))
	}
}

// noPercents are some that no cap may have.
func noPercents() []int {
	return []int{-1, -2, -100, -800, -801, math.MinInt, math.MinInt + 1, math.MinInt32, 801, 802, 1600, 65535, 1 << 31, 1 << 32, 1<<32 + 1, 1<<32 + 50, 1 << 56, 1 << 62, math.MaxInt - 1, math.MaxInt}
}

// percents are edges of all that a cap may have, but none, and some between them.
func percents() []int {
	return []int{1, 2, 3, 7, 10, 50, 99, 100, 101, 300, 333, 799, 800}
}

// edges are the tokens around which a bucket of that cap changes what it does.
func edges(percent int) []int64 {
	most := full(percent).Tokens
	return []int64{-maxDebt, 1 - maxDebt, -maxDebt / 2, -int64(percent) - 1, -int64(percent), 1 - int64(percent), -9, -2, -1, 0, 1, 2, int64(percent), most / 2, most - 1, most}
}

// buckets are some that may be: those of edges, the one of no cap, and many others.
func buckets() []api.Bucket {
	l := []api.Bucket{{}}
	for _, percent := range percents() {
		for _, t := range edges(percent) {
			l = append(l, of(percent, t))
		}
	}
	next := chance()
	for range 200 {
		l = append(l, someBucket(next))
	}
	return l
}

// someBucket is one of a cap that may be.
func someBucket(next func(int) int) api.Bucket {
	percent := 1 + next(maxCap)
	switch next(4) {
	case 0:
		return of(percent, int64(next(5))-2)
	case 1:
		return of(percent, -int64(next(8))*period*10-int64(next(period)))
	}
	return of(percent, int64(next(percent))*period+int64(next(period)))
}

// noBuckets are some that may not be: each number one below the least, one above the greatest, far beyond, and where a product of it goes round.
func noBuckets() []api.Bucket {
	l := []api.Bucket{of(0, -1), of(0, 1), of(0, -maxDebt), of(0, period), of(0, math.MinInt64), of(0, math.MaxInt64)}
	for _, percent := range noPercents() {
		for _, t := range []int64{-maxDebt, -1, 0, 1, period, math.MinInt64, math.MaxInt64} {
			l = append(l, of(percent, t))
		}
	}
	for _, percent := range percents() {
		most := full(percent).Tokens
		for _, t := range []int64{-maxDebt - 1, -maxDebt - 2, -2 * maxDebt, math.MinInt64, math.MinInt64 + 1, most + 1, most + 2, 2*most + 1, math.MaxInt64 - 1, math.MaxInt64} {
			l = append(l, of(percent, t))
		}
	}
	return l
}

// noDts are spans that are passed by no Pass.
func noDts() []int64 {
	return []int64{-1, -2, -maxGap, math.MinInt64, math.MinInt64 + 1, maxGap + 1, maxGap + 2, 1 << 32, maxTime, 1 << 62, math.MaxInt64}
}

// noCounts are those of more virtual CPUs, or fewer, than a domain may have.
func noCounts() []int {
	return []int{-1, -2, -8, math.MinInt, math.MinInt + 1, 9, 10, 16, 256, 1 << 32, 1<<32 + 1, 1 << 62, math.MaxInt}
}

// dts are edges of all that may be passed, and some between them.
func dts() []int64 {
	return []int64{0, 1, 2, 3, 5, 100, 101, 999, 1000000, 5000001, maxGap - 1, maxGap}
}

// what names a call and its arguments.
func what(name string, args ...any) string {
	return fmt.Sprintf("%s%v", name, args)
}

// is asks for one bucket, or one error.
func is(t *testing.T, where string, want api.Bucket, wantNo api.Errno) func(api.Bucket, api.Errno) {
	return func(b api.Bucket, no api.Errno) {
		t.Helper()
		if b != want || no != wantNo {
			t.Errorf("%s: %v, %d; want %v, %d", where, b, no, want, wantNo)
		}
	}
}

// tells asks for one number, or one error.
func tells(t *testing.T, where string, want int64, wantNo api.Errno) func(int64, api.Errno) {
	return func(n int64, no api.Errno) {
		t.Helper()
		if n != want || no != wantNo {
			t.Errorf("%s: %d, %d; want %d, %d", where, n, no, want, wantNo)
		}
	}
}

// The constants of package api are what the tests reckon with.
func TestLimits(t *testing.T) {
	if api.MaxCap != maxCap || api.MaxEach != maxEach || api.MaxGap != maxGap || api.MaxTime != maxTime || api.MaxDebt != maxDebt || api.Period != period {
		t.Error("the limits are not those of the tests")
	}
	if api.ErrBucket != 210 || api.ErrDry != 211 {
		t.Error("the errors are not those of the chapter")
	}
}

// The chapter's examples.
func TestExamples(t *testing.T) {
	half, no := bucket.New(50)
	is(t, "New(50)", of(50, 5000000000), api.OK)(half, no)
	is(t, "Pass(that, 10000000, 1)", of(50, 4500000000), api.OK)(bucket.Pass(half, 10000000, 1))
	if !bucket.Dry(of(1, 0)) {
		t.Error("Dry(Cap 1, Tokens 0): false")
	}
	tells(t, "Wait(Cap 1, Tokens -9)", 10, api.OK)(bucket.Wait(of(1, -9)))
	is(t, "Pass(Cap 1, Tokens 0; 5, 1)", api.Bucket{}, api.ErrDry)(bucket.Pass(of(1, 0), 5, 1))
	is(t, "Pass(Cap 1, Tokens 0; 5, 0)", of(1, 5), api.OK)(bucket.Pass(of(1, 0), 5, 0))
	is(t, "Change(Cap 50, full; 10)", of(10, 1000000000), api.OK)(bucket.Change(half, 10))
	is(t, "Change(Cap 0; 800)", of(800, 80000000000), api.OK)(bucket.Change(api.Bucket{}, 800))
	tells(t, "Bound(50, 100, 10, 1)", 5000006000, api.OK)(bucket.Bound(50, 100, 10, 1))
}

// P11.1: Cap and Tokens just at and just beyond their bounds, by hand.
func TestCheckAtEdges(t *testing.T) {
	for _, b := range []api.Bucket{
		{}, of(1, 0), of(1, -8000000000), of(1, 100000000), of(800, -8000000000), of(800, 0), of(800, 80000000000), of(50, 5000000000), of(50, -1),
	} {
		if no := bucket.Check(b); no != api.OK {
			t.Errorf("Check(%v): %d; want OK", b, no)
		}
	}
	for _, b := range []api.Bucket{
		of(-1, 0), of(-1, -1), of(-1, 1), of(801, 0), of(801, 1), of(0, -1), of(0, 1), of(1, -8000000001), of(1, 100000001), of(800, -8000000001), of(800, 80000000001), of(50, 5000000001),
	} {
		if no := bucket.Check(b); no != api.ErrBucket {
			t.Errorf("Check(%v): %d; want ErrBucket", b, no)
		}
	}
}

// P11.1: Check of all caps, and of some that are none, each with tokens around its bounds.
func TestCheck(t *testing.T) {
	caps := noPercents()
	for percent := -20; percent <= maxCap+20; percent++ {
		caps = append(caps, percent)
	}
	for _, percent := range caps {
		most := int64(percent) * period
		for _, tokens := range []int64{math.MinInt64, -maxDebt - 1, -maxDebt, 1 - maxDebt, -1, 0, 1, most - 1, most, most + 1, math.MaxInt64} {
			b, want := of(percent, tokens), api.ErrBucket
			if mayBe(b) {
				want = api.OK
			}
			if no := bucket.Check(b); no != want {
				t.Errorf("Check(%v): %d; want %d", b, no, want)
			}
		}
	}
	for _, b := range buckets() {
		if no := bucket.Check(b); no != api.OK {
			t.Errorf("Check(%v): %d; want OK", b, no)
		}
	}
	for _, b := range noBuckets() {
		if no := bucket.Check(b); no != api.ErrBucket {
			t.Errorf("Check(%v): %d; want ErrBucket", b, no)
		}
	}
}

// P11.1: New of each cap is full, of no cap empty; of what is none refused.
func TestNew(t *testing.T) {
	for percent := range maxCap + 1 {
		is(t, what("New", percent), full(percent), api.OK)(bucket.New(percent))
	}
	is(t, "New(0)", of(0, 0), api.OK)(bucket.New(0))
	is(t, "New(1)", of(1, 100000000), api.OK)(bucket.New(1))
	is(t, "New(800)", of(800, 80000000000), api.OK)(bucket.New(800))
	for _, percent := range noPercents() {
		is(t, what("New", percent), api.Bucket{}, api.ErrArg)(bucket.New(percent))
	}
}

// P11.1: Depth hangs on Cap alone; 0 of no cap, and of what may not be.
func TestDepth(t *testing.T) {
	for percent := range maxCap + 1 {
		for _, tokens := range []int64{-maxDebt, 0, int64(percent) * period} {
			b, want := of(percent, tokens), int64(percent)*period
			if percent == 0 {
				b = api.Bucket{}
			}
			if d := bucket.Depth(b); d != want {
				t.Errorf("Depth(%v): %d; want %d", b, d, want)
			}
		}
	}
	for b, want := range map[api.Bucket]int64{{}: 0, of(1, 0): 100000000, of(50, -9): 5000000000, of(800, 1): 80000000000} {
		if d := bucket.Depth(b); d != want {
			t.Errorf("Depth(%v): %d; want %d", b, d, want)
		}
	}
	for _, b := range noBuckets() {
		if d := bucket.Depth(b); d != 0 {
			t.Errorf("Depth(%v): %d; want 0", b, d)
		}
	}
}

// P11.1: Dry of Tokens around 0, with a cap and without, and of what may not be.
func TestDry(t *testing.T) {
	for percent := 1; percent <= maxCap; percent++ {
		for tokens, want := range map[int64]bool{-maxDebt: true, -2: true, -1: true, 0: true, 1: false, 2: false, period: false} {
			if dry := bucket.Dry(of(percent, tokens)); dry != want {
				t.Errorf("Dry(%v): %t; want %t", of(percent, tokens), dry, want)
			}
		}
	}
	if bucket.Dry(api.Bucket{}) {
		t.Error("Dry of no cap: true; want false")
	}
	for _, b := range noBuckets() {
		if bucket.Dry(b) {
			t.Errorf("Dry(%v): true; want false, for it may not be", b)
		}
	}
}

// P11.2: by hand: tokens that come to the depth, above it, below 0; dry with nobody and with no time; no cap.
func TestPass(t *testing.T) {
	for _, c := range []struct {
		b    api.Bucket
		dt   int64
		n    int
		want api.Bucket
	}{
		{of(50, 4999999950), 1, 0, of(50, 5000000000)}, // just the depth
		{of(50, 4999999951), 1, 0, of(50, 5000000000)}, // one above it
		{of(50, 4999999949), 1, 0, of(50, 4999999999)}, // one below it
		{full(50), maxGap, 0, full(50)},
		{full(100), maxGap, 1, full(100)}, // as much goes as comes
		{full(200), maxGap, 1, full(200)},
		{full(800), maxGap, 8, full(800)},
		{of(800, 79999999300), 1, 1, of(800, 80000000000)},
		{of(800, 79999999301), 1, 1, of(800, 80000000000)},
		{of(50, 1), maxGap, 8, of(50, 1-7500000000)},
		{of(1, 1), maxGap, 8, of(1, 1-8000000000+10000000)}, // the deepest there is
		{of(1, 99), 1, 1, of(1, 0)},
		{of(1, 98), 1, 1, of(1, -1)},
		{of(1, 100), 1, 1, of(1, 1)},
		{of(10, 1000), 7, 3, of(10, 1000+70-2100)},
		{of(50, 10), 0, 8, of(50, 10)},
		{of(50, 0), 0, 8, of(50, 0)}, // dry, but no time is passed
		{of(50, -7), 0, 1, of(50, -7)},
		{of(50, 0), 3, 0, of(50, 150)}, // dry, but nobody runs
		{of(50, -7), 1, 0, of(50, 43)},
		{of(1, -maxDebt), maxGap, 0, of(1, 10000000-maxDebt)},
		{of(800, -maxDebt), maxGap, 0, of(800, 0)},
		{of(800, 1), maxGap, 8, of(800, 1)},
		{of(1, -maxDebt), 0, 8, of(1, -maxDebt)},
		{api.Bucket{}, maxGap, 8, api.Bucket{}},
		{api.Bucket{}, maxGap, 0, api.Bucket{}},
		{api.Bucket{}, 1, 1, api.Bucket{}},
		{api.Bucket{}, 0, 0, api.Bucket{}},
	} {
		is(t, what("Pass", c.b, c.dt, c.n), c.want, api.OK)(bucket.Pass(c.b, c.dt, c.n))
	}
}

// P11.2: each error by itself, at its very edge, and nothing beside it.
func TestPassRefuses(t *testing.T) {
	good := of(50, 1000)
	for _, dt := range noDts() {
		is(t, what("Pass", good, dt, 1), api.Bucket{}, api.ErrArg)(bucket.Pass(good, dt, 1))
		is(t, what("Pass", good, dt, 0), api.Bucket{}, api.ErrArg)(bucket.Pass(good, dt, 0))
		is(t, what("Pass of no cap", dt, 1), api.Bucket{}, api.ErrArg)(bucket.Pass(api.Bucket{}, dt, 1))
	}
	for _, n := range noCounts() {
		is(t, what("Pass", good, 1, n), api.Bucket{}, api.ErrArg)(bucket.Pass(good, 1, n))
		is(t, what("Pass", good, 0, n), api.Bucket{}, api.ErrArg)(bucket.Pass(good, 0, n))
		is(t, what("Pass of no cap", 1, n), api.Bucket{}, api.ErrArg)(bucket.Pass(api.Bucket{}, 1, n))
	}
	for _, b := range []api.Bucket{of(50, 0), of(50, -1), of(1, -maxDebt), of(800, 0), of(800, -maxDebt)} {
		for _, dt := range []int64{1, 2, maxGap} {
			for n := 1; n <= maxEach; n++ {
				is(t, what("Pass", b, dt, n), api.Bucket{}, api.ErrDry)(bucket.Pass(b, dt, n))
			}
		}
	}
	for _, b := range noBuckets() {
		is(t, what("Pass", b, 0, 0), api.Bucket{}, api.ErrBucket)(bucket.Pass(b, 0, 0))
		is(t, what("Pass", b, 1, 0), api.Bucket{}, api.ErrBucket)(bucket.Pass(b, 1, 0))
		is(t, what("Pass", b, 1, 1), api.Bucket{}, api.ErrBucket)(bucket.Pass(b, 1, 1))
	}
}

// P11.2: ErrBucket ahead of ErrArg, that ahead of ErrDry.
func TestPassRefusesInOrder(t *testing.T) {
	for _, dt := range noDts() {
		for _, b := range noBuckets() {
			is(t, what("Pass", b, dt, 1), api.Bucket{}, api.ErrBucket)(bucket.Pass(b, dt, 1))
		}
		for _, n := range []int{1, 8, 9, -1} {
			is(t, what("Pass", of(50, 0), dt, n), api.Bucket{}, api.ErrArg)(bucket.Pass(of(50, 0), dt, n))
		}
	}
	for _, n := range noCounts() {
		for _, b := range noBuckets() {
			is(t, what("Pass", b, 1, n), api.Bucket{}, api.ErrBucket)(bucket.Pass(b, 1, n))
		}
		is(t, what("Pass", of(50, 0), 1, n), api.Bucket{}, api.ErrArg)(bucket.Pass(of(50, 0), 1, n))
		is(t, what("Pass", of(50, 0), maxGap, n), api.Bucket{}, api.ErrArg)(bucket.Pass(of(50, 0), maxGap, n))
	}
}

// P11.2: Pass of many buckets, spans and counts, held against another telling without bounds.
func TestPassAsTold(t *testing.T) {
	spans := append(dts(), noDts()...)
	for _, b := range append(buckets(), noBuckets()...) {
		for _, dt := range spans {
			for n := -1; n <= maxEach+1; n++ {
				want, no := passed(b, dt, n)
				is(t, what("Pass", b, dt, n), want, no)(bucket.Pass(b, dt, n))
			}
		}
	}
}

// P11.2: with as many running all the while, a time passes at once as it does nanosecond by nanosecond.
func TestPassBitByBit(t *testing.T) {
	for _, percent := range percents() {
		most := full(percent).Tokens
		for _, start := range []int64{1, 50, 99, 5000, most - 150, most - 1, most} {
			for n := range maxEach + 1 {
				tokens := start
				for dt := range int64(40) {
					is(t, what("Pass", of(percent, start), dt, n), of(percent, tokens), api.OK)(bucket.Pass(of(percent, start), dt, n))
					tokens = min(tokens+int64(percent-100*n), most)
				}
			}
		}
	}
}

// P11.3: by hand: from no cap and to none; to a lesser depth, to just as much, to a greater one; in debt.
func TestChange(t *testing.T) {
	for _, c := range []struct {
		b       api.Bucket
		percent int
		want    api.Bucket
	}{
		{api.Bucket{}, 0, api.Bucket{}},
		{api.Bucket{}, 1, of(1, 100000000)},
		{api.Bucket{}, 50, of(50, 5000000000)},
		{api.Bucket{}, 800, of(800, 80000000000)},
		{of(50, 5000000000), 0, api.Bucket{}},
		{of(50, 1), 0, api.Bucket{}},
		{of(50, 0), 0, api.Bucket{}},
		{of(50, -1), 0, api.Bucket{}},
		{of(800, -maxDebt), 0, api.Bucket{}},
		{of(50, 1000000001), 10, of(10, 1000000000)},
		{of(50, 1000000000), 10, of(10, 1000000000)},
		{of(50, 999999999), 10, of(10, 999999999)},
		{of(50, 5000000000), 51, of(51, 5000000000)}, // what is not there is not made up for
		{of(50, 5000000000), 50, of(50, 5000000000)},
		{of(50, 5000000000), 800, of(800, 5000000000)},
		{of(50, 7), 50, of(50, 7)},
		{of(50, 0), 800, of(800, 0)},
		{of(50, 0), 1, of(1, 0)},
		{of(50, -3), 1, of(1, -3)},
		{of(50, -3), 800, of(800, -3)},
		{of(800, -maxDebt), 1, of(1, -maxDebt)},
		{of(1, -maxDebt), 800, of(800, -maxDebt)},
		{of(800, 80000000000), 1, of(1, 100000000)},
		{of(800, 80000000000), 799, of(799, 79900000000)},
	} {
		is(t, what("Change", c.b, c.percent), c.want, api.OK)(bucket.Change(c.b, c.percent))
	}
}

// P11.3: ErrArg of a percent that is none, from whatever cap; ErrBucket ahead of it.
func TestChangeRefuses(t *testing.T) {
	for _, percent := range noPercents() {
		for _, b := range buckets() {
			is(t, what("Change", b, percent), api.Bucket{}, api.ErrArg)(bucket.Change(b, percent))
		}
		for _, b := range noBuckets() {
			is(t, what("Change", b, percent), api.Bucket{}, api.ErrBucket)(bucket.Change(b, percent))
		}
	}
	for _, b := range noBuckets() {
		for _, percent := range append(percents(), 0) {
			is(t, what("Change", b, percent), api.Bucket{}, api.ErrBucket)(bucket.Change(b, percent))
		}
	}
}

// P11.3: Change of many buckets to all percents, held against another telling.
func TestChangeAsTold(t *testing.T) {
	for _, b := range buckets() {
		for percent := -1; percent <= maxCap+1; percent++ {
			want, no := changed(b, percent)
			is(t, what("Change", b, percent), want, no)(bucket.Change(b, percent))
		}
	}
}

// P11.4: by hand: not dry, at 0, in a debt that Cap divides and in one that it doesn't, no cap.
func TestWait(t *testing.T) {
	for _, c := range []struct {
		b    api.Bucket
		want int64
	}{
		{of(50, 1), 0}, {full(50), 0}, {of(800, 1), 0}, {api.Bucket{}, 0},
		{of(1, 0), 1}, {of(50, 0), 1}, {of(800, 0), 1},
		{of(1, -1), 2}, {of(1, -9), 10}, {of(1, -maxDebt), 8000000001},
		{of(50, -50), 2}, {of(50, -100), 3}, {of(50, -1000), 21},
		{of(50, -1), 1}, {of(50, -49), 1}, {of(50, -51), 2}, {of(50, -99), 2}, {of(50, -101), 3},
		{of(3, -9), 4}, {of(3, -10), 4}, {of(3, -11), 4}, {of(3, -12), 5},
		{of(800, -799), 1}, {of(800, -800), 2}, {of(800, -801), 2}, {of(800, -maxDebt), 10000001}, {of(799, -maxDebt), 10012516},
	} {
		tells(t, what("Wait", c.b), c.want, api.OK)(bucket.Wait(c.b))
	}
	for _, b := range noBuckets() {
		tells(t, what("Wait", b), 0, api.ErrBucket)(bucket.Wait(b))
	}
}

// bounded is what Bound answers, told another way.
func bounded(percent int, dt, gap int64, n int) int64 {
	return sum(product(int64(percent), dt), product(int64(percent), period), product(100, int64(n), gap)).Int64()
}

// P11.4: Bound is a sum of three.
func TestBound(t *testing.T) {
	tells(t, "Bound(1, 0, 0, 0)", 100000000, api.OK)(bucket.Bound(1, 0, 0, 0))
	tells(t, "Bound(1, 1, 0, 0)", 100000001, api.OK)(bucket.Bound(1, 1, 0, 0))
	tells(t, "Bound(1, 0, 1, 0)", 100000000, api.OK)(bucket.Bound(1, 0, 1, 0))
	tells(t, "Bound(1, 0, 0, 1)", 100000000, api.OK)(bucket.Bound(1, 0, 0, 1))
	tells(t, "Bound(1, 0, 1, 1)", 100000100, api.OK)(bucket.Bound(1, 0, 1, 1))
	tells(t, "Bound(3, 5, 7, 2)", 300000000+15+1400, api.OK)(bucket.Bound(3, 5, 7, 2))
	tells(t, "Bound of the greatest", 800*maxTime+80000000000+8000000000, api.OK)(bucket.Bound(800, maxTime, maxGap, 8))
	for _, percent := range percents() {
		for _, dt := range append(dts(), 1000000000, 1<<40, maxTime-1, maxTime) {
			for _, gap := range dts() {
				for n := range maxEach + 1 {
					tells(t, what("Bound", percent, dt, gap, n), bounded(percent, dt, gap, n), api.OK)(bucket.Bound(percent, dt, gap, n))
				}
			}
		}
	}
}

// P11.4: each of the four numbers just beyond its bounds, whatever the others are.
func TestBoundRefuses(t *testing.T) {
	for _, percent := range append(noPercents(), 0) {
		tells(t, what("Bound", percent, 100, 10, 1), 0, api.ErrArg)(bucket.Bound(percent, 100, 10, 1))
		tells(t, what("Bound", percent, 0, 0, 0), 0, api.ErrArg)(bucket.Bound(percent, 0, 0, 0))
	}
	for _, dt := range []int64{-1, -2, -maxTime, math.MinInt64, maxTime + 1, maxTime + 2, 1 << 60, math.MaxInt64} {
		tells(t, what("Bound", 50, dt, 10, 1), 0, api.ErrArg)(bucket.Bound(50, dt, 10, 1))
		tells(t, what("Bound", 1, dt, 0, 0), 0, api.ErrArg)(bucket.Bound(1, dt, 0, 0))
	}
	for _, gap := range noDts() {
		tells(t, what("Bound", 50, 100, gap, 1), 0, api.ErrArg)(bucket.Bound(50, 100, gap, 1))
		tells(t, what("Bound", 1, maxTime, gap, 0), 0, api.ErrArg)(bucket.Bound(1, maxTime, gap, 0))
	}
	for _, n := range noCounts() {
		tells(t, what("Bound", 50, 100, 10, n), 0, api.ErrArg)(bucket.Bound(50, 100, 10, n))
		tells(t, what("Bound", 1, 0, 0, n), 0, api.ErrArg)(bucket.Bound(1, 0, 0, n))
	}
}

// idled is b behind a time with none running, passed by as few steps as may be.
func idled(t *testing.T, b api.Bucket, dt int64) api.Bucket {
	t.Helper()
	for dt > 0 {
		part := min(dt, maxGap)
		c, no := bucket.Pass(b, part, 0)
		if no != api.OK {
			t.Fatalf("Pass(%v, %d, 0): %d; want OK", b, part, no)
		}
		b, dt = c, dt-part
	}
	return b
}

// P11.5: behind Wait it is not dry; one nanosecond ahead of it it is.
func TestWaitIsTheLeast(t *testing.T) {
	for _, b := range buckets() {
		wait, no := bucket.Wait(b)
		if no != api.OK || wait < 0 || wait > 0 != isDry(b) {
			t.Errorf("Wait(%v): %d, %d", b, wait, no)
			continue
		}
		if bucket.Dry(idled(t, b, wait)) {
			t.Errorf("Wait(%v): %d, but behind that it is dry", b, wait)
		}
		if wait > 0 && !bucket.Dry(idled(t, b, wait-1)) {
			t.Errorf("Wait(%v): %d, but ahead of that it is not dry any more", b, wait)
		}
	}
}

// P11.5: what comes of Pass and Change may be, over long rows of both; each is what another telling says.
func TestWhatComesMayBe(t *testing.T) {
	next := chance()
	b := api.Bucket{}
	for place := range 200000 {
		var c, want api.Bucket
		var no, wantNo api.Errno
		name := ""
		if next(20) == 0 {
			percent := next(maxCap+3) - 1
			if next(4) == 0 {
				percent = next(9)
			}
			name = what("Change", b, percent)
			c, no = bucket.Change(b, percent)
			want, wantNo = changed(b, percent)
		} else {
			dt, n := someDt(next), next(maxEach+1)
			name = what("Pass", b, dt, n)
			c, no = bucket.Pass(b, dt, n)
			want, wantNo = passed(b, dt, n)
		}
		is(t, name, want, wantNo)(c, no)
		if bucket.Check(c) != api.OK || !mayBe(c) {
			t.Fatalf("%s, the %dth: %v, which may not be", name, place, c)
		}
		if no == api.OK {
			b = c
		}
	}
}

// someDt is a span that is passed at once: a short one, one of any length, the greatest.
func someDt(next func(int) int) int64 {
	switch next(4) {
	case 0:
		return int64(next(100))
	case 1:
		return maxGap
	}
	return int64(next(maxGap + 1))
}

// step is a time that was passed, and how many ran in it.
type step struct {
	dt int64
	n  int
}

// played is a row of steps, none of which runs while it is dry; want says what each one would be.
func played(t *testing.T, b api.Bucket, many int, want func(b api.Bucket) step) []step {
	t.Helper()
	var row []step
	for range many {
		s := want(b)
		if bucket.Dry(b) {
			s.n = 0
		}
		c, no := bucket.Pass(b, s.dt, s.n)
		if no != api.OK {
			t.Fatalf("Pass(%v, %d, %d): %d; want OK", b, s.dt, s.n, no)
		}
		row, b = append(row, s), c
	}
	return row
}

// bounds asks, of each piece of a row that begins at one of some steps, that what was run in it, times 100, is at most Bound; and answers the least that was left of it.
func bounds(t *testing.T, percent int, row []step) int64 {
	t.Helper()
	least := int64(math.MaxInt64)
	for from := 0; from < len(row); from += 1 + len(row)/20 {
		var dt, gap, run int64
		n := 0
		for _, s := range row[from:] {
			dt, run = dt+s.dt, run+int64(s.n)*s.dt
			gap, n = max(gap, s.dt), max(n, s.n)
			most, no := bucket.Bound(percent, dt, gap, n)
			if no != api.OK || 100*run > most {
				t.Fatalf("cap %d, from %d on: %d was run within %d, by %d at most, %d at once at most: Bound says %d, %d", percent, from, run, dt, n, gap, most, no)
			}
			least = min(least, most-100*run)
		}
	}
	return least
}

// P11.5: where nobody runs while it is dry, what was run is within Bound, of all pieces of a row: of steps of any length and number.
func TestBoundHolds(t *testing.T) {
	next := chance()
	for _, percent := range percents() {
		for _, most := range []int{1, 3, 1000, maxGap} {
			for _, start := range []api.Bucket{full(percent), of(percent, 1), of(percent, 0), of(percent, -maxDebt)} {
				row := played(t, start, 400, func(api.Bucket) step {
					return step{int64(next(most + 1)), next(maxEach + 1)}
				})
				bounds(t, percent, row)
			}
		}
	}
}

// P11.5: who runs whenever that may be comes as near to Bound as what is run in a step.
func TestBoundIsNear(t *testing.T) {
	for _, percent := range []int{1, 10, 50, 100, 333, 700} {
		for _, gap := range []int64{999983, maxGap} {
			row := played(t, full(percent), 2000, func(api.Bucket) step {
				return step{gap, maxEach}
			})
			if left := bounds(t, percent, row); left > 100*maxEach*gap {
				t.Errorf("cap %d, steps of %d: never nearer to Bound than %d", percent, gap, left)
			}
		}
	}
}

// P11.5: the most that can be run: from full down to one token, then the longest step. Only what that step itself puts in, and that token, are left.
func TestBoundIsMet(t *testing.T) {
	row := []step{{125156, 8}, {1, 3}, {1, 1}, {43, 0}, {maxGap, 8}}
	place := 0
	played(t, full(1), len(row), func(b api.Bucket) step {
		if place == len(row)-1 && b != of(1, 1) {
			t.Errorf("ahead of the longest step: %v; want one token", b)
		}
		place++
		return row[place-1]
	})
	if left := bounds(t, 1, row); left != maxGap+1 {
		t.Errorf("left of Bound: %d; want %d", left, maxGap+1)
	}
}

// P11.5: of a cap of 50 within a second at most half of it, a period's part, and a step.
func TestHalfOfASecond(t *testing.T) {
	const gap = 2000000
	row := played(t, full(50), 500, func(api.Bucket) step {
		return step{gap, 1}
	})
	var run int64
	for _, s := range row {
		run += int64(s.n) * s.dt
	}
	if run > 500000000+period/2+gap || run < 500000000 {
		t.Errorf("within a second %d was run", run)
	}
}
