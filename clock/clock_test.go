package clock_test

import (
	"fmt"
	"math"
	"math/big"
	"regexp"
	"strings"
	"testing"

	"mainsheet/api"
	"mainsheet/clock"
)

// call is one of the calls that are handed two times, all asked alike.
type call struct {
	name string
	ask  func(t, d int64) (int64, api.Errno)
}

// calls are all that are handed two times.
func calls() []call {
	return []call{
		{"Add", clock.Add}, {"Less", clock.Less}, {"Stop", clock.Stop},
		{"Ago", clock.Ago}, {"Up", clock.Up}, {"Down", clock.Down},
	}
}

// noTimes are numbers that are no times.
func noTimes() []int64 {
	return []int64{
		-1, -2, -5, -second, -api.MaxTime, -api.MaxTime - 1, math.MinInt64, math.MinInt64 + 1,
		math.MinInt32, math.MinInt64 + api.MaxTime,
		api.MaxTime + 1, api.MaxTime + 2, 2 * api.MaxTime, 1 << 62, math.MaxInt64 - api.MaxTime,
		math.MaxInt64 - 1, math.MaxInt64,
	}
}

// times are edges of all that may be a time.
func times() []int64 {
	l := []int64{0, 1, 2, 3, 5, 7, 10, 99, 1 << 20, 3 << 40, 1125899 * second}
	for _, edge := range []int64{second, 1 << 31, 1 << 32, api.MaxTime / 3, api.MaxTime / 2, api.MaxTime - 7} {
		l = append(l, edge-1, edge, edge+1)
	}
	return append(l, api.MaxTime-2, api.MaxTime-1, api.MaxTime)
}

const second = 1000000000

// is asks for one answer.
func is(t *testing.T, where string, want int64, wantNo api.Errno) func(int64, api.Errno) {
	return func(x int64, no api.Errno) {
		t.Helper()
		if x != want || no != wantNo {
			t.Errorf("%s: %d, %d; want %d, %d", where, x, no, want, wantNo)
		}
	}
}

// of names a call and its arguments.
func of(name string, args ...any) string {
	return fmt.Sprintf("%s%v", name, args)
}

// P2.1: from 0 to MaxTime, both among them.
func TestCheck(t *testing.T) {
	for _, x := range times() {
		if no := clock.Check(x); no != api.OK {
			t.Errorf("Check(%d): %d; want OK", x, no)
		}
	}
	for _, x := range noTimes() {
		if no := clock.Check(x); no != api.ErrTime {
			t.Errorf("Check(%d): %d; want ErrTime", x, no)
		}
	}
}

// P2.1: ErrTime, whichever of two is no time, and ahead of what the other one would be refused for.
func TestNoTimeIsRefusedByAll(t *testing.T) {
	for _, c := range calls() {
		for _, no := range noTimes() {
			for _, x := range append(times(), noTimes()...) {
				is(t, of(c.name, no, x), 0, api.ErrTime)(c.ask(no, x))
				is(t, of(c.name, x, no), 0, api.ErrTime)(c.ask(x, no))
			}
		}
	}
}

// P2.1: ErrTime of Times and Text; of Times ahead of ErrArg.
func TestNoTimeIsRefusedByTimesAndText(t *testing.T) {
	for _, no := range noTimes() {
		for _, n := range []int{math.MinInt, -1, 0, 1, 2, math.MaxInt} {
			is(t, of("Times", no, n), 0, api.ErrTime)(clock.Times(no, n))
		}
		if s, err := clock.Text(no); s != "" || err != api.ErrTime {
			t.Errorf("Text(%d): %q, %d; want nothing, ErrTime", no, s, err)
		}
	}
}

// P2.2: sums up to MaxTime, and one above.
func TestAdd(t *testing.T) {
	for _, x := range times() {
		for _, d := range times() {
			if x+d > api.MaxTime {
				is(t, of("Add", x, d), 0, api.ErrFull)(clock.Add(x, d))
			} else {
				is(t, of("Add", x, d), x+d, api.OK)(clock.Add(x, d))
			}
		}
		room := api.MaxTime - x
		is(t, of("Add", x, room), api.MaxTime, api.OK)(clock.Add(x, room))
		if x > 0 {
			is(t, of("Add", x, room+1), 0, api.ErrFull)(clock.Add(x, room+1))
		}
	}
	is(t, "Add", 12, api.OK)(clock.Add(5, 7))
	is(t, "Add", 0, api.OK)(clock.Add(0, 0))
	is(t, "Add", 0, api.ErrFull)(clock.Add(api.MaxTime, api.MaxTime))
}

// P2.2: a span that is the time, and one more.
func TestLess(t *testing.T) {
	for _, x := range times() {
		for _, d := range times() {
			if d > x {
				is(t, of("Less", x, d), 0, api.ErrArg)(clock.Less(x, d))
			} else {
				is(t, of("Less", x, d), x-d, api.OK)(clock.Less(x, d))
			}
		}
		is(t, of("Less", x, x), 0, api.OK)(clock.Less(x, x))
		if x < api.MaxTime {
			is(t, of("Less", x, x+1), 0, api.ErrArg)(clock.Less(x, x+1))
		}
	}
	is(t, "Less", 2, api.OK)(clock.Less(7, 5))
}

// P2.3: at the bound and beyond it; never refused.
func TestStop(t *testing.T) {
	for _, x := range times() {
		for _, d := range times() {
			want := x + d
			if want > api.MaxTime {
				want = api.MaxTime
			}
			is(t, of("Stop", x, d), want, api.OK)(clock.Stop(x, d))
		}
		room := api.MaxTime - x
		is(t, of("Stop", x, room), api.MaxTime, api.OK)(clock.Stop(x, room))
		if room > 0 {
			is(t, of("Stop", x, room-1), api.MaxTime-1, api.OK)(clock.Stop(x, room-1))
		}
	}
	is(t, "Stop", 12, api.OK)(clock.Stop(5, 7))
}

// product is what Times is to answer.
func product(d int64, n int) int64 {
	p := new(big.Int).Mul(big.NewInt(d), big.NewInt(int64(n)))
	if p.Cmp(big.NewInt(api.MaxTime)) > 0 {
		return api.MaxTime
	}
	return p.Int64()
}

// P2.3: at the bound, beyond it, and where the product would go round to something that may be.
func TestTimes(t *testing.T) {
	for _, d := range times() {
		counts := []int{0, 1, 2, 3, 5, 1000, 1 << 14, 1<<14 + 1, 1 << 30, 1 << 50, 1 << 60, 1 << 62, math.MaxInt - 1, math.MaxInt}
		if d > 0 {
			bound := int(api.MaxTime / d)
			counts = append(counts, bound-1, bound, bound+1)
		}
		for _, n := range counts {
			is(t, of("Times", d, n), product(d, n), api.OK)(clock.Times(d, n))
		}
		for _, n := range []int{-1, -2, -1 << 14, math.MinInt + 1, math.MinInt} {
			is(t, of("Times", d, n), 0, api.ErrArg)(clock.Times(d, n))
		}
	}
	is(t, "Times", 0, api.OK)(clock.Times(0, math.MaxInt))
	is(t, "Times", 0, api.OK)(clock.Times(api.MaxTime, 0))
	is(t, "Times", api.MaxTime, api.OK)(clock.Times(1, api.MaxTime))
	is(t, "Times", api.MaxTime, api.OK)(clock.Times(1, api.MaxTime+1))
	is(t, "Times", api.MaxTime, api.OK)(clock.Times(1<<25, 1<<25))
	is(t, "Times", api.MaxTime-1<<25, api.OK)(clock.Times(1<<25, 1<<25-1))
}

// P2.4: ahead of now, now itself, and above it.
func TestAgo(t *testing.T) {
	for _, now := range times() {
		for _, x := range times() {
			want := now - x
			if x > now {
				want = 0
			}
			is(t, of("Ago", now, x), want, api.OK)(clock.Ago(now, x))
		}
		is(t, of("Ago", now, now), 0, api.OK)(clock.Ago(now, now))
		if now > 0 {
			is(t, of("Ago", now, now-1), 1, api.OK)(clock.Ago(now, now-1))
		}
	}
	is(t, "Ago", 2, api.OK)(clock.Ago(5, 3))
}

// rounds asks Up and Down against multiples that are told another way.
func rounds(t *testing.T, x, step int64) {
	t.Helper()
	down, up := x/step*step, (x+step-1)/step*step
	is(t, of("Down", x, step), down, api.OK)(clock.Down(x, step))
	if up > api.MaxTime {
		is(t, of("Up", x, step), 0, api.ErrFull)(clock.Up(x, step))
	} else {
		is(t, of("Up", x, step), up, api.OK)(clock.Up(x, step))
	}
}

// P2.5: all small times and steps, against multiples that are counted.
func TestUpAndDownOfSmallTimes(t *testing.T) {
	for step := int64(1); step < 40; step++ {
		for x := int64(0); x < 130; x++ {
			down := int64(0)
			for down+step <= x {
				down += step
			}
			up := int64(0)
			for up < x {
				up += step
			}
			is(t, of("Down", x, step), down, api.OK)(clock.Down(x, step))
			is(t, of("Up", x, step), up, api.OK)(clock.Up(x, step))
		}
	}
}

// P2.5: great ones; multiples, one below, one above; steps greater than the time; what would be above MaxTime.
func TestUpAndDownOfGreatTimes(t *testing.T) {
	for _, step := range times() {
		if step == 0 {
			continue
		}
		for _, x := range times() {
			rounds(t, x, step)
			multiple := x / step * step
			for _, near := range []int64{multiple - 1, multiple, multiple + 1} {
				if near >= 0 && near <= api.MaxTime {
					rounds(t, near, step)
				}
			}
		}
	}
	is(t, "Up", api.MaxTime, api.OK)(clock.Up(api.MaxTime, 1<<20))
	is(t, "Up", api.MaxTime, api.OK)(clock.Up(1, api.MaxTime))
	is(t, "Up", 0, api.ErrFull)(clock.Up(api.MaxTime, 3))
	is(t, "Up", 0, api.ErrFull)(clock.Up(api.MaxTime, api.MaxTime-1))
	is(t, "Up", api.MaxTime-1, api.OK)(clock.Up(api.MaxTime-1, api.MaxTime-1))
	is(t, "Up", 0, api.OK)(clock.Up(0, api.MaxTime))
	is(t, "Down", 0, api.OK)(clock.Down(api.MaxTime-1, api.MaxTime))
}

// P2.5: no multiples of 0.
func TestAStepOfNothing(t *testing.T) {
	for _, x := range times() {
		is(t, of("Up", x, 0), 0, api.ErrArg)(clock.Up(x, 0))
		is(t, of("Down", x, 0), 0, api.ErrArg)(clock.Down(x, 0))
	}
}

// P2.6: texts written out by hand.
func TestTextAndParseOfKnownTimes(t *testing.T) {
	for _, c := range []struct {
		x    int64
		text string
	}{
		{0, "0"},
		{1, "0.000000001"},
		{10, "0.00000001"},
		{100, "0.0000001"},
		{100000000, "0.1"},
		{120000000, "0.12"},
		{123456789, "0.123456789"},
		{100000001, "0.100000001"},
		{101000000, "0.101"},
		{999999999, "0.999999999"},
		{second, "1"},
		{second + 1, "1.000000001"},
		{10 * second, "10"},
		{10*second + 50, "10.00000005"},
		{100 * second, "100"},
		{20*second + 200000000, "20.2"},
		{1000000 * second, "1000000"},
		{1125899 * second, "1125899"},
		{api.MaxTime - 624, "1125899.906842"},
		{api.MaxTime - 1, "1125899.906842623"},
		{api.MaxTime, "1125899.906842624"},
	} {
		if s, no := clock.Text(c.x); s != c.text || no != api.OK {
			t.Errorf("Text(%d): %q, %d; want %q", c.x, s, no, c.text)
		}
		is(t, fmt.Sprintf("Parse(%q)", c.text), c.x, api.OK)(clock.Parse(c.text))
	}
}

// told is the text, told another way.
func told(x int64) string {
	s := strings.TrimRight(fmt.Sprintf("%d.%09d", x/second, x%second), "0")
	return strings.TrimSuffix(s, ".")
}

// someTimes are times with digits and noughts in all places.
func someTimes() []int64 {
	l := times()
	for power := int64(1); power < api.MaxTime; power *= 10 {
		for digit := int64(1); digit <= 9; digit++ {
			for _, x := range []int64{digit*power - 1, digit * power, digit*power + 1, power + digit, digit*power + power/100} {
				if x <= api.MaxTime {
					l = append(l, x)
				}
			}
		}
	}
	for x := int64(0); x < 3000; x++ {
		l = append(l, x, x*1000, x*1000000, x*second/7)
	}
	return l
}

// P2.6: noughts ahead and behind, in all places.
func TestText(t *testing.T) {
	for _, x := range someTimes() {
		if s, no := clock.Text(x); s != told(x) || no != api.OK {
			t.Errorf("Text(%d): %q, %d; want %q", x, s, no, told(x))
		}
	}
}

// P2.6: what is no time's text, though near to one.
func TestParseRefuses(t *testing.T) {
	for _, s := range []string{
		"", " ", ".", "..", "-", "+", "-0", "+0", "-1", "+1", "--1", "1-", "1+",
		"00", "01", "007", "00.5", "01.5", "0000000", "00000001", "01125899",
		".5", "0.", "1.", "12.", ".0", ".000000001",
		"0.0", "1.0", "1.50", "1.5000", "0.000000000", "0.0000000010", "1.100000000",
		"0.1234567891", "0.0000000001", "0.1000000001", "1.9999999999", "0.12345678912345678912345",
		"1.5.5", "1..5", "1.5.", ".1.5", "0.0.1",
		"1.-5", "1.+5", "-1.5", "+1.5", "1.5-", "1. 5", "1 .5",
		" 1", "1 ", "1\n", "\n1", "1\t", "1\x00", "\x001", "1.5\n", "1.5 ",
		"1,5", "1_000", "1e3", "1e0", "0x1", "0b1", "0o7", "1s", "1n", "a", "1a", "a1", "Inf", "NaN", "nil",
		"\xff", "1\xff", "1.\xff", "\u0661", "\u0661.5", "1.\u0661", "\uff11", "1\u00b75", "\u00bd",
		"/", ":", "1/", "1:", "1./", "1.:",
		"1125899.906842625", "1125899.90684263", "1125899.91", "1125900", "1125900.5", "2000000", "9999999", "9999999.999999999",
		"10000000", "11258999", "99999999",
		"1125899906842624", "9223372036854775807", "9223372036854775808", "18446744073709551616", "18446744073709551617",
		"9223372036.854775807", "18446744073.709551616", "18446744073.709551617", "36893488147.419103232",
		"340282366920938463463374607431768211456", strings.Repeat("9", 10000), strings.Repeat("0", 10000),
		"1" + strings.Repeat("0", 64), "0." + strings.Repeat("0", 10000), "0." + strings.Repeat("0", 10000) + "1",
		"0." + strings.Repeat("1", 10000), strings.Repeat(".", 10000), strings.Repeat("0", 10000) + "1",
	} {
		is(t, fmt.Sprintf("Parse(%q)", s), 0, api.ErrArg)(clock.Parse(s))
	}
}

// shape is that of a time's text; how great the time is it does not tell.
var shape = regexp.MustCompile(`\A(0|[1-9][0-9]*)(\.[0-9]{0,8}[1-9])?\z`)

// parses asks Parse against the shape, and the greatness of what has it.
func parses(t *testing.T, s string) {
	t.Helper()
	if !shape.MatchString(s) {
		is(t, fmt.Sprintf("Parse(%q)", s), 0, api.ErrArg)(clock.Parse(s))
		return
	}
	r, _ := new(big.Rat).SetString(s)
	r.Mul(r, big.NewRat(second, 1))
	if !r.IsInt() || r.Num().Cmp(big.NewInt(api.MaxTime)) > 0 {
		is(t, fmt.Sprintf("Parse(%q)", s), 0, api.ErrArg)(clock.Parse(s))
		return
	}
	is(t, fmt.Sprintf("Parse(%q)", s), r.Num().Int64(), api.OK)(clock.Parse(s))
}

// P2.6: all short texts of some bytes.
func TestParseOfAllShortTexts(t *testing.T) {
	texts := []string{""}
	for range 5 {
		var longer []string
		for _, s := range texts {
			parses(t, s)
			for _, b := range "015.-/" {
				longer = append(longer, s+string(b))
			}
		}
		texts = longer
	}
	for _, s := range texts {
		parses(t, s)
	}
}

// P2.6: texts in which one byte is another one, is left out, or is one too many.
func TestParseOfTextsNearOnes(t *testing.T) {
	for _, s := range []string{"0", "7", "10", "1.5", "0.000000007", "10.05", "1125899.906842624", "1125898.906842624", "123456.123456789"} {
		for i := range len(s) + 1 {
			for b := range 256 {
				parses(t, s[:i]+string([]byte{byte(b)})+s[i:])
				if i < len(s) {
					parses(t, s[:i]+string([]byte{byte(b)})+s[i+1:])
				}
			}
			if i < len(s) {
				parses(t, s[:i]+s[i+1:])
			}
			parses(t, s[:i])
			parses(t, s[i:])
		}
	}
}

// P2.7: what is added and taken away leads back.
func TestThereAndBack(t *testing.T) {
	for _, x := range times() {
		for _, d := range times() {
			if sum, no := clock.Add(x, d); no == api.OK {
				is(t, of("Less of Add", x, d), x, api.OK)(clock.Less(sum, d))
				is(t, of("Ago of Add", x, d), d, api.OK)(clock.Ago(sum, x))
			}
			if left, no := clock.Less(x, d); no == api.OK {
				is(t, of("Add of Less", x, d), x, api.OK)(clock.Add(left, d))
			}
		}
	}
}

// P2.7: Stop is Add where Add is not refused, and goes up with both.
func TestStopAndAdd(t *testing.T) {
	for _, x := range times() {
		for _, d := range times() {
			stop, _ := clock.Stop(x, d)
			if sum, no := clock.Add(x, d); no == api.OK && stop != sum {
				t.Errorf("Stop(%d, %d): %d; Add: %d", x, d, stop, sum)
			}
			for _, more := range times() {
				if later, _ := clock.Stop(max(x, more), d); later < stop {
					t.Errorf("Stop(%d, %d) is below Stop(%d, %d)", max(x, more), d, x, d)
				}
				if longer, _ := clock.Stop(x, max(d, more)); longer < stop {
					t.Errorf("Stop(%d, %d) is below Stop(%d, %d)", x, max(d, more), x, d)
				}
			}
		}
	}
}

// P2.7: Down at most the time, Up at least, both less than a step away; of a multiple both are it.
func TestDownAndUpAreNear(t *testing.T) {
	for _, step := range times() {
		for _, x := range times() {
			down, no := clock.Down(x, step)
			if no != api.OK {
				continue
			}
			if down > x || x-down >= step || down%step != 0 {
				t.Errorf("Down(%d, %d): %d", x, step, down)
			}
			if up, no := clock.Up(x, step); no == api.OK && (up < x || up-x >= step || up%step != 0) {
				t.Errorf("Up(%d, %d): %d", x, step, up)
			}
			is(t, of("Down of a multiple", down, step), down, api.OK)(clock.Down(down, step))
			is(t, of("Up of a multiple", down, step), down, api.OK)(clock.Up(down, step))
		}
	}
}

// P2.7: Parse of Text is the time, Text of Parse the text.
func TestTextAndParseLeadBack(t *testing.T) {
	for _, x := range someTimes() {
		s, _ := clock.Text(x)
		is(t, of("Parse of Text", x), x, api.OK)(clock.Parse(s))
	}
	for _, s := range []string{"0", "9", "90", "1.5", "0.05", "12.000000001", "1125899.906842624"} {
		x, _ := clock.Parse(s)
		if back, no := clock.Text(x); back != s || no != api.OK {
			t.Errorf("Text of Parse(%q): %q, %d", s, back, no)
		}
	}
}

// The chapter's examples.
func TestExamples(t *testing.T) {
	is(t, "Add(2, 3)", 5, api.OK)(clock.Add(2, 3))
	is(t, "Add(MaxTime, 1)", 0, api.ErrFull)(clock.Add(api.MaxTime, 1))
	is(t, "Less(2, 3)", 0, api.ErrArg)(clock.Less(2, 3))
	if no := clock.Check(-1); no != api.ErrTime {
		t.Errorf("Check(-1): %d", no)
	}
	is(t, "Stop(MaxTime, 1)", api.MaxTime, api.OK)(clock.Stop(api.MaxTime, 1))
	is(t, "Times(3, 4)", 12, api.OK)(clock.Times(3, 4))
	is(t, "Times(MaxTime, 2)", api.MaxTime, api.OK)(clock.Times(api.MaxTime, 2))
	is(t, "Up(7, 5)", 10, api.OK)(clock.Up(7, 5))
	is(t, "Down(7, 5)", 5, api.OK)(clock.Down(7, 5))
	is(t, "Up(10, 5)", 10, api.OK)(clock.Up(10, 5))
	is(t, "Up(1, 0)", 0, api.ErrArg)(clock.Up(1, 0))
	is(t, "Ago(3, 5)", 0, api.OK)(clock.Ago(3, 5))
	for text, x := range map[string]int64{"1.5": 1500000000, "0.000000007": 7, "0": 0} {
		if s, no := clock.Text(x); s != text || no != api.OK {
			t.Errorf("Text(%d): %q, %d; want %q", x, s, no, text)
		}
	}
	is(t, "Parse(1.50)", 0, api.ErrArg)(clock.Parse("1.50"))
	is(t, "Parse(01)", 0, api.ErrArg)(clock.Parse("01"))
}
