package cpuset_test

import (
	"fmt"
	"math"
	"slices"
	"strconv"
	"strings"
	"testing"

	"mainsheet/api"
	"mainsheet/cpuset"
)

// all is the set of all pCPUs, of which there are 8.
const all api.Cpus = 255

// sets are all sets that may be.
func sets() []api.Cpus {
	var l []api.Cpus
	for s := range all + 1 {
		l = append(l, s)
	}
	return l
}

// noSets are some that may not be: with one bit too many, with several, alone and beside those that may.
func noSets() []api.Cpus {
	var l []api.Cpus
	for _, more := range []api.Cpus{256, 512, 1 << 15, 1 << 16, 1 << 30, 1 << 31, 256 | 1<<31, math.MaxUint32 &^ all} {
		for _, s := range []api.Cpus{0, 1, 10, 128, 170, all} {
			l = append(l, s|more)
		}
	}
	return l
}

// noCpus are numbers that no pCPU has, those among them by which a shift would go round, or fail.
func noCpus() []int {
	return []int{math.MinInt, -1 << 32, -257, -256, -64, -33, -32, -31, -8, -1, 8, 9, 31, 32, 33, 63, 64, 65, 255, 256, 1 << 32, math.MaxInt}
}

// in are the numbers in s, as the chapter tells them: those whose power of two is in the value.
func in(s api.Cpus) []int {
	var l []int
	power := uint64(1)
	for cpu := range 8 {
		if uint64(s)/power%2 == 1 {
			l = append(l, cpu)
		}
		power *= 2
	}
	return l
}

// of names a call and its arguments.
func of(name string, args ...any) string {
	return fmt.Sprintf("%s%v", name, args)
}

// is asks for a set, and an error.
func is(t *testing.T, where string, want api.Cpus, wantNo api.Errno) func(api.Cpus, api.Errno) {
	return func(s api.Cpus, no api.Errno) {
		t.Helper()
		if s != want || no != wantNo {
			t.Errorf("%s: %d, %d; want %d, %d", where, s, no, want, wantNo)
		}
	}
}

// P4.1: the bits of pCPUs may be, alone and together; all others may not.
func TestCheck(t *testing.T) {
	for _, s := range sets() {
		if no := cpuset.Check(s); no != api.OK {
			t.Errorf("Check(%d): %d; want OK", s, no)
		}
	}
	for _, s := range noSets() {
		if no := cpuset.Check(s); no != api.ErrCpus {
			t.Errorf("Check(%d): %d; want ErrCpus", s, no)
		}
	}
	for i := range 32 {
		want := api.OK
		if i >= 8 {
			want = api.ErrCpus
		}
		if no := cpuset.Check(1 << i); no != want {
			t.Errorf("Check of the bit %d: %d; want %d", i, no, want)
		}
		if no := cpuset.Check(all | 1<<i); no != want {
			t.Errorf("Check of all and the bit %d: %d; want %d", i, no, want)
		}
	}
}

// P4.1: none, one, several, as often and in whatever order they stand there.
func TestOfKnownNumbers(t *testing.T) {
	for _, c := range []struct {
		l    []int
		want api.Cpus
	}{
		{nil, 0},
		{[]int{}, 0},
		{[]int{0}, 1},
		{[]int{7}, 128},
		{[]int{7, 7, 7}, 128},
		{[]int{0, 0}, 1},
		{[]int{0, 7}, 129},
		{[]int{7, 0}, 129},
		{[]int{3, 1, 3, 1, 1}, 10},
		{[]int{0, 1, 2, 3, 4, 5, 6, 7}, 255},
		{[]int{7, 6, 5, 4, 3, 2, 1, 0, 1, 2, 3, 4, 5, 6, 7}, 255},
		{slices.Repeat([]int{2, 5}, 1000), 36},
	} {
		was := slices.Clone(c.l)
		is(t, of("Of", c.l), c.want, api.OK)(cpuset.Of(c.l...))
		if !slices.Equal(c.l, was) {
			t.Errorf("Of changed %v to %v", was, c.l)
		}
	}
	is(t, "Of()", 0, api.OK)(cpuset.Of())
}

// P4.1: one that is none is refused wherever it stands, and nothing is answered beside that.
func TestOfRefusesWhatIsNoCpu(t *testing.T) {
	for _, no := range noCpus() {
		for _, l := range [][]int{{no}, {no, no}, {no, 3}, {3, no}, {3, no, 4}, {0, 1, 2, 3, 4, 5, 6, 7, no}, {no, 0, 1, 2, 3, 4, 5, 6, 7}} {
			is(t, of("Of", l), 0, api.ErrArg)(cpuset.Of(l...))
		}
	}
}

// P4.1: none, one, all; one fewer than none, one more than all.
func TestFirst(t *testing.T) {
	for n, want := range []api.Cpus{0, 1, 3, 7, 15, 31, 63, 127, 255} {
		is(t, of("First", n), want, api.OK)(cpuset.First(n))
	}
	for _, n := range noCpus() {
		if n != api.MaxCpus {
			is(t, of("First", n), 0, api.ErrArg)(cpuset.First(n))
		}
	}
}

// P4.2: each number in each set; bits that no pCPU has are asked for in vain.
func TestHas(t *testing.T) {
	for _, s := range append(sets(), noSets()...) {
		for cpu := range 8 {
			if has := cpuset.Has(s, cpu); has != slices.Contains(in(s), cpu) {
				t.Errorf("Has(%d, %d): %v", s, cpu, has)
			}
		}
		for _, no := range noCpus() {
			if cpuset.Has(s, no) {
				t.Errorf("Has(%d, %d): true", s, no)
			}
		}
	}
	for _, no := range noCpus() {
		if cpuset.Has(math.MaxUint32, no) {
			t.Errorf("Has of all bits, %d: true", no)
		}
	}
}

// P4.2: the empty set, one number, all, and all between; bits that no pCPU has do not count.
func TestCountAndList(t *testing.T) {
	for _, c := range []struct {
		s    api.Cpus
		want []int
	}{
		{0, nil},
		{1, []int{0}},
		{128, []int{7}},
		{129, []int{0, 7}},
		{170, []int{1, 3, 5, 7}},
		{all, []int{0, 1, 2, 3, 4, 5, 6, 7}},
		{256, nil},
		{1 << 31, nil},
		{math.MaxUint32 &^ all, nil},
		{1<<31 | 256 | 129, []int{0, 7}},
		{math.MaxUint32, []int{0, 1, 2, 3, 4, 5, 6, 7}},
	} {
		if l := cpuset.List(c.s); !slices.Equal(l, c.want) {
			t.Errorf("List(%d): %v; want %v", c.s, l, c.want)
		}
		if n := cpuset.Count(c.s); n != len(c.want) {
			t.Errorf("Count(%d): %d; want %d", c.s, n, len(c.want))
		}
	}
	for _, s := range append(sets(), noSets()...) {
		if l := cpuset.List(s); !slices.Equal(l, in(s)) {
			t.Errorf("List(%d): %v; want %v", s, l, in(s))
		}
		if n := cpuset.Count(s); n != len(in(s)) {
			t.Errorf("Count(%d): %d; want %d", s, n, len(in(s)))
		}
	}
}

// P4.2, R3: a list is new memory.
func TestListAnswersNewMemory(t *testing.T) {
	one, other := cpuset.List(all), cpuset.List(all)
	clear(one)
	_ = append(one, 99)
	if want := []int{0, 1, 2, 3, 4, 5, 6, 7}; !slices.Equal(other, want) || !slices.Equal(cpuset.List(all), want) {
		t.Errorf("List: %v, and again %v; want %v", other, cpuset.List(all), want)
	}
}

// P4.2: below all, at each one, in between, at the last one and above it.
func TestNext(t *testing.T) {
	for _, s := range append(sets(), noSets()...) {
		for _, after := range append([]int{0, 1, 2, 3, 4, 5, 6, 7}, noCpus()...) {
			want, wantThere := 0, false
			for _, cpu := range slices.Backward(in(s)) {
				if cpu > after {
					want, wantThere = cpu, true
				}
			}
			if cpu, there := cpuset.Next(s, after); cpu != want || there != wantThere {
				t.Errorf("Next(%d, %d): %d, %v; want %d, %v", s, after, cpu, there, want, wantThere)
			}
		}
	}
}

// P4.2: those that come next, written out by hand.
func TestNextOfKnownSets(t *testing.T) {
	for _, c := range []struct {
		s     api.Cpus
		after int
		want  int
		there bool
	}{
		{0, -1, 0, false},
		{0, 0, 0, false},
		{1, math.MinInt, 0, true},
		{1, -2, 0, true},
		{1, -1, 0, true},
		{1, 0, 0, false},
		{129, 0, 7, true},
		{129, 3, 7, true},
		{129, 6, 7, true},
		{129, 7, 0, false},
		{129, 8, 0, false},
		{129, math.MaxInt, 0, false},
		{all, 3, 4, true},
		{36, -1, 2, true},
		{36, 1, 2, true},
		{36, 2, 5, true},
		{256, -1, 0, false},
		{257, 0, 0, false},
		{math.MaxUint32, 7, 0, false},
		{math.MaxUint32, 8, 0, false},
		{1 << 31, 30, 0, false},
	} {
		if cpu, there := cpuset.Next(c.s, c.after); cpu != c.want || there != c.there {
			t.Errorf("Next(%d, %d): %d, %v; want %d, %v", c.s, c.after, cpu, there, c.want, c.there)
		}
	}
}

// P4.3: each number, there and not there, in each set.
func TestWithAndWithout(t *testing.T) {
	for _, s := range sets() {
		power := api.Cpus(1)
		for cpu := range 8 {
			if slices.Contains(in(s), cpu) {
				is(t, of("With", s, cpu), 0, api.ErrThere)(cpuset.With(s, cpu))
				is(t, of("Without", s, cpu), s-power, api.OK)(cpuset.Without(s, cpu))
			} else {
				is(t, of("With", s, cpu), s+power, api.OK)(cpuset.With(s, cpu))
				is(t, of("Without", s, cpu), 0, api.ErrNone)(cpuset.Without(s, cpu))
			}
			power *= 2
		}
	}
}

// P4.3: numbers that are none.
func TestWithAndWithoutRefuseWhatIsNoCpu(t *testing.T) {
	for _, s := range sets() {
		for _, no := range noCpus() {
			is(t, of("With", s, no), 0, api.ErrArg)(cpuset.With(s, no))
			is(t, of("Without", s, no), 0, api.ErrArg)(cpuset.Without(s, no))
		}
	}
}

// P4.3: sets that may not be, ahead of all else: of numbers that are there, that are not, that are none.
func TestWithAndWithoutRefuseWhatMayNotBe(t *testing.T) {
	for _, s := range noSets() {
		for _, cpu := range append([]int{0, 1, 2, 3, 4, 5, 6, 7}, noCpus()...) {
			is(t, of("With", s, cpu), 0, api.ErrCpus)(cpuset.With(s, cpu))
			is(t, of("Without", s, cpu), 0, api.ErrCpus)(cpuset.Without(s, cpu))
		}
	}
}

// P4.3: each set in each, and bits that no pCPU has in either.
func TestWithin(t *testing.T) {
	more := []api.Cpus{0, 256, 1 << 31, math.MaxUint32 &^ all}
	for _, s := range sets() {
		for _, u := range sets() {
			want := true
			for _, cpu := range in(s) {
				want = want && slices.Contains(in(u), cpu)
			}
			for _, moreS := range more {
				for _, moreU := range more {
					if within := cpuset.Within(s|moreS, u|moreU); within != want {
						t.Fatalf("Within(%d, %d): %v; want %v", s|moreS, u|moreU, within, want)
					}
				}
			}
		}
	}
}

// P4.3: what is in what, written out by hand.
func TestWithinOfKnownSets(t *testing.T) {
	for _, c := range []struct {
		s, t api.Cpus
		want bool
	}{
		{0, 0, true},
		{0, 10, true},
		{0, 256, true},
		{10, 0, false},
		{10, 10, true},
		{8, 10, true},
		{10, 8, false},
		{5, 10, false},
		{all, all, true},
		{all, 127, false},
		{127, all, true},
		{256, 0, true},
		{256, 512, true},
		{256 | 2, 10, true},
		{256 | 1, 10, false},
		{math.MaxUint32, all, true},
		{math.MaxUint32, math.MaxUint32 - 1, false},
		{1, math.MaxUint32 - 1, false},
	} {
		if within := cpuset.Within(c.s, c.t); within != c.want {
			t.Errorf("Within(%d, %d): %v; want %v", c.s, c.t, within, c.want)
		}
	}
}

// known are sets and their texts, written out by hand.
func known() map[api.Cpus]string {
	return map[api.Cpus]string{
		0:   "none",
		1:   "0",
		2:   "1",
		128: "7",
		3:   "0-1",
		192: "6-7",
		7:   "0-2",
		224: "5-7",
		126: "1-6",
		127: "0-6",
		254: "1-7",
		255: "0-7",
		5:   "0,2",
		129: "0,7",
		10:  "1,3",
		11:  "0-1,3",
		13:  "0,2-3",
		27:  "0-1,3-4",
		55:  "0-2,4-5",
		85:  "0,2,4,6",
		170: "1,3,5,7",
		187: "0-1,3-5,7",
		199: "0-2,6-7",
		219: "0-1,3-4,6-7",
		253: "0,2-7",
		191: "0-5,7",
	}
}

// told is the text, told another way: a row grows as long as the number that follows is there.
func told(s api.Cpus) string {
	if s == 0 {
		return "none"
	}
	var text string
	last, long := -2, false
	for _, cpu := range in(s) {
		number := string(rune('0' + cpu))
		switch {
		case cpu == last+1 && long:
			text = text[:len(text)-1] + number
		case cpu == last+1:
			text, long = text+"-"+number, true
		default:
			text, long = text+","+number, false
		}
		last = cpu
	}
	return strings.TrimPrefix(text, ",")
}

// texts are those of all sets.
func texts() map[string]api.Cpus {
	m := map[string]api.Cpus{}
	for _, s := range sets() {
		m[told(s)] = s
	}
	return m
}

// parses asks Parse, which of all texts takes just those of sets.
func parses(t *testing.T, texts map[string]api.Cpus, text string) {
	t.Helper()
	if want, there := texts[text]; there {
		is(t, of("Parse", strconv.Quote(text)), want, api.OK)(cpuset.Parse(text))
		return
	}
	is(t, of("Parse", strconv.Quote(text)), 0, api.ErrArg)(cpuset.Parse(text))
}

// P4.4: the empty set, rows of one, of two, of three and more, alone and beside others.
func TestTextAndParseOfKnownSets(t *testing.T) {
	for s, want := range known() {
		if text, no := cpuset.Text(s); text != want || no != api.OK {
			t.Errorf("Text(%d): %q, %d; want %q", s, text, no, want)
		}
		is(t, of("Parse", want), s, api.OK)(cpuset.Parse(want))
	}
}

// P4.4: every set's text, and back.
func TestTextAndParseOfAllSets(t *testing.T) {
	for _, s := range sets() {
		text, no := cpuset.Text(s)
		if text != told(s) || no != api.OK {
			t.Errorf("Text(%d): %q, %d; want %q", s, text, no, told(s))
		}
		is(t, of("Parse", text), s, api.OK)(cpuset.Parse(text))
	}
	if n := len(texts()); n != 256 {
		t.Errorf("%d texts of 256 sets", n)
	}
}

// P4.4: of what may not be there is no text.
func TestTextOfWhatMayNotBe(t *testing.T) {
	for _, s := range append(noSets(), math.MaxUint32) {
		if text, no := cpuset.Text(s); text != "" || no != api.ErrCpus {
			t.Errorf("Text(%d): %q, %d; want nothing, ErrCpus", s, text, no)
		}
	}
}

// P4.4: what is no set's text, though near to one.
func TestParseRefuses(t *testing.T) {
	for _, text := range []string{
		"", " ", "  ", "-", "--", ",", ",,", "-,-", ",-",
		"00", "01", "07", "00-1", "0-01", "00-01", "0,02", "0000000", "-0", "+0", "+1", "0-+1", "+0-1", "0,+2",
		"0-0", "5-5", "7-7", "0-1,3-3", "3-3,5",
		"1-0", "7-0", "3-1", "0-1,5-3", "5-3,7", "2-1,4",
		"0,1", "0,1,2", "6,7", "0-1,2", "0,1-2", "0-1,2-3", "0-2,3-7", "0,1,3", "0,2,3",
		"0,0", "7,7", "0-1,1", "0-1,1-2", "0-3,2-5", "0-7,3", "3,0-7", "0-7,0-7",
		"1,0", "2,0", "7,0", "3,0-1", "4-5,0-2", "0,4,2", "0,6,3-4",
		"8", "9", "10", "15", "31", "32", "255", "256", "264", "0-8", "7-8", "6-8", "0,8", "8-9", "8,10", "0-7,9", "0-15", "0-10",
		"-1", "-1-0", "-1-3", "0--1", "-0-1", "0-1-2", "0-2-4", "0-1-", "-0-1", "0-", "-7", "0-1,-3", "0--3", "0---3",
		"4294967296", "18446744073709551616", "18446744073709551617", "-18446744073709551615", "0-4294967297", "0-18446744073709551617",
		",0", "0,", "0,,2", "0-1,", ",0-1", "0,2,", ",0,2", "0-1,,3", "0,2,,4", "0;2", "0.2", "0 2", "0/2", "0..2", "0:2", "0~2", "0–2", "0‑2",
		" 0", "0 ", "0, 2", "0 ,2", "0 -1", "0- 1", "0\n", "\n0", "0\t", "0\x00", "\x000", "0,2\n", "0-1 ", "\"0\"", "[0]", "{0}", "{0-1}",
		"a", "0a", "a0", "f", "0xa", "0x1", "0b1", "0o1", "0_1", "1e0", "1.0", "0.0", "0-1e0", "all", "any", "nil", "0-1,x", "x,0-1", "0-x",
		"None", "NONE", "nonE", "nOne", "non", "none ", " none", "nonee", "nnone", "none,", ",none", "none,none", "none,0", "0,none", "none-0", "0-none", "none-none", "none\n", "none\x00",
		"\xff", "0\xff", "\xff0", "0,\xff", "\u0660", "\u0661", "\uff11", "\u00b2", "0\u00a0", "0\u20101", "\u00bd", "0\u002c\u0332",
	} {
		is(t, of("Parse", strconv.Quote(text)), 0, api.ErrArg)(cpuset.Parse(text))
	}
}

// P4.4, R1: great texts are refused too, and the call ends.
func TestParseRefusesGreatTexts(t *testing.T) {
	for _, text := range []string{
		strings.Repeat("0", 100000), strings.Repeat("0", 100000) + "1", "1" + strings.Repeat("0", 100000), strings.Repeat("7", 100000),
		strings.Repeat(",", 100000), strings.Repeat("-", 100000), strings.Repeat("0,", 100000) + "0", strings.Repeat("0,2,", 100000),
		"0-1" + strings.Repeat(",0-1", 100000), "0-1" + strings.Repeat("-1", 100000), strings.Repeat("none", 100000), strings.Repeat(" ", 100000) + "0",
		"0-" + strings.Repeat("0", 100000) + "1", "-" + strings.Repeat("9", 100000),
	} {
		if s, no := cpuset.Parse(text); s != 0 || no != api.ErrArg {
			t.Errorf("Parse of %d bytes, %q ahead: %d, %d; want 0, ErrArg", len(text), text[:8], s, no)
		}
	}
}

// P4.4: all short texts of some bytes, the row's bytes and the neighbours of the digits among them.
func TestParseOfAllShortTexts(t *testing.T) {
	sets, short := texts(), []string{""}
	for range 6 {
		var longer []string
		for _, text := range short {
			parses(t, sets, text)
			for _, b := range "01278,-" {
				longer = append(longer, text+string(b))
			}
		}
		short = longer
	}
	for _, text := range short {
		parses(t, sets, text)
	}
}

// P4.4: texts in which one byte is another one, is left out, or is one too many; and their parts.
func TestParseOfTextsNearOnes(t *testing.T) {
	sets := texts()
	for text := range sets {
		for i := range len(text) + 1 {
			for b := range 256 {
				parses(t, sets, text[:i]+string([]byte{byte(b)})+text[i:])
				if i < len(text) {
					parses(t, sets, text[:i]+string([]byte{byte(b)})+text[i+1:])
				}
			}
			if i < len(text) {
				parses(t, sets, text[:i]+text[i+1:])
			}
			parses(t, sets, text[:i])
			parses(t, sets, text[i:])
		}
	}
}

// P4.4: two texts with a comma or a minus between them, or nothing.
func TestParseOfTwoTexts(t *testing.T) {
	sets := texts()
	for one := range sets {
		for other := range sets {
			for _, between := range []string{",", "-", ""} {
				parses(t, sets, one+between+other)
			}
		}
	}
}

// P4.5: what is put in and taken out leads back, and so the other way round.
func TestWithAndWithoutLeadBack(t *testing.T) {
	for _, s := range sets() {
		for cpu := range 8 {
			if with, no := cpuset.With(s, cpu); no == api.OK {
				is(t, of("Without of With", s, cpu), s, api.OK)(cpuset.Without(with, cpu))
				if !cpuset.Has(with, cpu) || !cpuset.Within(s, with) || cpuset.Within(with, s) || cpuset.Count(with) != cpuset.Count(s)+1 {
					t.Errorf("With(%d, %d): %d", s, cpu, with)
				}
			}
			if without, no := cpuset.Without(s, cpu); no == api.OK {
				is(t, of("With of Without", s, cpu), s, api.OK)(cpuset.With(without, cpu))
				if cpuset.Has(without, cpu) || !cpuset.Within(without, s) || cpuset.Within(s, without) || cpuset.Count(without) != cpuset.Count(s)-1 {
					t.Errorf("Without(%d, %d): %d", s, cpu, without)
				}
			}
		}
	}
}

// P4.5: Of List is the set; it rises, and has Count numbers.
func TestListLeadsBack(t *testing.T) {
	for _, s := range sets() {
		l := cpuset.List(s)
		is(t, of("Of List", s), s, api.OK)(cpuset.Of(l...))
		if len(l) != cpuset.Count(s) {
			t.Errorf("List(%d): %v; Count: %d", s, l, cpuset.Count(s))
		}
		for i, cpu := range l {
			if i > 0 && l[i-1] >= cpu || !cpuset.Has(s, cpu) {
				t.Errorf("List(%d): %v", s, l)
			}
		}
	}
}

// P4.5: Next, again and again, goes through the list; also of what may not be.
func TestNextGoesThroughTheList(t *testing.T) {
	for _, s := range append(sets(), noSets()...) {
		var l []int
		for cpu, there := cpuset.Next(s, -1); there && len(l) <= 8; cpu, there = cpuset.Next(s, cpu) {
			l = append(l, cpu)
		}
		if !slices.Equal(l, cpuset.List(s)) {
			t.Errorf("Next of %d, again and again: %v; List: %v", s, l, cpuset.List(s))
		}
	}
}

// P4.5: Parse of Text is the set, Text of Parse the text.
func TestTextAndParseLeadBack(t *testing.T) {
	for _, s := range sets() {
		text, _ := cpuset.Text(s)
		is(t, of("Parse of Text", s), s, api.OK)(cpuset.Parse(text))
	}
	for text := range texts() {
		s, _ := cpuset.Parse(text)
		if back, no := cpuset.Text(s); back != text || no != api.OK {
			t.Errorf("Text of Parse(%q): %q, %d", text, back, no)
		}
	}
}

// The chapter's examples.
func TestExamples(t *testing.T) {
	is(t, "Of(1, 3, 1)", 10, api.OK)(cpuset.Of(1, 3, 1))
	is(t, "Of(8)", 0, api.ErrArg)(cpuset.Of(8))
	is(t, "First(3)", 7, api.OK)(cpuset.First(3))
	if l := cpuset.List(10); !slices.Equal(l, []int{1, 3}) || cpuset.Count(10) != 2 {
		t.Errorf("List(10): %v; Count(10): %d", l, cpuset.Count(10))
	}
	if cpu, there := cpuset.Next(10, 1); cpu != 3 || !there {
		t.Errorf("Next(10, 1): %d, %v", cpu, there)
	}
	if cpu, there := cpuset.Next(10, 3); cpu != 0 || there {
		t.Errorf("Next(10, 3): %d, %v", cpu, there)
	}
	is(t, "With(10, 0)", 11, api.OK)(cpuset.With(10, 0))
	is(t, "With(10, 1)", 0, api.ErrThere)(cpuset.With(10, 1))
	is(t, "Without(10, 0)", 0, api.ErrNone)(cpuset.Without(10, 0))
	for s, want := range map[api.Cpus]string{11: "0-1,3", 0: "none", 55: "0-2,4-5"} {
		if text, no := cpuset.Text(s); text != want || no != api.OK {
			t.Errorf("Text(%d): %q, %d; want %q", s, text, no, want)
		}
	}
	is(t, "Parse(0-1,3)", 11, api.OK)(cpuset.Parse("0-1,3"))
	is(t, "Parse(0,1)", 0, api.ErrArg)(cpuset.Parse("0,1"))
	is(t, "Parse(5-5)", 0, api.ErrArg)(cpuset.Parse("5-5"))
	if no := cpuset.Check(256); no != api.ErrCpus {
		t.Errorf("Check(256): %d", no)
	}
	if !cpuset.Within(2, 10) {
		t.Error("Within(2, 10): false")
	}
}
