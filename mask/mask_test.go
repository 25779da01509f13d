package mask_test

import (
	"fmt"
	"math"
	"slices"
	"testing"

	"mainsheet/api"
	"mainsheet/mask"
)

// The limits, as the document says them, and the set of all pCPUs.
const (
	maxCpus           = 8
	maxVcpus          = 16
	all      api.Cpus = 255
)

// of is the mask of that Hard and that Soft.
func of(hard, soft api.Cpus) api.Mask {
	return api.Mask{Hard: hard, Soft: soft}
}

// row are the masks that have these Hards, and like nothing in particular.
func row(hards ...api.Cpus) []api.Mask {
	var l []api.Mask
	for _, hard := range hards {
		l = append(l, of(hard, 0))
	}
	return l
}

// repeat is a row of one mask, n times.
func repeat(n int, m api.Mask) []api.Mask {
	return slices.Repeat([]api.Mask{m}, n)
}

// noSets are some that may not be: with bits that no pCPU has, alone and beside those that may.
func noSets() []api.Cpus {
	var l []api.Cpus
	for _, more := range []api.Cpus{256, 512, 1 << 15, 1 << 31, math.MaxUint32 &^ all} {
		for _, s := range []api.Cpus{0, 1, 10, 128, all} {
			l = append(l, s|more)
		}
	}
	return l
}

// sets are some that may be, those at the edges among them.
func sets() []api.Cpus {
	return []api.Cpus{0, 1, 2, 3, 4, 5, 7, 8, 10, 15, 16, 24, 32, 48, 64, 85, 90, 96, 127, 128, 129, 165, 170, 192, 200, 240, 254, all}
}

// masks are some that may be.
func masks() []api.Mask {
	var l []api.Mask
	for _, hard := range sets()[1:] {
		for _, soft := range sets() {
			l = append(l, of(hard, soft))
		}
	}
	return l
}

// noMasks are some that may not be: whose Hard is empty, or whose Hard, Soft, or both have bits that no pCPU has.
func noMasks() []api.Mask {
	var l []api.Mask
	for _, soft := range sets() {
		l = append(l, of(0, soft))
	}
	for _, no := range noSets() {
		l = append(l, of(0, no), of(1, no), of(all, no), of(no, 0), of(no, 1), of(no, all), of(no, no), of(no, 256), of(512, no))
	}
	return l
}

// numbers are those of pCPUs, those just beyond, and very great and very small ones, by which a shift would go round, or fail.
func numbers() []int {
	l := []int{math.MinInt, math.MinInt + 1, -1 << 32, -257, -256, -64, -32, -8, -2, -1, 9, 31, 32, 33, 63, 64, 255, 256, 1 << 31, 1 << 32, 1<<32 + 1, 1 << 62, math.MaxInt}
	for cpu := range maxCpus + 1 {
		l = append(l, cpu)
	}
	return l
}

// chance tells numbers below n by a short rule, the same whenever it is asked anew.
func chance() func(n int) int {
	x := uint64(7)
	return func(n int) int {
		x = x*6364136223846793005 + 1442695040888963407
		return int(x >> 33 % uint64(n))
	}
}

// in are the numbers in s, as layer 4 tells them: those whose power of two is in the value.
func in(s api.Cpus) []int {
	var l []int
	power := uint64(1)
	for cpu := range maxCpus {
		if uint64(s)/power%2 == 1 {
			l = append(l, cpu)
		}
		power *= 2
	}
	return l
}

// bits is the set of those numbers, none of which stands there twice.
func bits(l []int) api.Cpus {
	var s api.Cpus
	for _, cpu := range l {
		s += 1 << cpu
	}
	return s
}

// allows are the pCPUs that Hard and the pool have both.
func allows(m api.Mask, pool api.Cpus) []int {
	return slices.DeleteFunc(in(m.Hard), func(cpu int) bool { return !slices.Contains(in(pool), cpu) })
}

// likes are those of them that Soft has, or all, if it has none.
func likes(m api.Mask, pool api.Cpus) []int {
	l := slices.DeleteFunc(allows(m, pool), func(cpu int) bool { return !slices.Contains(in(m.Soft), cpu) })
	if len(l) == 0 {
		return allows(m, pool)
	}
	return l
}

// lacks is by how many, at most, a row of the masks is more than what its masks allow together: as many find none, and there is a choice just if it is 0.
func lacks(l []api.Mask, free api.Cpus) int {
	most := 0
	for which := range 1 << len(l) {
		count, together := 0, map[int]int{}
		for place, m := range l {
			if which>>place%2 == 1 {
				count++
				for _, cpu := range allows(m, free) {
					together[cpu] = 1
				}
			}
		}
		most = max(most, count-len(together))
	}
	return most
}

// first is the first choice, found by trying all rows of pCPUs in their order; and whether there is one.
func first(l []api.Mask, free api.Cpus) ([]int, bool) {
	if len(l) == 0 {
		return nil, true
	}
	for _, cpu := range allows(l[0], free) {
		if behind, there := first(l[1:], free-1<<cpu); there {
			return append([]int{cpu}, behind...), true
		}
	}
	return nil, false
}

// asked names a call and its arguments.
func asked(name string, args ...any) string {
	return fmt.Sprintf("%s%v", name, args)
}

// found asks for a pCPU, and whether there is one.
func found(t *testing.T, where string, want int, wantThere bool) func(int, bool) {
	return func(cpu int, there bool) {
		t.Helper()
		if cpu != want || there != wantThere {
			t.Errorf("%s: %d, %v; want %d, %v", where, cpu, there, want, wantThere)
		}
	}
}

// chosen asks for a row of pCPUs, and an error.
func chosen(t *testing.T, where string, wantNo api.Errno, want ...int) func([]int, api.Errno) {
	return func(l []int, no api.Errno) {
		t.Helper()
		if !slices.Equal(l, want) || no != wantNo {
			t.Errorf("%s: %v, %d; want %v, %d", where, l, no, want, wantNo)
		}
	}
}

// count asks for a number, and an error.
func count(t *testing.T, where string, want int, wantNo api.Errno) func(int, api.Errno) {
	return func(n int, no api.Errno) {
		t.Helper()
		if n != want || no != wantNo {
			t.Errorf("%s: %d, %d; want %d, %d", where, n, no, want, wantNo)
		}
	}
}

// fits asks whether there is a choice.
func fits(t *testing.T, l []api.Mask, pool api.Cpus, want bool) {
	t.Helper()
	if fits := mask.Fits(l, pool); fits != want {
		t.Errorf("Fits(%v, %d): %v; want %v", l, pool, fits, want)
	}
}

// choices asks Choice, Fits and Most of masks and a set that may be, and are not too many.
func choices(t *testing.T, l []api.Mask, free api.Cpus) {
	t.Helper()
	without := lacks(l, free)
	count(t, asked("Most", l, free), len(l)-without, api.OK)(mask.Most(l, free))
	fits(t, l, free, without == 0)
	if without > 0 {
		chosen(t, asked("Choice", l, free), api.ErrNone)(mask.Choice(l, free))
		return
	}
	want, _ := first(l, free)
	chosen(t, asked("Choice", l, free), api.OK, want...)(mask.Choice(l, free))
}

// refused asks Choice, Fits and Most of what they refuse.
func refused(t *testing.T, where string, l []api.Mask, free api.Cpus, want api.Errno) {
	t.Helper()
	chosen(t, "Choice of "+where, want)(mask.Choice(l, free))
	count(t, "Most of "+where, 0, want)(mask.Most(l, free))
	if mask.Fits(l, free) {
		t.Errorf("Fits of %s: true", where)
	}
}

// P7.1: each Hard and each Soft: empty ones, of one pCPU, of all.
func TestCheck(t *testing.T) {
	for hard := range all + 1 {
		for soft := range all + 1 {
			want := api.OK
			if hard == 0 {
				want = api.ErrMask
			}
			if no := mask.Check(of(hard, soft)); no != want {
				t.Errorf("Check(%d, %d): %d; want %d", hard, soft, no, want)
			}
		}
	}
	for _, m := range masks() {
		if no := mask.Check(m); no != api.OK {
			t.Errorf("Check(%v): %d; want OK", m, no)
		}
	}
}

// P7.1: an empty Hard; bits that no pCPU has in Hard, in Soft, in both; each such bit, alone and beside all that there are.
func TestCheckRefuses(t *testing.T) {
	for _, m := range noMasks() {
		if no := mask.Check(m); no != api.ErrMask {
			t.Errorf("Check(%v): %d; want ErrMask", m, no)
		}
	}
	for i := range 32 {
		one, want := api.Cpus(1)<<i, api.ErrMask
		if i < maxCpus {
			want = api.OK
		}
		for _, m := range []api.Mask{of(one, 0), of(one|all, 0), of(1, one), of(all, one|all), of(one, one), of(one|all, one|all)} {
			if no := mask.Check(m); no != want {
				t.Errorf("Check(%v): %d; want %d", m, no, want)
			}
		}
	}
}

// P7.1: what is allowed and liked, written out by hand.
func TestAllowsAndLikesOfKnownMasks(t *testing.T) {
	for _, c := range []struct {
		m                    api.Mask
		pool, allowed, liked api.Cpus
	}{
		{of(1, 0), 1, 1, 1},
		{of(1, 0), 0, 0, 0},
		{of(1, 1), 254, 0, 0},
		{of(3, 2), 1, 1, 1},         // what it likes is not in the pool
		{of(3, 4), 7, 3, 3},         // what it likes is in the pool, but not allowed
		{of(7, 4), 7, 7, 4},         // some of it
		{of(7, 12), 15, 7, 4},       // some of it, and more that is not allowed
		{of(7, 6), 3, 3, 2},         // some of what is left of it
		{of(7, 7), 6, 6, 6},         // all of it
		{of(7, all), 13, 5, 5},      // all of it, and more
		{of(all, 0), all, all, all}, // nothing
		{of(all, all), all, all, all},
		{of(all, 128), all, all, 128},
		{of(all, 128), 127, 127, 127},
		{of(128, 1), all, 128, 128},
		{of(85, 170), all, 85, 85},
		{of(85, 17), 60, 20, 16},
		{of(254, 1), 3, 2, 2},
	} {
		if s := mask.Allows(c.m, c.pool); s != c.allowed {
			t.Errorf("Allows(%v, %d): %d; want %d", c.m, c.pool, s, c.allowed)
		}
		if s := mask.Likes(c.m, c.pool); s != c.liked {
			t.Errorf("Likes(%v, %d): %d; want %d", c.m, c.pool, s, c.liked)
		}
	}
}

// P7.1: many masks, and each pool that may be.
func TestAllowsAndLikes(t *testing.T) {
	for _, m := range masks() {
		for pool := range all + 1 {
			if s := mask.Allows(m, pool); s != bits(allows(m, pool)) {
				t.Errorf("Allows(%v, %d): %d; want %v", m, pool, s, allows(m, pool))
			}
			if s := mask.Likes(m, pool); s != bits(likes(m, pool)) {
				t.Errorf("Likes(%v, %d): %d; want %v", m, pool, s, likes(m, pool))
			}
		}
	}
}

// P7.1: nothing of a mask or a pool that may not be, nor of both; though what may be of them has pCPUs in common.
func TestAllowsAndLikesOfWhatMayNotBe(t *testing.T) {
	nothing := func(m api.Mask, pool api.Cpus) {
		if allowed, liked := mask.Allows(m, pool), mask.Likes(m, pool); allowed != 0 || liked != 0 {
			t.Errorf("of %v and %d: Allows %d, Likes %d; want nothing", m, pool, allowed, liked)
		}
	}
	for _, m := range noMasks() {
		for _, pool := range append(sets(), noSets()...) {
			nothing(m, pool)
		}
	}
	for _, m := range masks() {
		for _, pool := range noSets() {
			nothing(m, pool)
		}
	}
}

// P7.2: where it is and where it is not; what it likes ahead of what it does not; written out by hand.
func TestBestOfKnownMasks(t *testing.T) {
	m := of(0b01011101, 0b11010010) // allows 0 2 3 4 6, likes 4 6 of them
	for _, c := range []struct {
		free  api.Cpus
		at    int
		want  int
		there bool
	}{
		{all, 4, 4, true},          // allowed and liked
		{all, 6, 6, true},          // liked, though not the least one
		{all, 0, 0, true},          // allowed, not liked
		{all, 3, 3, true},          // neither the least one
		{all, 1, 4, true},          // liked, not allowed
		{all, 5, 4, true},          // neither
		{all, 7, 4, true},          // MaxCpus - 1, liked, not allowed
		{all, 8, 4, true},          // no pCPU's number
		{all, -1, 4, true},         // nowhere
		{all - 16, 4, 6, true},     // not free
		{all - 80, 4, 0, true},     // nothing that it likes is free
		{all - 80, 3, 3, true},     //
		{all - 81, -1, 2, true},    //
		{8, 0, 3, true},            // one that it does not like is all that there is
		{64, 0, 6, true},           //
		{162, 1, 0, false},         // nothing that it allows is free, where it is is
		{162, 4, 0, false},         //
		{0, 4, 0, false},           // nothing is free
		{0, -1, 0, false},          //
		{256 + 16, 4, 0, false},    // no set
		{all + 1<<31, 4, 0, false}, //
		{all, math.MaxInt, 4, true},
		{all, math.MinInt, 4, true},
		{all, 1<<32 + 2, 4, true},
		{all, 64, 4, true},
		{all, -61, 4, true},
	} {
		found(t, asked("Best", c.free, c.at), c.want, c.there)(mask.Best(m, c.free, c.at))
	}
	last := of(128, 0)
	found(t, "Best of the last pCPU, at it", 7, true)(mask.Best(last, all, 7))
	found(t, "Best of the last pCPU, at none", 7, true)(mask.Best(last, 128, -1))
	found(t, "Best of the last pCPU, not free", 0, false)(mask.Best(last, 127, 7))
}

// P7.2: many masks, many sets, each number.
func TestBest(t *testing.T) {
	for _, m := range masks() {
		for _, free := range sets() {
			allowed, liked := allows(m, free), likes(m, free)
			for _, at := range numbers() {
				want, there := 0, len(allowed) > 0
				switch {
				case slices.Contains(allowed, at):
					want = at
				case there:
					want = slices.Min(liked)
				}
				found(t, asked("Best", m, free, at), want, there)(mask.Best(m, free, at))
			}
		}
	}
}

// P7.2: none of a mask or a set that may not be, wherever it is.
func TestBestOfWhatMayNotBe(t *testing.T) {
	for _, at := range numbers() {
		for _, m := range noMasks() {
			for _, free := range []api.Cpus{0, 1, 10, 128, all, 256, all + 256, 1 << 31, math.MaxUint32} {
				found(t, asked("Best", m, free, at), 0, false)(mask.Best(m, free, at))
			}
		}
		for _, free := range noSets() {
			for _, m := range []api.Mask{of(1, 0), of(10, 2), of(128, 128), of(all, 0), of(all, all)} {
				found(t, asked("Best", m, free, at), 0, false)(mask.Best(m, free, at))
			}
		}
	}
}

// P7.3: choices written out by hand; most of them are not found by giving each mask its least pCPU in turn.
func TestKnownChoices(t *testing.T) {
	for _, c := range []struct {
		hards []api.Cpus
		free  api.Cpus
		want  []int
	}{
		{nil, all, nil},
		{nil, 0, nil},
		{[]api.Cpus{1}, 1, []int{0}},
		{[]api.Cpus{all}, 96, []int{5}},
		{[]api.Cpus{128}, all, []int{7}},
		{[]api.Cpus{3, 1}, all, []int{1, 0}},
		{[]api.Cpus{1, 3}, all, []int{0, 1}},
		{[]api.Cpus{3, 3}, all, []int{0, 1}},
		{[]api.Cpus{7, 3, 1}, all, []int{2, 1, 0}},
		{[]api.Cpus{7, 3, 3}, all, []int{2, 0, 1}},
		{[]api.Cpus{7, 7, 1}, all, []int{1, 2, 0}},
		{[]api.Cpus{3, 6, 4}, all, []int{0, 1, 2}},
		{[]api.Cpus{6, 3, 4}, all, []int{1, 0, 2}},
		{[]api.Cpus{3, 6, 2}, all, []int{0, 2, 1}},
		{[]api.Cpus{3, 5, 1}, all, []int{1, 2, 0}},
		{[]api.Cpus{all, all, 3, 3}, all, []int{2, 3, 0, 1}},
		{[]api.Cpus{all, all, 3, 3}, 139, []int{3, 7, 0, 1}},
		{[]api.Cpus{all, 240, 3, 3}, 139, []int{3, 7, 0, 1}},
		{[]api.Cpus{240, all, 3, 3}, 139, []int{7, 3, 0, 1}},
		{[]api.Cpus{all, all, all, all, all, all, all, all}, all, []int{0, 1, 2, 3, 4, 5, 6, 7}},
		{[]api.Cpus{all, 127, 63, 31, 15, 7, 3, 1}, all, []int{7, 6, 5, 4, 3, 2, 1, 0}},
		{[]api.Cpus{129, 3, 6, 12, 24, 48, 96, 192}, all, []int{0, 1, 2, 3, 4, 5, 6, 7}},
		{[]api.Cpus{129, 3, 6, 12, 24, 48, 96, 128}, all, []int{0, 1, 2, 3, 4, 5, 6, 7}},
		{[]api.Cpus{129, 3, 6, 12, 24, 48, 96, 1}, all, []int{7, 1, 2, 3, 4, 5, 6, 0}},
		{[]api.Cpus{3, 6, 12, 24, 48, 96, 192, 129}, all, []int{0, 1, 2, 3, 4, 5, 6, 7}},
		{[]api.Cpus{3, 6, 12, 24, 48, 96, 192, 1}, all, []int{1, 2, 3, 4, 5, 6, 7, 0}},
	} {
		chosen(t, asked("Choice", c.hards, c.free), api.OK, c.want...)(mask.Choice(row(c.hards...), c.free))
		fits(t, row(c.hards...), c.free, true)
		count(t, asked("Most", c.hards, c.free), len(c.hards), api.OK)(mask.Most(row(c.hards...), c.free))
	}
}

// P7.3: masks that have a choice one by one, but none together; or that have none at all; and how many of them have one, written out by hand.
func TestMasksWithoutAChoice(t *testing.T) {
	for _, c := range []struct {
		hards []api.Cpus
		free  api.Cpus
		most  int
	}{
		{[]api.Cpus{1}, 0, 0},
		{[]api.Cpus{1}, 254, 0},
		{[]api.Cpus{all}, 0, 0},
		{[]api.Cpus{all, all}, 0, 0},
		{[]api.Cpus{1, 1}, all, 1},
		{[]api.Cpus{1, 1, 1}, all, 1},
		{[]api.Cpus{1, 2, 4}, 2, 1},
		{[]api.Cpus{1, 2, 4}, 5, 2},
		{[]api.Cpus{1, 2, 4}, 248, 0},
		{[]api.Cpus{3, 3, 3}, all, 2},
		{[]api.Cpus{all, 1, 1}, all, 2},
		{[]api.Cpus{1, all, 1}, all, 2},
		{[]api.Cpus{1, 3, 2}, all, 2},
		{[]api.Cpus{3, 1, 2, 4}, all, 3},
		{[]api.Cpus{3, 5, 6, 7}, all, 3},
		{[]api.Cpus{3, 5, 6, 7}, 6, 2},
		{[]api.Cpus{all, all, all}, 96, 2},
		{[]api.Cpus{128, 192, 192, 1}, all, 3},
		{[]api.Cpus{15, 15, 15, 15, 15, all}, all, 5},
		{[]api.Cpus{127, 127, 127, 127, 127, 127, 127, 127}, all, 7},
		{[]api.Cpus{3, 6, 12, 24, 48, 96, 64, 1}, all, 7},
	} {
		chosen(t, asked("Choice", c.hards, c.free), api.ErrNone)(mask.Choice(row(c.hards...), c.free))
		fits(t, row(c.hards...), c.free, false)
		count(t, asked("Most", c.hards, c.free), c.most, api.OK)(mask.Most(row(c.hards...), c.free))
	}
}

// P7.3: what is liked counts neither for a choice, nor for which one is the first.
func TestChoiceDoesNotAskWhatIsLiked(t *testing.T) {
	for _, soft := range sets() {
		chosen(t, asked("Choice, Soft", soft), api.OK, 0, 1)(mask.Choice([]api.Mask{of(7, soft), of(all, soft)}, all))
		chosen(t, asked("Choice, Soft", soft), api.OK, 1, 0)(mask.Choice([]api.Mask{of(3, soft), of(1, soft)}, all))
		count(t, asked("Most, Soft", soft), 1, api.OK)(mask.Most(repeat(3, of(1, soft)), all))
		fits(t, []api.Mask{of(all, soft), of(all, 1)}, 3, true)
	}
}

// P7.3: all rows of up to three masks of three pCPUs, of each set; and all pairs of some masks.
func TestChoicesOfShortRows(t *testing.T) {
	for free := range api.Cpus(8) {
		choices(t, nil, free)
		for a := api.Cpus(1); a < 8; a++ {
			choices(t, row(a), free)
			for b := api.Cpus(1); b < 8; b++ {
				choices(t, row(a, b), free)
				for c := api.Cpus(1); c < 8; c++ {
					choices(t, row(a, b, c), free)
				}
			}
		}
	}
	for _, free := range sets() {
		for _, a := range sets()[1:] {
			for _, b := range sets()[1:] {
				choices(t, row(a, b), free)
			}
		}
	}
}

// P7.3: rows of all lengths up to as many as there are pCPUs, made by chance, of few pCPUs and of many.
func TestChoicesOfLongRows(t *testing.T) {
	next := chance()
	for round := range 6000 {
		var l []api.Mask
		within := []api.Cpus{all, 15, 60, 126, 195}[next(5)]
		for range round%maxCpus + 1 {
			hard := api.Cpus(1) << next(maxCpus)
			for range next(4) {
				hard |= api.Cpus(1<<next(maxCpus)) & within
			}
			l = append(l, of(hard, api.Cpus(next(256))))
		}
		choices(t, l, all)
		choices(t, l, api.Cpus(next(256)))
	}
}

// P7.3: more masks than pCPUs, up to as many as there may be: none has a choice of all, and most are as many as are allowed.
func TestMoreMasksThanCpus(t *testing.T) {
	for n := range maxVcpus + 1 {
		for free := range all + 1 {
			most := min(n, len(in(free)))
			l := repeat(n, of(all, 1))
			count(t, asked("Most of all", n, free), most, api.OK)(mask.Most(l, free))
			fits(t, l, free, most == n)
			if most < n {
				chosen(t, asked("Choice of all", n, free), api.ErrNone)(mask.Choice(l, free))
			} else {
				chosen(t, asked("Choice of all", n, free), api.OK, in(free)[:n]...)(mask.Choice(l, free))
			}
		}
	}
	next := chance()
	for round := range 24 {
		var l []api.Mask
		for range maxCpus + 1 + round%maxCpus {
			hard := api.Cpus(1) << next(maxCpus)
			for range next(3) {
				hard |= 1 << next(maxCpus)
			}
			l = append(l, of(hard, 0))
		}
		choices(t, l, all)
		choices(t, l, api.Cpus(next(256)))
	}
}

// P7.3: MaxVcpus masks are not too many; one more is, and many more, whether or not there would be a choice.
func TestTooManyMasks(t *testing.T) {
	for _, m := range []api.Mask{of(1, 0), of(all, 0), of(170, all)} {
		for _, free := range sets() {
			n, no := mask.Most(repeat(maxVcpus, m), free)
			if want := len(allows(m, free)); n != want || no != api.OK {
				t.Errorf("Most of %d masks %v, %d: %d, %d; want %d", maxVcpus, m, free, n, no, want)
			}
			chosen(t, "Choice of as many as may be", api.ErrNone)(mask.Choice(repeat(maxVcpus, m), free))
			for _, n := range []int{17, 18, 31, 32, 33, 64, 256, 257, 1000} {
				refused(t, asked("too many masks", n, m, free), repeat(n, m), free, api.ErrLong)
			}
		}
	}
	refused(t, "very many masks", repeat(1<<20, of(1, 0)), all, api.ErrLong)
}

// P7.3: a mask that may not be, in each place, ahead of a set that may not be, of too many masks, and of there being no choice.
func TestMasksThatMayNotBe(t *testing.T) {
	for _, m := range noMasks() {
		for _, n := range []int{1, 2, 3, 8, 16, 17, 40} {
			for _, place := range []int{0, n / 2, n - 1} {
				l := repeat(n, of(all, 0))
				l[place] = m
				for _, free := range []api.Cpus{0, 1, all, 256, all + 256, math.MaxUint32} {
					refused(t, asked("a mask that may not be", m, n, place, free), l, free, api.ErrMask)
				}
			}
		}
	}
	far := repeat(1<<16, of(1, 0))
	far[len(far)-1] = of(0, 1)
	refused(t, "very many masks, the last of which may not be", far, 256, api.ErrMask)
}

// P7.3: a set that may not be, ahead of too many masks, and of there being no choice; of no masks, too.
func TestSetsThatMayNotBe(t *testing.T) {
	for _, free := range noSets() {
		for _, n := range []int{0, 1, 2, 8, 9, 16, 17, 1000} {
			for _, m := range []api.Mask{of(1, 0), of(all, all)} {
				refused(t, asked("a set that may not be", n, m, free), repeat(n, m), free, api.ErrCpus)
			}
		}
	}
}

// P7.3: Most of masks among which none, some, all have a choice, in whatever order they stand.
func TestMostInEachOrder(t *testing.T) {
	var orders func(l, rest []api.Cpus, then func([]api.Cpus))
	orders = func(l, rest []api.Cpus, then func([]api.Cpus)) {
		if len(rest) == 0 {
			then(l)
		}
		for i, hard := range rest {
			orders(append(slices.Clip(l), hard), slices.Delete(slices.Clone(rest), i, i+1), then)
		}
	}
	for _, c := range []struct {
		hards []api.Cpus
		free  api.Cpus
		most  int
	}{
		{[]api.Cpus{1, 2, 4, 8, 16}, 224, 0},
		{[]api.Cpus{1, 1, 3, 7, 9}, 1, 1},
		{[]api.Cpus{1, 1, 3, 7, 15}, all, 4},
		{[]api.Cpus{1, 3, 2, 12, 4}, all, 4},
		{[]api.Cpus{5, 6, 3, 7, 64}, 71, 4},
		{[]api.Cpus{1, 3, 7, 15, 31}, all, 5},
		{[]api.Cpus{24, 8, 6, 2, 1}, all, 5},
	} {
		orders(nil, c.hards, func(l []api.Cpus) {
			count(t, asked("Most", l, c.free), c.most, api.OK)(mask.Most(row(l...), c.free))
		})
	}
}

// given is a row of masks, and a set.
type given struct {
	l    []api.Mask
	free api.Cpus
}

// made are rows of up to six masks, with a set each, made by chance; of some there is a choice, of some none.
func made() []given {
	var l []given
	next := chance()
	for round := range 600 {
		g := given{free: api.Cpus(next(256) | next(256))}
		for range 1 + round%6 {
			hard := api.Cpus(1) << next(maxCpus)
			for range next(5) {
				hard |= 1 << next(maxCpus)
			}
			g.l = append(g.l, of(hard, api.Cpus(next(256))))
		}
		l = append(l, g)
	}
	return l
}

// P7.4: what the tests below go through has choices of rows of each length, and has none.
func TestWhatIsMade(t *testing.T) {
	var have, lack [7]int
	for _, g := range made() {
		if lacks(g.l, g.free) == 0 {
			have[len(g.l)]++
		} else {
			lack[len(g.l)]++
		}
	}
	for n := 1; n <= 6; n++ {
		if have[n] < 5 || lack[n] < 5 {
			t.Errorf("of %d masks: %d with a choice, %d without", n, have[n], lack[n])
		}
	}
}

// P7.4: a choice's pCPUs are allowed of the set, and no two the same.
func TestChoiceIsAllowed(t *testing.T) {
	for _, g := range made() {
		l, free := g.l, g.free
		choice, no := mask.Choice(l, free)
		if no != api.OK {
			continue
		}
		if len(choice) != len(l) {
			t.Errorf("Choice(%v, %d): %v", l, free, choice)
		}
		for place, cpu := range choice {
			if !slices.Contains(allows(l[place], free), cpu) || slices.Contains(choice[:place], cpu) {
				t.Errorf("Choice(%v, %d): %v", l, free, choice)
			}
		}
	}
}

// P7.4: if there is a choice for all, there is one for each row of them; what is free besides never takes one away; Most is all of them just if there is a choice.
func TestChoicesStay(t *testing.T) {
	for _, g := range made() {
		l, free := g.l, g.free
		_, no := mask.Choice(l, free)
		most, _ := mask.Most(l, free)
		if there := no == api.OK; mask.Fits(l, free) != there || (most == len(l)) != there {
			t.Errorf("of %v, %d: Choice %d, Fits %v, Most %d", l, free, no, mask.Fits(l, free), most)
		}
		if no != api.OK {
			continue
		}
		for which := range 1 << len(l) {
			var some []api.Mask
			for place, m := range l {
				if which>>place%2 == 1 {
					some = append(some, m)
				}
			}
			fits(t, some, free, true)
		}
		for more := range all + 1 {
			fits(t, l, free|more, true)
		}
	}
}

// P7.3: no mask could take a lesser pCPU than the first choice gives it, so that those ahead keep theirs and those behind have a choice.
func TestFirstChoiceIsTheLeast(t *testing.T) {
	for _, g := range made() {
		l, free := g.l, g.free
		choice, _ := mask.Choice(l, free)
		for place, cpu := range choice {
			for _, less := range allows(l[place], free) {
				if less >= cpu || slices.Contains(choice[:place], less) {
					continue
				}
				rest := free &^ bits(choice[:place]) &^ bits([]int{less})
				if mask.Fits(l[place+1:], rest) {
					t.Errorf("Choice(%v, %d): %v, but %d in place %d", l, free, choice, less, place)
				}
			}
		}
	}
}

// P7.4: Best is allowed whenever anything is, and there is one just then.
func TestBestIsAllowed(t *testing.T) {
	for _, m := range masks() {
		for free := range all + 1 {
			for at := -1; at <= maxCpus; at++ {
				cpu, there := mask.Best(m, free, at)
				allowed := in(mask.Allows(m, free))
				if there != (len(allowed) > 0) || there && !slices.Contains(allowed, cpu) {
					t.Errorf("Best(%v, %d, %d): %d, %v; Allows: %v", m, free, at, cpu, there, allowed)
				}
			}
		}
	}
}

// R3: no call changes what it is handed, nor the room behind its end; what is answered is new memory.
func TestNothingIsChanged(t *testing.T) {
	for _, g := range made() {
		l, free := append(g.l, repeat(4, of(9, 9))...), g.free
		was := slices.Clone(l)
		short := l[:len(l)-4]
		one, _ := mask.Choice(short, free)
		other, _ := mask.Choice(short, free)
		want := slices.Clone(one)
		mask.Fits(short, free)
		mask.Most(short, free)
		if !slices.Equal(l, was) {
			t.Fatalf("of %v came %v", was, l)
		}
		for i := range one {
			one[i] = -9
		}
		_ = append(one, -9)
		again, _ := mask.Choice(short, free)
		if !slices.Equal(other, want) || !slices.Equal(again, want) {
			t.Errorf("Choice(%v, %d): %v, then %v, then %v", short, free, want, other, again)
		}
	}
	bad := []api.Mask{of(1, 0), of(0, 0), of(2, 256)}
	was := slices.Clone(bad)
	mask.Choice(bad, 256)
	mask.Fits(bad, all)
	mask.Most(bad, all)
	if !slices.Equal(bad, was) {
		t.Errorf("of %v came %v", was, bad)
	}
}

// R3: no masks are nil or empty alike.
func TestNoMasks(t *testing.T) {
	for _, l := range [][]api.Mask{nil, {}, repeat(3, of(0, 0))[:0]} {
		for _, free := range sets() {
			chosen(t, asked("Choice of none", free), api.OK)(mask.Choice(l, free))
			count(t, asked("Most of none", free), 0, api.OK)(mask.Most(l, free))
			fits(t, l, free, true)
		}
	}
}

// The chapter's examples.
func TestExamples(t *testing.T) {
	m := of(7, 4)
	found(t, "Best at 1", 2, true)(mask.Best(m, 5, 1))
	found(t, "Best at 0", 0, true)(mask.Best(m, 5, 0))
	chosen(t, "Choice of 0 1 and 0", api.OK, 1, 0)(mask.Choice(row(3, 1), 3))
	chosen(t, "Choice of 0 and 0", api.ErrNone)(mask.Choice(row(1, 1), 3))
	count(t, "Most of 0 and 0", 1, api.OK)(mask.Most(row(1, 1), 3))
	if no := mask.Check(of(0, 1)); no != api.ErrMask {
		t.Errorf("Check of none and 0: %d", no)
	}
	if s := mask.Likes(of(3, 32), 3); s != 3 {
		t.Errorf("Likes of 0 1 and 5: %d", s)
	}
}
