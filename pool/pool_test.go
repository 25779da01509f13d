package pool_test

import (
	"bytes"
	"math"
	"slices"
	"testing"

	"mainsheet/api"
	"mainsheet/pool"
)

// The limits, as the document says them.
const (
	maxCpus  = 8
	maxPools = 4
)

// of are the pools of these sets.
func of(sets ...api.Cpus) api.Pools {
	return api.Pools{Sets: sets}
}

// owners say for each pCPU the pool that it is in: pools, told another way.
type owners []int

// pools is how many pools there are.
func (o owners) pools() int {
	return slices.Max(o) + 1
}

// set are the pCPUs of one pool, by their powers of two.
func (o owners) set(pool int) api.Cpus {
	var sum, power api.Cpus = 0, 1
	for _, owner := range o {
		if owner == pool {
			sum += power
		}
		power *= 2
	}
	return sum
}

// sets are those of all pools.
func (o owners) sets() []api.Cpus {
	var l []api.Cpus
	for pool := range o.pools() {
		l = append(l, o.set(pool))
	}
	return l
}

// made are the pools.
func (o owners) made() api.Pools {
	return of(o.sets()...)
}

// split is what Split makes of them, pCPU by pCPU, or its error.
func (o owners) split(from int, s api.Cpus) (owners, api.Errno) {
	switch {
	case from < 0 || from >= o.pools():
		return nil, api.ErrNone
	case s > 255:
		return nil, api.ErrCpus
	}
	l, taken, left := slices.Clone(o), 0, 0
	for cpu := range maxCpus {
		in, mine := s>>cpu%2 == 1, cpu < len(o) && o[cpu] == from
		switch {
		case in && !mine:
			return nil, api.ErrArg
		case in:
			l[cpu] = o.pools()
			taken++
		case mine:
			left++
		}
	}
	switch {
	case taken == 0:
		return nil, api.ErrArg
	case left == 0:
		return nil, api.ErrLast
	case o.pools() == maxPools:
		return nil, api.ErrFull
	}
	return l, api.OK
}

// join is what Join makes of them, pCPU by pCPU, or its error.
func (o owners) join(pool, into int) (owners, api.Errno) {
	switch {
	case pool < 0 || pool >= o.pools() || into < 0 || into >= o.pools():
		return nil, api.ErrNone
	case pool == into:
		return nil, api.ErrArg
	}
	l := slices.Clone(o)
	for cpu, owner := range o {
		if owner == pool {
			l[cpu] = into
		}
	}
	for cpu, owner := range l {
		if owner > pool {
			l[cpu] = owner - 1
		}
	}
	return l, api.OK
}

// move is what Move makes of them, or its error.
func (o owners) move(cpu, to int) (owners, api.Errno) {
	switch {
	case to < 0 || to >= o.pools():
		return nil, api.ErrNone
	case cpu < 0 || cpu >= len(o):
		return nil, api.ErrArg
	case o[cpu] == to:
		return nil, api.ErrThere
	}
	alone := true
	for other, owner := range o {
		alone = alone && (other == cpu || owner != o[cpu])
	}
	if alone {
		return nil, api.ErrLast
	}
	l := slices.Clone(o)
	l[cpu] = to
	return l, api.OK
}

// parted are all ways in which the first n pCPUs may be parted.
func parted(n int) []owners {
	var l []owners
	for pools := 1; pools <= maxPools; pools++ {
		ways := 1
		for range n {
			ways *= pools
		}
		for way := range ways {
			o, had := make(owners, n), [maxPools]int{}
			for cpu := range o {
				o[cpu] = way % pools
				had[o[cpu]]++
				way /= pools
			}
			if !slices.Contains(had[:pools], 0) {
				l = append(l, o)
			}
		}
	}
	return l
}

// every are all ways to part from 1 to n pCPUs.
func every(n int) []owners {
	var l []owners
	for cpus := range n {
		l = append(l, parted(cpus+1)...)
	}
	return l
}

// some are all ways to part few pCPUs, and some to part many.
func some() []owners {
	l := every(5)
	for i, o := range every(maxCpus) {
		if i%331 == 0 {
			l = append(l, o)
		}
	}
	return l
}

// noSets are some that may not be: with bits that no pCPU has, alone and beside those that may.
func noSets() []api.Cpus {
	var l []api.Cpus
	for _, more := range []api.Cpus{256, 512, 1 << 15, 1 << 31, math.MaxUint32 &^ 255} {
		for _, s := range []api.Cpus{0, 1, 2, 15, 170, 255} {
			l = append(l, s|more)
		}
	}
	return l
}

// noPools are some that may not be.
func noPools() []api.Pools {
	l := []api.Pools{
		{}, {Sets: []api.Cpus{}}, {Sets: make([]api.Cpus, 0, 4)}, // none
		of(1, 2, 4, 8, 16), of(3, 12, 48, 64, 128), of(1, 2, 4, 8, 16, 32, 64, 128), of(1, 2, 4, 8, 0), of(15, 15, 15, 15, 15), of(1, 2, 4, 8, 256), // too many
		of(0), of(0, 0), of(0, 1), of(1, 0), of(0, 15), of(15, 0), of(255, 0), of(0, 255), of(1, 0, 2), of(1, 2, 0), of(0, 1, 2), of(0, 1, 2, 4), of(1, 2, 4, 0), of(1, 0, 2, 4), of(0, 0, 0, 0), // an empty one
		of(1, 1), of(3, 3), of(15, 15), of(255, 255), of(3, 2), of(2, 3), of(3, 6), of(3, 5), of(15, 8), of(127, 192), of(255, 1), of(1, 255), of(1, 2, 1), of(1, 2, 2), of(1, 2, 4, 1), of(1, 2, 4, 12), of(3, 4, 8, 2), of(1, 1, 1, 1), // one in common
		of(1, 1, 1), of(3, 3, 1), of(3, 1, 1), of(7, 7, 7), of(5, 5, 5), of(1, 1, 2, 4), of(127, 64, 64), // one in common, though the values add up to those of first ones, or what is in an odd number of them is
		of(2), of(4), of(5), of(6), of(13), of(14), of(11), of(128), of(129), of(254), of(127, 0), of(247), of(191), of(2, 4), of(1, 4), of(4, 1), of(2, 8), of(3, 8), of(1, 2, 8), of(2, 4, 8), of(1, 2, 4, 16), of(1, 2, 4, 128), of(126, 128), of(2, 4, 8, 240), // a gap
		of(256), of(257), of(511), of(math.MaxUint32), of(1<<31 + 1), of(1, 256), of(256, 1), of(1, 258), of(257, 2), of(255, 256), of(255, 512), of(256, 255), of(255, 1<<31), of(15, 240, 256), of(15, 240, 1<<31), of(1, 2, 4, 256), of(1, 2, 4, 264), of(257, 2, 4, 8), of(1, 2, 4|1<<31, 8), of(257, 258), of(257, 256), // a bit that no pCPU has
	}
	for _, n := range []int{5, 8, 255, 256, 257, 100000} {
		l = append(l, of(make([]api.Cpus, n)...), of(slices.Repeat([]api.Cpus{1}, n)...), of(append(make([]api.Cpus, n-1), 1)...), of(append([]api.Cpus{255}, make([]api.Cpus, n-1)...)...))
	}
	return l
}

// numbers are those of pCPUs and of pools, those just beyond, and very great and very small ones, by which a shift would go round, or fail.
func numbers() []int {
	l := []int{math.MinInt, math.MinInt + 1, -1 << 32, -257, -256, -64, -32, -8, -4, -2, -1, 31, 32, 33, 63, 64, 255, 256, 1 << 31, 1 << 32, 1<<32 + 1, 1 << 62, math.MaxInt}
	for n := range maxCpus + 2 {
		l = append(l, n)
	}
	return l
}

// chance tells numbers below n by a short rule, the same whenever it is asked anew.
func chance() func(n int) int {
	x := uint64(5)
	return func(n int) int {
		x = x*6364136223846793005 + 1442695040888963407
		return int(x >> 33 % uint64(n))
	}
}

// differ tells whether the answer is another one than those sets with that error.
func differ(got api.Pools, no api.Errno, want []api.Cpus, wantNo api.Errno) bool {
	return !slices.Equal(got.Sets, want) || no != wantNo
}

// splits asks Split for an error, or for the sets of pools, the last of which is the new one.
func splits(t *testing.T, p api.Pools, from int, s api.Cpus, wantNo api.Errno, want ...api.Cpus) {
	t.Helper()
	got, n, no := pool.Split(p, from, s)
	if differ(got, no, want, wantNo) || n != max(len(want)-1, 0) {
		t.Errorf("Split(%v, %d, %d): %v, %d, %d; want %v, %d", p, from, s, got, n, no, want, wantNo)
	}
}

// joins asks Join for an error, or for the sets of pools.
func joins(t *testing.T, p api.Pools, from, into int, wantNo api.Errno, want ...api.Cpus) {
	t.Helper()
	if got, no := pool.Join(p, from, into); differ(got, no, want, wantNo) {
		t.Errorf("Join(%v, %d, %d): %v, %d; want %v, %d", p, from, into, got, no, want, wantNo)
	}
}

// moves asks Move for an error, or for the sets of pools, and the pool in which it was.
func moves(t *testing.T, p api.Pools, cpu, to int, wantNo api.Errno, was int, want ...api.Cpus) {
	t.Helper()
	if got, from, no := pool.Move(p, cpu, to); differ(got, no, want, wantNo) || from != was {
		t.Errorf("Move(%v, %d, %d): %v, %d, %d; want %v, %d, %d", p, cpu, to, got, from, no, want, was, wantNo)
	}
}

// isIn asks Of for a pool, and whether there is one.
func isIn(t *testing.T, p api.Pools, cpu, want int, wantThere bool) {
	t.Helper()
	if n, there := pool.Of(p, cpu); n != want || there != wantThere {
		t.Errorf("Of(%v, %d): %d, %v; want %d, %v", p, cpu, n, there, want, wantThere)
	}
}

// has asks Set for a set.
func has(t *testing.T, p api.Pools, n int, want api.Cpus) {
	t.Helper()
	if s := pool.Set(p, n); s != want {
		t.Errorf("Set(%v, %d): %d; want %d", p, n, s, want)
	}
}

// checks asks Check.
func checks(t *testing.T, p api.Pools, want api.Errno) {
	t.Helper()
	if no := pool.Check(p); no != want {
		t.Errorf("Check(%v): %d; want %d", p, no, want)
	}
}

// encodes asks Encode for an error, or for bytes.
func encodes(t *testing.T, p api.Pools, wantNo api.Errno, want ...byte) {
	t.Helper()
	if b, no := pool.Encode(p); !bytes.Equal(b, want) || no != wantNo {
		t.Errorf("Encode(%v): %v, %d; want %v, %d", p, b, no, want, wantNo)
	}
}

// decodes asks Decode for an error, or for the sets of pools.
func decodes(t *testing.T, b []byte, wantNo api.Errno, want ...api.Cpus) {
	t.Helper()
	if got, no := pool.Decode(b); differ(got, no, want, wantNo) {
		t.Errorf("Decode(%v): %v, %d; want %v, %d", b, got, no, want, wantNo)
	}
}

// may tells whether there may be pools of these sets, as the chapter tells it: it counts for each bit how many have it.
func may(sets []api.Cpus) bool {
	if len(sets) < 1 || len(sets) > maxPools {
		return false
	}
	var had [32]int
	for _, s := range sets {
		for bit := range had {
			had[bit] += int(s >> bit % 2)
		}
	}
	cpus := 0
	for cpus < maxCpus && had[cpus] == 1 {
		cpus++
	}
	return !slices.Contains(sets, 0) && had == [32]int(append(slices.Repeat([]int{1}, cpus), make([]int, 32-cpus)...))
}

// P8.1: all ways to part pCPUs; no pools, one, MaxPools, one more, and very many; empty sets, sets with a pCPU in common, gaps, bits that no pCPU has.
func TestCheck(t *testing.T) {
	for _, o := range every(maxCpus) {
		checks(t, o.made(), api.OK)
	}
	for _, p := range []api.Pools{of(1), of(3), of(127), of(255), of(1, 2), of(2, 1), of(5, 2), of(170, 85), of(128, 127), of(1, 254), of(4, 2, 1), of(8, 7), of(1, 2, 4, 8), of(8, 4, 2, 1), of(16, 2, 8, 5), of(3, 12, 48, 192), of(240, 1, 12, 2)} {
		checks(t, p, api.OK)
	}
	for _, p := range noPools() {
		checks(t, p, api.ErrPools)
	}
}

// P8.1: all rows of up to five of the sets of four pCPUs, the empty one among them.
func TestCheckOfAllShortRows(t *testing.T) {
	rows := [][]api.Cpus{{}}
	for range maxPools + 1 {
		var longer [][]api.Cpus
		for _, row := range rows {
			for s := range api.Cpus(16) {
				more := append(slices.Clone(row), s)
				want := api.ErrPools
				if may(more) {
					want = api.OK
				}
				checks(t, of(more...), want)
				if len(more) <= maxPools {
					longer = append(longer, more)
				}
			}
		}
		rows = longer
	}
}

// P8.1: all pairs of sets, those with one bit too many among them; and each bit in each place of rows that may be.
func TestCheckOfAllPairs(t *testing.T) {
	for one := range api.Cpus(512) {
		for other := range api.Cpus(512) {
			want := api.ErrPools
			if may([]api.Cpus{one, other}) {
				want = api.OK
			}
			checks(t, of(one, other), want)
		}
	}
	for _, o := range some() {
		for place := range o.pools() {
			for bit := range 32 {
				sets := o.sets()
				sets[place] ^= 1 << bit
				want := api.ErrPools
				if may(sets) {
					want = api.OK
				}
				checks(t, of(sets...), want)
			}
		}
	}
}

// P8.1: from one pCPU to all that there may be; none, fewer than none, one more, very many.
func TestNew(t *testing.T) {
	want := []api.Cpus{1, 3, 7, 15, 31, 63, 127, 255}
	for i, s := range want {
		p, no := pool.New(i + 1)
		if differ(p, no, []api.Cpus{s}, api.OK) {
			t.Errorf("New(%d): %v, %d; want %d", i+1, p, no, s)
		}
		checks(t, p, api.OK)
	}
	for _, n := range append(numbers(), 9, 10, 16, 24, 1<<32+8, math.MinInt+8) {
		if p, no := pool.New(n); (n < 1 || n > 8) && differ(p, no, nil, api.ErrArg) {
			t.Errorf("New(%d): %v, %d; want nothing, ErrArg", n, p, no)
		}
	}
}

// P8.1: pools that differ in how many there are, in one set, in their order; nil and empty ones; pools that may not be.
func TestSame(t *testing.T) {
	for _, c := range []struct {
		a, b api.Pools
		want bool
	}{
		{of(1), of(1), true},
		{of(15), of(15), true},
		{of(15), of(7), false},
		{of(1, 2), of(1, 2), true},
		{of(1, 2), of(2, 1), false},
		{of(3), of(1, 2), false},
		{of(1, 2), of(1), false},
		{of(1, 2), of(1, 2, 4), false},
		{of(1, 2, 4, 8), of(1, 2, 4, 8), true},
		{of(1, 2, 4, 8), of(1, 2, 8, 4), false},
		{of(1, 2, 4, 8), of(1, 2, 4, 24), false},
		{of(17, 2, 4, 8), of(1, 2, 4, 24), false},
		{of(3, 12), of(12, 3), false},
		{of(), api.Pools{Sets: []api.Cpus{}}, true},
		{of(), of(1), false},
		{of(), of(0), false},
		{of(0), of(0), true},
		{of(0), of(0, 0), false},
		{of(1), of(257), false},
		{of(257), of(257), true},
		{of(1, 1), of(1, 1), true},
		{of(1, 1), of(1), false},
		{of(4), of(4), true},
		{of(1, 2, 4, 8, 16), of(1, 2, 4, 8, 16), true},
		{of(1, 2, 4, 8, 16), of(1, 2, 4, 8, 32), false},
		{of(1, 2, 4, 8, 16), of(1, 2, 4, 8), false},
	} {
		for _, same := range []bool{pool.Same(c.a, c.b), pool.Same(c.b, c.a)} {
			if same != c.want {
				t.Errorf("Same of %v and %v: %v; want %v", c.a, c.b, same, c.want)
			}
		}
	}
	l := every(4)
	for _, a := range l {
		for _, b := range l {
			if same := pool.Same(a.made(), b.made()); same != slices.Equal(a, b) {
				t.Errorf("Same of %v and %v: %v", a.made(), b.made(), same)
			}
		}
	}
}

// P8.2: all ways to part pCPUs; each pCPU, each pool.
func TestCpusOfAndSet(t *testing.T) {
	for _, o := range every(maxCpus) {
		p := o.made()
		if s := pool.Cpus(p); s != 1<<len(o)-1 {
			t.Errorf("Cpus(%v): %d; want the first %d", p, s, len(o))
		}
		for cpu, owner := range o {
			isIn(t, p, cpu, owner, true)
		}
		for n := range o.pools() {
			has(t, p, n, o.set(n))
		}
	}
}

// P8.2: pCPUs and pools that there are none of: one less than the first, one more than the last, very great and very small numbers.
func TestCpusAndPoolsThatAreNone(t *testing.T) {
	for _, o := range some() {
		p := o.made()
		for _, n := range append(numbers(), len(o), o.pools()) {
			if n < 0 || n >= len(o) {
				isIn(t, p, n, 0, false)
			}
			if n < 0 || n >= o.pools() {
				has(t, p, n, 0)
			}
		}
	}
}

// P8.2: known pools.
func TestKnownSets(t *testing.T) {
	p := of(5, 8, 2)
	if s := pool.Cpus(p); s != 15 {
		t.Errorf("Cpus(%v): %d; want 15", p, s)
	}
	for cpu, n := range []int{0, 2, 0, 1} {
		isIn(t, p, cpu, n, true)
	}
	isIn(t, p, 4, 0, false)
	isIn(t, p, -1, 0, false)
	isIn(t, p, 8, 0, false)
	for n, s := range []api.Cpus{5, 8, 2, 0} {
		has(t, p, n, s)
	}
	has(t, p, -1, 0)
}

// P8.2: of what may not be there is nothing, though some of its sets have pCPUs.
func TestSetsOfWhatMayNotBe(t *testing.T) {
	for _, p := range noPools() {
		if s := pool.Cpus(p); s != 0 {
			t.Errorf("Cpus(%v): %d; want none", p, s)
		}
		for _, n := range numbers() {
			isIn(t, p, n, 0, false)
			has(t, p, n, 0)
		}
	}
}

// P8.3: some of a pool's, from each place, up to MaxPools pools; written out by hand.
func TestKnownSplits(t *testing.T) {
	splits(t, of(15), 0, 12, api.OK, 3, 12)
	splits(t, of(15), 0, 3, api.OK, 12, 3)
	splits(t, of(15), 0, 1, api.OK, 14, 1)
	splits(t, of(15), 0, 14, api.OK, 1, 14)
	splits(t, of(255), 0, 170, api.OK, 85, 170)
	splits(t, of(255), 0, 128, api.OK, 127, 128)
	splits(t, of(3, 12), 0, 1, api.OK, 2, 12, 1)
	splits(t, of(3, 12), 1, 8, api.OK, 3, 4, 8)
	splits(t, of(3, 12), 1, 4, api.OK, 3, 8, 4)
	splits(t, of(3, 12, 240), 0, 2, api.OK, 1, 12, 240, 2)
	splits(t, of(3, 12, 240), 1, 4, api.OK, 3, 8, 240, 4)
	splits(t, of(3, 12, 240), 2, 96, api.OK, 3, 12, 144, 96)
}

// P8.3: each error of Split by itself, and ahead of those that come behind it.
func TestSplitRefuses(t *testing.T) {
	for _, c := range []struct {
		p    api.Pools
		from int
		s    api.Cpus
		want api.Errno
	}{
		{of(15), -1, 4, api.ErrNone}, // no pool of that number
		{of(15), 1, 4, api.ErrNone},
		{of(3, 12), 2, 4, api.ErrNone},
		{of(3, 12), -1, 4, api.ErrNone},
		{of(1, 2, 4, 8), 4, 1, api.ErrNone},
		{of(15), 1, 256, api.ErrNone}, // and no set
		{of(15), -1, math.MaxUint32, api.ErrNone},
		{of(15), 1, 0, api.ErrNone},      // and empty
		{of(3, 12), 2, 15, api.ErrNone},  // and all pCPUs
		{of(1, 6, 8), 3, 6, api.ErrNone}, // and another pool's
		{of(1, 2, 4, 24), 4, 0, api.ErrNone},
		{of(1, 2, 4, 24), 4, 8, api.ErrNone}, // and MaxPools pools
		{of(15), 0, 256, api.ErrCpus},        // no set
		{of(15), 0, 260, api.ErrCpus},        // some of it, besides
		{of(15), 0, 271, api.ErrCpus},        // all of it, besides
		{of(3, 12), 1, 1 << 31, api.ErrCpus},
		{of(3, 12), 1, 1<<31 + 1, api.ErrCpus},
		{of(1, 2, 4, 24), 3, 264, api.ErrCpus}, // and MaxPools pools
		{of(1, 2, 4, 8), 3, 264, api.ErrCpus},
		{of(15), 0, 0, api.ErrArg}, // empty
		{of(1), 0, 0, api.ErrArg},
		{of(3, 12), 1, 0, api.ErrArg},
		{of(15), 0, 16, api.ErrArg}, // none of it
		{of(15), 0, 31, api.ErrArg}, // all of it, and more
		{of(15), 0, 255, api.ErrArg},
		{of(15), 0, 17, api.ErrArg}, // some of it, and more
		{of(3, 12), 0, 4, api.ErrArg},
		{of(3, 12), 1, 3, api.ErrArg},
		{of(3, 12), 1, 6, api.ErrArg},
		{of(3, 12), 1, 15, api.ErrArg},
		{of(1, 2, 4, 24), 3, 0, api.ErrArg}, // and MaxPools pools
		{of(1, 2, 4, 24), 3, 1, api.ErrArg},
		{of(1, 2, 4, 24), 3, 25, api.ErrArg},
		{of(1, 2, 4, 24), 0, 8, api.ErrArg},
		{of(15), 0, 15, api.ErrLast}, // all of it
		{of(1), 0, 1, api.ErrLast},
		{of(255), 0, 255, api.ErrLast},
		{of(3, 12), 0, 3, api.ErrLast},
		{of(3, 12), 1, 12, api.ErrLast},
		{of(1, 2, 4, 24), 3, 24, api.ErrLast}, // and MaxPools pools
		{of(1, 2, 4, 24), 0, 1, api.ErrLast},
		{of(1, 2, 4, 24), 3, 8, api.ErrFull}, // MaxPools pools
		{of(1, 2, 4, 24), 3, 16, api.ErrFull},
		{of(3, 12, 48, 192), 0, 1, api.ErrFull},
		{of(3, 12, 48, 192), 2, 32, api.ErrFull},
	} {
		splits(t, c.p, c.from, c.s, c.want)
	}
}

// P8.3: each set of the pCPUs, taken from each pool, of all ways to part few pCPUs and of some to part many; sets that may not be, and numbers that no pool has.
func TestSplit(t *testing.T) {
	more := append(noSets(), math.MaxUint32)
	for _, o := range some() {
		p := o.made()
		for _, from := range []int{math.MinInt, -1, 0, 1, 2, 3, 4, math.MaxInt} {
			for i := range 256 + len(more) {
				s := api.Cpus(i)
				if i > 255 {
					s = more[i-256]
				}
				after, no := o.split(from, s)
				if no != api.OK {
					splits(t, p, from, s, no)
					continue
				}
				splits(t, p, from, s, api.OK, after.sets()...)
			}
		}
	}
}

// P8.3: the first into the last, the last into the first, neighbours, and the numbers behind; written out by hand.
func TestKnownJoins(t *testing.T) {
	joins(t, of(3, 12), 0, 1, api.OK, 15)
	joins(t, of(3, 12), 1, 0, api.OK, 15)
	p := of(1, 6, 8, 48)
	joins(t, p, 0, 3, api.OK, 6, 8, 49)
	joins(t, p, 3, 0, api.OK, 49, 6, 8)
	joins(t, p, 0, 1, api.OK, 7, 8, 48)
	joins(t, p, 1, 0, api.OK, 7, 8, 48)
	joins(t, p, 1, 2, api.OK, 1, 14, 48)
	joins(t, p, 2, 1, api.OK, 1, 14, 48)
	joins(t, p, 1, 3, api.OK, 1, 8, 54)
	joins(t, p, 3, 1, api.OK, 1, 54, 8)
	joins(t, p, 2, 3, api.OK, 1, 6, 56)
	joins(t, p, 3, 2, api.OK, 1, 6, 56)
	joins(t, of(128, 64, 63), 2, 0, api.OK, 191, 64)
}

// P8.3: each error of Join by itself; a pool that there is not, though both numbers are the same.
func TestJoinRefuses(t *testing.T) {
	for _, n := range []int{math.MinInt, -2, -1, 2, 3, 4, 1 << 32, math.MaxInt} {
		joins(t, of(3, 12), n, 0, api.ErrNone)
		joins(t, of(3, 12), n, 1, api.ErrNone)
		joins(t, of(3, 12), 0, n, api.ErrNone)
		joins(t, of(3, 12), 1, n, api.ErrNone)
		joins(t, of(3, 12), n, n, api.ErrNone)
	}
	joins(t, of(1), 0, 0, api.ErrArg)
	joins(t, of(1), 1, 1, api.ErrNone)
	joins(t, of(1), 0, 1, api.ErrNone)
	joins(t, of(1), 1, 0, api.ErrNone)
	joins(t, of(3, 12), 0, 0, api.ErrArg)
	joins(t, of(3, 12), 1, 1, api.ErrArg)
	joins(t, of(1, 2, 4, 8), 3, 3, api.ErrArg)
	joins(t, of(1, 2, 4, 8), 4, 4, api.ErrNone)
}

// P8.3: each pool into each, of all ways to part pCPUs.
func TestJoin(t *testing.T) {
	for _, o := range every(maxCpus) {
		p := o.made()
		for from := -1; from <= maxPools; from++ {
			for into := -1; into <= maxPools; into++ {
				after, no := o.join(from, into)
				if no != api.OK {
					joins(t, p, from, into, no)
					continue
				}
				joins(t, p, from, into, api.OK, after.sets()...)
			}
		}
	}
}

// P8.3: pCPUs that are moved up and down, written out by hand.
func TestKnownMoves(t *testing.T) {
	moves(t, of(3, 12), 2, 0, api.OK, 1, 7, 8)
	moves(t, of(3, 12), 3, 0, api.OK, 1, 11, 4)
	moves(t, of(3, 12), 0, 1, api.OK, 0, 2, 13)
	moves(t, of(3, 12), 1, 1, api.OK, 0, 1, 14)
	moves(t, of(1, 6, 248), 2, 0, api.OK, 1, 5, 2, 248)
	moves(t, of(1, 6, 248), 7, 0, api.OK, 2, 129, 6, 120)
	moves(t, of(1, 6, 248), 7, 1, api.OK, 2, 1, 134, 120)
	moves(t, of(1, 6, 248), 1, 2, api.OK, 1, 1, 4, 250)
	moves(t, of(1, 2, 4, 24), 4, 0, api.OK, 3, 17, 2, 4, 8)
	moves(t, of(25, 2, 4, 32), 0, 3, api.OK, 0, 24, 2, 4, 33)
}

// P8.3: each error of Move by itself, and ahead of those that come behind it.
func TestMoveRefuses(t *testing.T) {
	for _, c := range []struct {
		p       api.Pools
		cpu, to int
		want    api.Errno
	}{
		{of(3, 12), 2, -1, api.ErrNone}, // no pool of that number
		{of(3, 12), 2, 2, api.ErrNone},
		{of(3, 12), 2, math.MaxInt, api.ErrNone},
		{of(3, 12), 2, math.MinInt, api.ErrNone},
		{of(3, 12), 4, 2, api.ErrNone}, // and no pCPU
		{of(3, 12), -1, -1, api.ErrNone},
		{of(3, 12), math.MaxInt, math.MaxInt, api.ErrNone},
		{of(1, 2), 1, 2, api.ErrNone}, // and its pool's last one
		{of(1), 0, 1, api.ErrNone},
		{of(1, 2, 4, 8), 3, 4, api.ErrNone},
		{of(3, 12), 4, 0, api.ErrArg}, // in no pool
		{of(3, 12), 4, 1, api.ErrArg},
		{of(3, 12), -1, 0, api.ErrArg},
		{of(3, 12), -1, 1, api.ErrArg},
		{of(3, 12), 8, 0, api.ErrArg},
		{of(3, 12), 34, 0, api.ErrArg},
		{of(3, 12), math.MaxInt, 0, api.ErrArg},
		{of(3, 12), math.MinInt, 0, api.ErrArg},
		{of(1), 1, 0, api.ErrArg},
		{of(1), -1, 0, api.ErrArg},
		{of(255), 8, 0, api.ErrArg},
		{of(127, 128), 8, 1, api.ErrArg},
		{of(3, 12), 0, 0, api.ErrThere}, // where it is
		{of(3, 12), 1, 0, api.ErrThere},
		{of(3, 12), 2, 1, api.ErrThere},
		{of(15), 3, 0, api.ErrThere},
		{of(1), 0, 0, api.ErrThere}, // and its pool's last one
		{of(7, 8), 3, 1, api.ErrThere},
		{of(1, 2, 4, 8), 2, 2, api.ErrThere},
		{of(7, 8), 3, 0, api.ErrLast}, // its pool's last one
		{of(1, 2), 0, 1, api.ErrLast},
		{of(1, 2), 1, 0, api.ErrLast},
		{of(1, 254), 0, 1, api.ErrLast},
		{of(127, 128), 7, 0, api.ErrLast},
		{of(1, 2, 4, 8), 0, 3, api.ErrLast},
		{of(1, 2, 4, 8), 3, 0, api.ErrLast},
	} {
		moves(t, c.p, c.cpu, c.to, c.want, 0)
	}
}

// P8.3: each pCPU to each pool, of all ways to part pCPUs; and very great and very small numbers of both.
func TestMove(t *testing.T) {
	asks := func(o owners, p api.Pools, cpu, to int) {
		after, no := o.move(cpu, to)
		if no != api.OK {
			moves(t, p, cpu, to, no, 0)
			return
		}
		moves(t, p, cpu, to, api.OK, o[cpu], after.sets()...)
	}
	for _, o := range every(maxCpus) {
		p := o.made()
		for cpu := -1; cpu <= maxCpus; cpu++ {
			for to := -1; to <= maxPools; to++ {
				asks(o, p, cpu, to)
			}
		}
	}
	for _, o := range every(4) {
		for _, cpu := range numbers() {
			for _, to := range numbers() {
				asks(o, o.made(), cpu, to)
			}
		}
	}
}

// P8.3: what may not be is refused ahead of all else: of a pool that there is not, a set that may not be, or a pCPU in no pool, and of those that would do.
func TestChangesOfWhatMayNotBe(t *testing.T) {
	for _, p := range noPools() {
		for _, a := range numbers() {
			for _, s := range []api.Cpus{0, 1, 2, 4, 15, 255, 256, math.MaxUint32} {
				splits(t, p, a, s, api.ErrPools)
			}
			for _, b := range []int{math.MinInt, -1, 0, 1, 2, 3, 4, 8, math.MaxInt} {
				joins(t, p, a, b, api.ErrPools)
				moves(t, p, a, b, api.ErrPools, 0)
			}
		}
	}
}

// P8.4: one pool, MaxPools, all ways to part pCPUs: how many, then each set.
func TestEncode(t *testing.T) {
	encodes(t, of(1), api.OK, 1, 1)
	encodes(t, of(255), api.OK, 1, 255)
	encodes(t, of(3, 12), api.OK, 2, 3, 12)
	encodes(t, of(12, 3), api.OK, 2, 12, 3)
	encodes(t, of(1, 2, 4, 8), api.OK, 4, 1, 2, 4, 8)
	encodes(t, of(128, 31, 64, 32), api.OK, 4, 128, 31, 64, 32)
	for _, o := range every(maxCpus) {
		want := []byte{byte(o.pools())}
		for _, s := range o.sets() {
			want = append(want, byte(s))
		}
		encodes(t, o.made(), api.OK, want...)
		decodes(t, want, api.OK, o.sets()...)
	}
	for _, p := range noPools() {
		encodes(t, p, api.ErrPools)
	}
}

// P8.4: bytes that end at each place, no bytes, and bytes behind the end.
func TestDecodeOfOtherLengths(t *testing.T) {
	decodes(t, nil, api.ErrShort)
	decodes(t, []byte{}, api.ErrShort)
	for _, o := range some() {
		b, _ := pool.Encode(o.made())
		for end := range b {
			decodes(t, b[:end], api.ErrShort)
		}
		for _, more := range [][]byte{{0}, {1}, {255}, {0, 0}, {1, 1}, {16, 32, 64}, b, make([]byte, 100000)} {
			decodes(t, append(slices.Clone(b), more...), api.ErrPools)
		}
	}
}

// P8.4: each number of pools that bytes may begin with, and each length: too short ahead of all that may not be; then none, and too many.
func TestDecodeOfEachNumber(t *testing.T) {
	for n := range 256 {
		for length := 1; length <= n+4; length++ {
			b := make([]byte, length)
			b[0] = byte(n)
			for place := range b[1:] {
				b[1+place] = 1 << (place % 8)
			}
			switch {
			case length < 1+n:
				decodes(t, b, api.ErrShort)
			case length > 1+n, n < 1, n > 4:
				decodes(t, b, api.ErrPools)
			default:
				decodes(t, b, api.OK, []api.Cpus{1, 2, 4, 8}[:n]...)
			}
		}
	}
	for _, b := range [][]byte{{1}, {2, 1}, {2, 0}, {2, 4}, {3, 1, 1}, {4, 1, 2, 4}, {5}, {5, 1, 2, 4, 8}, {5, 0, 0}, {255}, {255, 255}} {
		decodes(t, b, api.ErrShort)
	}
	for _, b := range [][]byte{{0}, {0, 0}, {0, 1}, {0, 255, 0}, {1, 0}, {1, 2}, {1, 1, 2}, {2, 1, 1}, {2, 1, 0}, {2, 0, 1}, {2, 1, 4}, {2, 3, 2}, {3, 1, 2, 3}, {3, 1, 2, 8}, {4, 1, 2, 4, 12}, {4, 1, 2, 4, 0}, {5, 1, 2, 4, 8, 16}, {5, 0, 0, 0, 0, 0}} {
		decodes(t, b, api.ErrPools)
	}
}

// P8.4: each byte for one pool's set, for two pools' sets, and some for three and four.
func TestDecodeOfEachSet(t *testing.T) {
	asks := func(sets ...byte) {
		var want []api.Cpus
		for _, s := range sets {
			want = append(want, api.Cpus(s))
		}
		b := append([]byte{byte(len(sets))}, sets...)
		if may(want) {
			decodes(t, b, api.OK, want...)
			return
		}
		decodes(t, b, api.ErrPools)
	}
	for one := range 256 {
		asks(byte(one))
		for other := range 256 {
			asks(byte(one), byte(other))
			if one < 32 && other < 32 {
				for third := range byte(32) {
					asks(byte(one), byte(other), third)
					asks(byte(one), byte(other), third, byte(31&^one&^other)&^third)
					asks(byte(one), 32, byte(other), third)
				}
			}
		}
	}
}

// keeps asks of pools that came of others: they may be, have the same pCPUs, each of them in one pool, and none of them is empty.
func keeps(t *testing.T, where string, before, after api.Pools) {
	t.Helper()
	checks(t, after, api.OK)
	if pool.Cpus(after) != pool.Cpus(before) {
		t.Errorf("%s: %v came of %v", where, after, before)
	}
	for cpu := range maxCpus {
		in := 0
		for n := range after.Sets {
			if pool.Set(after, n)>>cpu%2 == 1 {
				in++
				isIn(t, after, cpu, n, true)
			}
		}
		if want := int(pool.Cpus(before) >> cpu % 2); in != want {
			t.Errorf("%s: of %v came %v, where %d is in %d pools", where, before, after, cpu, in)
		}
	}
	for n := range after.Sets {
		if pool.Set(after, n) == 0 {
			t.Errorf("%s: of %v came %v, where %d is empty", where, before, after, n)
		}
	}
}

// P8.5: what is split and joined again leads back; what comes in between are pools of the same pCPUs.
func TestSplitAndJoinLeadBack(t *testing.T) {
	for _, o := range some() {
		p := o.made()
		for from := range p.Sets {
			for s := range api.Cpus(256) {
				q, n, no := pool.Split(p, from, s)
				if no != api.OK {
					continue
				}
				keeps(t, "Split", p, q)
				has(t, q, n, s)
				joins(t, q, n, from, api.OK, p.Sets...)
			}
		}
		for from := range p.Sets {
			for into := range p.Sets {
				if q, no := pool.Join(p, from, into); no == api.OK {
					keeps(t, "Join", p, q)
				}
			}
		}
	}
}

// P8.5: what is moved, and moved to where it was, leads back.
func TestMovesLeadBack(t *testing.T) {
	for _, o := range some() {
		p := o.made()
		for cpu := range o {
			for to := range p.Sets {
				q, was, no := pool.Move(p, cpu, to)
				if no != api.OK {
					continue
				}
				keeps(t, "Move", p, q)
				isIn(t, q, cpu, to, true)
				moves(t, q, cpu, was, api.OK, to, p.Sets...)
			}
		}
	}
}

// P8.5: long rows of changes, from one pool on: each pCPU stays in one pool, none of which is ever empty, whatever is asked.
func TestLongRowsOfChanges(t *testing.T) {
	next := chance()
	for n := 1; n <= maxCpus; n++ {
		first, _ := pool.New(n)
		p, o := first, make(owners, n)
		for range 3000 {
			var q api.Pools
			var no, wantNo api.Errno
			var want owners
			a, b, s := next(6)-1, next(6)-1, api.Cpus(next(1<<n))
			cpu := next(n+2) - 1
			switch next(3) {
			case 0:
				q, _, no = pool.Split(p, a, s)
				want, wantNo = o.split(a, s)
			case 1:
				q, no = pool.Join(p, a, b)
				want, wantNo = o.join(a, b)
			default:
				q, _, no = pool.Move(p, cpu, b)
				want, wantNo = o.move(cpu, b)
			}
			if no != wantNo || no == api.OK && !slices.Equal(q.Sets, want.sets()) {
				t.Fatalf("of %v came %v, %d; want %v, %d", p, q, no, want, wantNo)
			}
			if no == api.OK {
				keeps(t, "a row of changes", first, q)
				p, o = q, want
			}
		}
	}
}

// P8.5: Decode of Encode are the pools, Encode of Decode the bytes.
func TestBytesLeadBack(t *testing.T) {
	for _, o := range every(maxCpus) {
		p := o.made()
		b, no := pool.Encode(p)
		if no != api.OK {
			t.Errorf("Encode(%v): %d", p, no)
		}
		if back, no := pool.Decode(b); no != api.OK || !pool.Same(p, back) {
			t.Errorf("Decode of Encode(%v): %v, %d", p, back, no)
		}
	}
	next, held := chance(), 0
	for range 400000 {
		b := make([]byte, 1+next(6))
		b[0] = byte(len(b) - 1)
		for place := range b[1:] {
			b[1+place] = byte(1 + next(7))
		}
		if p, no := pool.Decode(b); no == api.OK {
			held++
			encodes(t, p, api.OK, b...)
		}
	}
	if held < 1000 {
		t.Errorf("only %d rows of bytes were those of pools", held)
	}
}

// R3: no call changes what it is handed, nor what stands behind its end.
func TestNothingIsChanged(t *testing.T) {
	l := noPools()
	for _, o := range some() {
		l = append(l, o.made())
	}
	for _, p := range l {
		room := append(slices.Clone(p.Sets), 77, 78, 1<<31)
		was := slices.Clone(room)
		h := api.Pools{Sets: room[:len(p.Sets)]}
		pool.Check(h)
		pool.Cpus(h)
		pool.Encode(h)
		pool.Same(h, h)
		for a := -1; a <= 4; a++ {
			pool.Set(h, a)
			for b := -1; b <= 8; b++ {
				pool.Of(h, b)
				pool.Join(h, a, b)
				pool.Move(h, b, a)
				pool.Split(h, a, 1<<max(b, 0))
			}
		}
		if !slices.Equal(room, was) {
			t.Errorf("%v was changed to %v", was, room)
		}
	}
	for _, b := range [][]byte{{}, {0}, {1, 1}, {2, 3, 12}, {2, 3}, {1, 0}, {5, 1, 2, 4, 8, 16}} {
		room := append(slices.Clone(b), 1, 2, 3)
		was := slices.Clone(room)
		pool.Decode(room[:len(b)])
		if !bytes.Equal(room, was) {
			t.Errorf("%v was changed to %v", was, room)
		}
	}
}

// R3: what stands behind the end of what is handed in does not count.
func TestWhatStandsBehindDoesNotCount(t *testing.T) {
	h := api.Pools{Sets: []api.Cpus{3, 4, 1, 256, 0}[:2]}
	checks(t, h, api.OK)
	if s := pool.Cpus(h); s != 7 {
		t.Errorf("Cpus with some behind: %d; want 7", s)
	}
	has(t, h, 2, 0)
	splits(t, h, 0, 2, api.OK, 1, 4, 2)
	joins(t, h, 1, 0, api.OK, 7)
	joins(t, h, 0, 2, api.ErrNone)
	moves(t, h, 0, 1, api.OK, 0, 2, 5)
	encodes(t, h, api.OK, 2, 3, 4)
	decodes(t, []byte{1, 3, 12, 1}[:2], api.OK, 3)
	decodes(t, []byte{2, 3, 12, 1}[:2], api.ErrShort)
}

// R3: what is answered is new memory: it is nobody else's, neither another answer's nor what was handed in.
func TestAnswersAreNewMemory(t *testing.T) {
	room := []api.Cpus{3, 12, 48, 99, 98}
	p, b := api.Pools{Sets: room[:3]}, []byte{3, 3, 12, 48}
	for where, ask := range map[string]func() api.Pools{
		"New":    func() api.Pools { q, _ := pool.New(6); return q },
		"Split":  func() api.Pools { q, _, _ := pool.Split(p, 0, 1); return q },
		"Join":   func() api.Pools { q, _ := pool.Join(p, 2, 1); return q },
		"Move":   func() api.Pools { q, _, _ := pool.Move(p, 0, 1); return q },
		"Decode": func() api.Pools { q, _ := pool.Decode(b); return q },
	} {
		one, other := ask(), ask()
		was := slices.Clone(other.Sets)
		clear(one.Sets[:cap(one.Sets)])
		if again := ask(); !slices.Equal(other.Sets, was) || !slices.Equal(again.Sets, was) || len(was) == 0 {
			t.Errorf("%s: %v, and again %v; want %v", where, other, again, was)
		}
	}
	if !slices.Equal(room, []api.Cpus{3, 12, 48, 99, 98}) || !bytes.Equal(b, []byte{3, 3, 12, 48}) {
		t.Errorf("what was handed in is now %v, %v", room, b)
	}

	q, _, _ := pool.Split(p, 0, 1)
	x, _ := pool.Decode(b)
	clear(room)
	clear(b)
	if !pool.Same(q, of(2, 12, 48, 1)) || !pool.Same(x, of(3, 12, 48)) {
		t.Errorf("what was answered is now %v, %v", q, x)
	}

	laid, _ := pool.Encode(q)
	clear(laid)
	encodes(t, q, api.OK, 4, 2, 12, 48, 1)
}

// The chapter's examples.
func TestExamples(t *testing.T) {
	p, no := pool.New(4)
	if differ(p, no, []api.Cpus{15}, api.OK) {
		t.Errorf("New(4): %v, %d", p, no)
	}
	splits(t, p, 0, 12, api.OK, 3, 12)
	splits(t, p, 0, 15, api.ErrLast)
	splits(t, p, 1, 1, api.ErrNone)
	first, n, _ := pool.Split(p, 0, 12)
	if n != 1 {
		t.Errorf("Split(p, 0, 2-3): pool %d; want 1", n)
	}
	moves(t, first, 2, 0, api.OK, 1, 7, 8)
	moved, _, _ := pool.Move(first, 2, 0)
	isIn(t, moved, 2, 0, true)
	moves(t, moved, 3, 0, api.ErrLast, 0)
	joins(t, first, 0, 1, api.OK, 15)
	joins(t, first, 1, 1, api.ErrArg)
	moves(t, p, 4, 0, api.ErrArg, 0)
	encodes(t, first, api.OK, 2, 3, 12)
}
