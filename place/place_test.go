package place_test

import (
	"math"
	"slices"
	"testing"

	"mainsheet/api"
	"mainsheet/place"
)

// The limits, as the document says them, and the set of all pCPUs.
const (
	maxCpus           = 8
	maxVcpus          = 16
	all      api.Cpus = 255
)

// wish is one of that Hard, which likes nothing in particular.
func wish(vcpu, at int, hard api.Cpus) api.Wish {
	return likes(vcpu, at, hard, 0)
}

// likes is a wish of that Hard and that Soft.
func likes(vcpu, at int, hard, soft api.Cpus) api.Wish {
	return api.Wish{Vcpu: vcpu, At: at, Mask: api.Mask{Hard: hard, Soft: soft}}
}

// row is that of these wishes.
func row(l ...api.Wish) []api.Wish {
	return l
}

// on is a placement.
func on(vcpu, cpu int) api.Put {
	return api.Put{Vcpu: vcpu, Cpu: cpu}
}

// puts is the row of these placements.
func puts(l ...api.Put) []api.Put {
	return l
}

// setMayBe tells whether s may be, as layer 4 says it.
func setMayBe(s api.Cpus) bool {
	return s <= all
}

// in are the numbers in s, as layer 4 tells them: those whose power of two is in the value.
func in(s api.Cpus) []int {
	var l []int
	power := uint64(1)
	for cpu := range maxCpus {
		if uint64(s)/power%2 == 1 {
			l = append(l, cpu)
		}
		power *= 2
	}
	return l
}

// set is that of these numbers, none of which stands there twice.
func set(l []int) api.Cpus {
	var s api.Cpus
	for _, cpu := range l {
		s += 1 << cpu
	}
	return s
}

// rowMayBe tells whether the row may be, as the chapter says it.
func rowMayBe(l []api.Wish) bool {
	for i, w := range l {
		may := 1 <= w.Vcpu && w.Vcpu <= maxVcpus && -1 <= w.At && w.At <= maxCpus-1
		may = may && w.Mask.Hard > 0 && setMayBe(w.Mask.Hard) && setMayBe(w.Mask.Soft)
		for _, other := range l[:i] {
			may = may && other.Vcpu != w.Vcpu && (other.At != w.At || w.At == -1)
		}
		if !may {
			return false
		}
	}
	return true
}

// errorOf is why the row can't be placed in the set, told another way.
func errorOf(l []api.Wish, free api.Cpus) api.Errno {
	switch {
	case !rowMayBe(l):
		return api.ErrWish
	case !setMayBe(free):
		return api.ErrCpus
	}
	return api.OK
}

// outcome is what Place, Waits and Moves tell.
type outcome struct {
	puts           []api.Put
	still          api.Cpus
	waits          []int
	moved, waiting int
}

// taken is the pCPU that w takes of those that are free, and whether there is one, as layer 7 says it.
func taken(w api.Wish, free []int) (int, bool) {
	allowed := slices.DeleteFunc(slices.Clone(free), func(cpu int) bool { return !slices.Contains(in(w.Mask.Hard), cpu) })
	if slices.Contains(allowed, w.At) {
		return w.At, true
	}
	for _, cpu := range allowed {
		if slices.Contains(in(w.Mask.Soft), cpu) {
			return cpu, true
		}
	}
	if len(allowed) == 0 {
		return 0, false
	}
	return allowed[0], true
}

// told is what comes of a row and a set that may be, told another way.
func told(l []api.Wish, free api.Cpus) outcome {
	var o outcome
	left := in(free)
	for _, w := range l {
		cpu, there := taken(w, left)
		if !there {
			o.waits = append(o.waits, w.Vcpu)
			continue
		}
		o.puts = append(o.puts, on(w.Vcpu, cpu))
		left = slices.DeleteFunc(left, func(other int) bool { return other == cpu })
		if w.At >= 0 && w.At != cpu {
			o.moved++
		}
	}
	o.still, o.waiting = set(left), len(o.waits)
	return o
}

// placeOf is where in the row the wish of that vCPU stands; -1, if there is none.
func placeOf(l []api.Wish, vcpu int) int {
	return slices.IndexFunc(l, func(w api.Wish) bool { return w.Vcpu == vcpu })
}

// fairAsTold tells whether the placements are fair to a row and a set that may be, as the chapter says it.
func fairAsTold(l []api.Wish, free api.Cpus, given []api.Put) bool {
	holds := map[int]int{} // of each pCPU that is taken the place of who took it
	last := -1
	for _, p := range given {
		i := placeOf(l, p.Vcpu)
		if _, twice := holds[p.Cpu]; i <= last || twice {
			return false
		}
		if !slices.Contains(in(free), p.Cpu) || !slices.Contains(in(l[i].Mask.Hard), p.Cpu) {
			return false
		}
		holds[p.Cpu], last = i, i
	}
	for i, w := range l {
		if slices.ContainsFunc(given, func(p api.Put) bool { return p.Vcpu == w.Vcpu }) {
			continue
		}
		for _, cpu := range in(free & w.Mask.Hard) {
			if other, isTaken := holds[cpu]; !isTaken || other > i {
				return false
			}
		}
	}
	return true
}

// homeAsTold are those of the placements that are at a pCPU, and placed there.
func homeAsTold(l []api.Wish, given []api.Put) []int {
	var ids []int
	for _, p := range given {
		if slices.ContainsFunc(l, func(w api.Wish) bool { return w.At >= 0 && w.At == p.Cpu && w.Vcpu == p.Vcpu }) {
			ids = append(ids, p.Vcpu)
		}
	}
	return ids
}

// chance tells numbers below n by a short rule, the same whenever it is asked anew.
func chance() func(n int) int {
	x := uint64(13)
	return func(n int) int {
		x = x*6364136223846793005 + 1442695040888963407
		return int(x >> 33 % uint64(n))
	}
}

// shuffled are the numbers below n, in some order.
func shuffled(next func(int) int, n int) []int {
	l := make([]int, n)
	for i := range l {
		l[i] = i
	}
	for i := range l {
		other := next(i + 1)
		l[i], l[other] = l[other], l[i]
	}
	return l
}

// someSet is an empty one, one of one pCPU, of all, or of some.
func someSet(next func(int) int) api.Cpus {
	switch next(8) {
	case 0:
		return 0
	case 1:
		return 1 << next(maxCpus)
	case 2:
		return all
	}
	return api.Cpus(next(int(all) + 1))
}

// someRow is one that may be, of so many wishes; many or few of them are at a pCPU.
func someRow(next func(int) int, n int) []api.Wish {
	ids, cpus, often := shuffled(next, maxVcpus), shuffled(next, maxCpus), next(11)
	var l []api.Wish
	for i := range n {
		at := -1
		if len(cpus) > 0 && next(10) < often {
			at, cpus = cpus[0], cpus[1:]
		}
		l = append(l, likes(ids[i]+1, at, max(someSet(next), 1), someSet(next)))
	}
	return l
}

// rows are many that may be, of no wish up to as many as there may be.
func rows() [][]api.Wish {
	l := [][]api.Wish{nil, {}, row(wish(1, -1, 1)), row(wish(16, 7, 128))}
	next := chance()
	for i := range 4000 {
		l = append(l, someRow(next, i%(maxVcpus+1)))
	}
	return l
}

// full are as many wishes as there may be, all of whose masks allow all; the last ones are at the pCPUs.
func full() []api.Wish {
	var l []api.Wish
	for i := range maxVcpus {
		l = append(l, wish(i+1, max(i-maxCpus, -1), all))
	}
	return l
}

// three are wishes that may be: one at 2, one at 0, one nowhere.
func three() []api.Wish {
	return row(wish(4, 2, 7), likes(9, 0, all, 6), wish(2, -1, 3))
}

// noSets are some that may not be: with bits that no pCPU has, alone and beside those that may.
func noSets() []api.Cpus {
	var l []api.Cpus
	for _, more := range []api.Cpus{256, 512, 1 << 15, 1 << 16, 1 << 31, math.MaxUint32 &^ all} {
		for _, s := range []api.Cpus{0, 1, 10, 128, all} {
			l = append(l, s|more)
		}
	}
	return l
}

// noMasks are some that may not be: whose Hard is empty, or whose Hard, Soft, or both have bits that no pCPU has.
func noMasks() []api.Mask {
	l := []api.Mask{{}, {Soft: 1}, {Soft: all}}
	for _, no := range noSets() {
		l = append(l, api.Mask{Hard: no}, api.Mask{Hard: no, Soft: 1}, api.Mask{Hard: 1, Soft: no}, api.Mask{Hard: all, Soft: no}, api.Mask{Hard: no, Soft: no}, api.Mask{Soft: no})
	}
	return l
}

// outs are numbers that no pCPU has, but -1: those just beyond, and those by which a shift would go round, or fail.
func outs() []int {
	return []int{-2, -3, -8, -64, -256, -1 << 32, math.MinInt, math.MinInt + 7, 8, 9, 16, 31, 32, 33, 63, 64, 65, 255, 256, 257, 1 << 32, 1<<32 + 1, 1 << 62, math.MaxInt}
}

// noIds are numbers that no vCPU has.
func noIds() []int {
	return []int{0, -1, -2, -16, math.MinInt, 17, 18, 32, 256, 257, 1 << 32, 1<<32 + 1, math.MaxInt}
}

// noRows are some that may not be.
func noRows() [][]api.Wish {
	l := [][]api.Wish{
		row(api.Wish{}),
		row(wish(5, -1, all), wish(5, -1, all)),
		row(wish(5, 1, all), wish(6, 1, all)),
		make([]api.Wish, 1<<16),
		append(full(), wish(1, -1, all)),
		append(full(), wish(17, -1, all)),
	}
	for i := range 3 {
		for _, id := range noIds() {
			l = append(l, remade(three(), i, func(w *api.Wish) { w.Vcpu = id }))
		}
		for _, at := range outs() {
			l = append(l, remade(three(), i, func(w *api.Wish) { w.At = at }))
		}
		for _, m := range noMasks() {
			l = append(l, remade(three(), i, func(w *api.Wish) { w.Mask = m }))
		}
	}
	return l
}

// remade is a copy of the row, whose wish at that place is made another one.
func remade(l []api.Wish, at int, change func(w *api.Wish)) []api.Wish {
	c := slices.Clone(l)
	change(&c[at])
	return c
}

// refused asks all calls but Check for that error, and nothing beside it; Home only where the row may not be.
func refused(t *testing.T, l []api.Wish, free api.Cpus, given []api.Put, want api.Errno) {
	t.Helper()
	if made, still, no := place.Place(l, free); no != want || made != nil || still != 0 {
		t.Errorf("Place(%v, %d): %v, %d, %d; want %d alone", l, free, made, still, no, want)
	}
	if waits, no := place.Waits(l, free); no != want || waits != nil {
		t.Errorf("Waits(%v, %d): %v, %d; want %d alone", l, free, waits, no, want)
	}
	if moved, waiting, no := place.Moves(l, free); no != want || moved != 0 || waiting != 0 {
		t.Errorf("Moves(%v, %d): %d, %d, %d; want %d alone", l, free, moved, waiting, no, want)
	}
	if fair, no := place.Fair(l, free, given); no != want || fair {
		t.Errorf("Fair(%v, %d, %v): %t, %d; want %d alone", l, free, given, fair, no, want)
	}
	if want != api.ErrWish {
		return
	}
	if home, no := place.Home(l, given); no != want || home != nil {
		t.Errorf("Home(%v, %v): %v, %d; want %d alone", l, given, home, no, want)
	}
}

// checks asks Check for an error; and all other calls for the same one, if it is one.
func checks(t *testing.T, l []api.Wish, want api.Errno) {
	t.Helper()
	if no := place.Check(l); no != want {
		t.Errorf("Check(%v): %d; want %d", l, no, want)
	}
	if want != api.OK {
		refused(t, l, all, nil, want)
		return
	}
	if _, _, no := place.Place(l, all); no != api.OK {
		t.Errorf("Place(%v, %d): %d; want OK", l, all, no)
	}
}

// P13.1: none, one, some, as many as there may be.
func TestCheck(t *testing.T) {
	checks(t, nil, api.OK)
	checks(t, row(), api.OK)
	checks(t, row(wish(1, -1, 1)), api.OK)
	checks(t, row(wish(16, 7, all)), api.OK)
	checks(t, three(), api.OK)
	checks(t, full(), api.OK)
	for _, l := range rows() {
		checks(t, l, api.OK)
	}
	for _, l := range noRows() {
		checks(t, l, api.ErrWish)
	}
}

// P13.1: each Id of a vCPU, and those beyond, wherever they stand.
func TestCheckOfIds(t *testing.T) {
	for id := -3; id <= maxVcpus+3; id++ {
		want := api.ErrWish
		if 1 <= id && id <= maxVcpus {
			want = api.OK
		}
		checks(t, row(wish(id, -1, all)), want)
		checks(t, row(wish(id, 3, all)), want)
	}
	for i := range 3 {
		for _, id := range []int{1, 3, 15, 16} {
			checks(t, remade(three(), i, func(w *api.Wish) { w.Vcpu = id }), api.OK)
		}
		for _, id := range noIds() {
			checks(t, remade(three(), i, func(w *api.Wish) { w.Vcpu = id }), api.ErrWish)
		}
	}
}

// P13.1: each At, and those beyond, wherever they stand.
func TestCheckOfAts(t *testing.T) {
	for at := -4; at <= maxCpus+3; at++ {
		want := api.ErrWish
		if -1 <= at && at <= maxCpus-1 {
			want = api.OK
		}
		checks(t, row(wish(5, at, all)), want)
		checks(t, row(wish(5, at, 1)), want) // its mask need not allow it
	}
	for i := range 3 {
		for _, at := range []int{-1, 1, 3, 6, 7} {
			checks(t, remade(three(), i, func(w *api.Wish) { w.At = at }), api.OK)
		}
		for _, at := range outs() {
			checks(t, remade(three(), i, func(w *api.Wish) { w.At = at }), api.ErrWish)
		}
	}
}

// P13.1: masks that may be, and such as may not, wherever they stand.
func TestCheckOfMasks(t *testing.T) {
	for i := range 3 {
		for _, m := range noMasks() {
			checks(t, remade(three(), i, func(w *api.Wish) { w.Mask = m }), api.ErrWish)
		}
		for bit := range 32 {
			one, want := api.Cpus(1)<<bit, api.ErrWish
			if bit < maxCpus {
				want = api.OK
			}
			for _, m := range []api.Mask{{Hard: one}, {Hard: one | 1}, {Hard: 1, Soft: one}, {Hard: all, Soft: one | all}, {Hard: one, Soft: one}} {
				checks(t, remade(three(), i, func(w *api.Wish) { w.Mask = m }), want)
			}
		}
	}
	for hard := range all + 1 {
		want := api.OK
		if hard == 0 {
			want = api.ErrWish
		}
		checks(t, row(likes(1, -1, hard, all-hard)), want)
	}
}

// P13.1: one vCPU twice, side by side and far apart, whatever else is said of it.
func TestCheckOfOneVcpuTwice(t *testing.T) {
	for id := 1; id <= maxVcpus; id++ {
		checks(t, row(wish(id, -1, all), wish(id, -1, all)), api.ErrWish)
		checks(t, row(wish(id, 0, 1), wish(id, 1, 2)), api.ErrWish)
		checks(t, row(wish(id, -1, 1), wish(id, 7, 2)), api.ErrWish)
		checks(t, row(wish(id, 7, 1), wish(id, -1, 2)), api.ErrWish)
	}
	for i := range 3 {
		for j := range 3 {
			want := api.ErrWish
			if i == j {
				want = api.OK
			}
			checks(t, remade(three(), i, func(w *api.Wish) { w.Vcpu = three()[j].Vcpu }), want)
		}
	}
	for i := range maxVcpus - 1 {
		checks(t, remade(full(), maxVcpus-1, func(w *api.Wish) { w.Vcpu = i + 1 }), api.ErrWish)
		checks(t, remade(full(), i, func(w *api.Wish) { w.Vcpu = maxVcpus }), api.ErrWish)
	}
}

// P13.1: two at one pCPU, at each of them; two, and all, at -1.
func TestCheckOfTwoAtOne(t *testing.T) {
	for at := range maxCpus {
		checks(t, row(wish(1, at, all), wish(2, at, all)), api.ErrWish)
		checks(t, row(wish(16, at, 1), wish(3, -1, all), wish(2, at, 2)), api.ErrWish)
		checks(t, row(wish(1, at, all), wish(2, (at+1)%maxCpus, all), wish(3, at, all)), api.ErrWish)
		checks(t, row(wish(1, at, all), wish(2, (at+1)%maxCpus, all)), api.OK)
		checks(t, remade(full(), at, func(w *api.Wish) { w.At = at }), api.ErrWish)
	}
	checks(t, row(wish(1, -1, all), wish(2, -1, all)), api.OK)
	checks(t, row(wish(1, -1, 1), wish(2, 3, 1), wish(3, -1, 1)), api.OK)
	nowhere := full()
	for i := range nowhere {
		nowhere[i].At = -1
	}
	checks(t, nowhere, api.OK)
}

// P13.1: rows that may be, of which a number or two were made others, held against another telling.
func TestCheckOfWhatWasMadeAnother(t *testing.T) {
	next := chance()
	seen := map[api.Errno]int{}
	for _, l := range rows() {
		if len(l) == 0 {
			continue
		}
		l = slices.Clone(l)
		for range 1 + next(2) {
			w := &l[next(len(l))]
			switch next(6) {
			case 0:
				w.Vcpu = next(20) - 1
			case 1:
				w.Vcpu = l[next(len(l))].Vcpu
			case 2:
				w.At = next(13) - 3
			case 3:
				w.At = l[next(len(l))].At
			case 4:
				w.Mask.Hard = api.Cpus(next(3)*next(300)) % 257
			case 5:
				w.Mask.Soft = api.Cpus(next(2)*next(300)) % 257
			}
		}
		want := errorOf(l, all)
		seen[want]++
		checks(t, l, want)
	}
	for _, no := range []api.Errno{api.OK, api.ErrWish} {
		if seen[no] < 500 {
			t.Errorf("error %d came %d times: too few to tell", no, seen[no])
		}
	}
}

// P13.2, P13.3: ErrWish by itself and ahead of ErrCpus, and that by itself; of each that takes a set.
func TestErrorsInTheirOrder(t *testing.T) {
	given := [][]api.Put{nil, puts(on(4, 2)), puts(on(4, 2), on(9, 0), on(2, 1)), puts(on(0, 99), on(0, 99))}
	bad := noSets()
	for bit := maxCpus; bit < 32; bit++ {
		bad = append(bad, 1<<bit)
	}
	for i, l := range noRows() {
		p := given[i%len(given)]
		refused(t, l, 0, p, api.ErrWish)
		refused(t, l, all, p, api.ErrWish)
		refused(t, l, bad[i%len(bad)], p, api.ErrWish)
	}
	for _, free := range bad {
		for _, p := range given {
			refused(t, nil, free, p, api.ErrCpus)
			refused(t, three(), free, p, api.ErrCpus)
			refused(t, full(), free, p, api.ErrCpus)
			refused(t, row(api.Wish{}), free, p, api.ErrWish)
		}
	}
}

// comes asks Place, Waits and Moves for an outcome, and Fair whether it is fair.
func comes(t *testing.T, l []api.Wish, free api.Cpus, want outcome) {
	t.Helper()
	made, still, no := place.Place(l, free)
	if no != api.OK || !slices.Equal(made, want.puts) || still != want.still {
		t.Errorf("Place(%v, %d): %v, %d, %d; want %v, %d", l, free, made, still, no, want.puts, want.still)
	}
	if waits, no := place.Waits(l, free); no != api.OK || !slices.Equal(waits, want.waits) {
		t.Errorf("Waits(%v, %d): %v, %d; want %v", l, free, waits, no, want.waits)
	}
	if moved, waiting, no := place.Moves(l, free); no != api.OK || moved != want.moved || waiting != want.waiting {
		t.Errorf("Moves(%v, %d): %d, %d, %d; want %d, %d", l, free, moved, waiting, no, want.moved, want.waiting)
	}
	fair(t, l, free, made, true)
}

// fair asks Fair.
func fair(t *testing.T, l []api.Wish, free api.Cpus, given []api.Put, want bool) {
	t.Helper()
	if fair, no := place.Fair(l, free, given); fair != want || no != api.OK {
		t.Errorf("Fair(%v, %d, %v): %t, %d; want %t", l, free, given, fair, no, want)
	}
}

// P13.2: no wish, and none free.
func TestOfNothing(t *testing.T) {
	for free := range all + 1 {
		comes(t, nil, free, outcome{still: free})
		comes(t, row(), free, outcome{still: free})
	}
	comes(t, row(wish(5, -1, all)), 0, outcome{waits: []int{5}, waiting: 1})
	comes(t, three(), 0, outcome{waits: []int{4, 9, 2}, waiting: 3})
	comes(t, full(), 0, outcome{waits: []int{1, 2, 3, 4, 5, 6, 7, 8, 9, 10, 11, 12, 13, 14, 15, 16}, waiting: 16})
}

// P13.2: one wish: where it is, at what is not free, at what its mask does not allow; what it likes, what it is allowed.
func TestOfOneWish(t *testing.T) {
	for _, c := range []struct {
		w    api.Wish
		free api.Cpus
		cpu  int // -1: it waits
	}{
		{wish(5, 3, all), all, 3},
		{wish(5, 3, all), 8, 3},
		{wish(5, 3, 8), all, 3},
		{wish(5, 7, all), all, 7},
		{wish(5, 0, all), all, 0},
		{likes(5, 3, all, 1), all, 3},  // where it is goes ahead of what it likes
		{likes(5, 3, 12, 4), 12, 3},    // so, of two
		{wish(5, 3, all), 247, 0},      // where it is is not free
		{wish(5, 3, all), 240, 4},      // so, and all that is below is not free
		{wish(5, 3, 7), all, 0},        // where it is is not allowed
		{wish(5, 3, 6), 15, 1},         // so, and 0 is not
		{likes(5, 3, all, 32), 247, 5}, // where it is is not free: what it likes
		{likes(5, 3, 199, 32), all, 0}, // what it likes is not allowed
		{likes(5, 3, all, 32), 192, 6}, // what it likes is not free
		{likes(5, 3, 247, 40), all, 5}, // it likes where it is, but may not have it
		{likes(5, 3, all, 40), 247, 5}, // so, but it is not free
		{wish(5, -1, all), all, 0},
		{wish(5, -1, all), 254, 1},
		{wish(5, -1, 128), all, 7},
		{likes(5, -1, all, 2), all, 1},
		{likes(5, -1, all, 160), all, 5},
		{likes(5, -1, all, 160), 143, 7},
		{likes(5, -1, all, 160), 79, 0},
		{likes(5, -1, 31, 160), all, 0},
		{likes(5, -1, 31, 168), all, 3},
		{likes(5, -1, all, all), 192, 6},
		{wish(5, 3, 7), 248, -1},
		{wish(5, 3, 8), 247, -1},
		{wish(5, -1, 16), 239, -1},
		{likes(5, -1, 16, 1), 15, -1},
		{likes(5, 0, 16, 1), 1, -1},
	} {
		want := outcome{puts: puts(on(5, c.cpu)), still: c.free - 1<<max(c.cpu, 0)}
		switch {
		case c.cpu < 0:
			want = outcome{still: c.free, waits: []int{5}, waiting: 1}
		case c.w.At >= 0 && c.w.At != c.cpu:
			want.moved = 1
		}
		comes(t, row(c.w), c.free, want)
	}
}

// P13.2: several wishes: more and fewer than are free, one who waits between two that are placed, one who takes where another one is.
func TestOfSeveralWishes(t *testing.T) {
	comes(t, row(wish(1, -1, all), wish(2, -1, all), wish(3, -1, all)), 10, outcome{puts: puts(on(1, 1), on(2, 3)), waits: []int{3}, waiting: 1})
	comes(t, row(wish(3, -1, all), wish(2, -1, all), wish(1, -1, all)), 10, outcome{puts: puts(on(3, 1), on(2, 3)), waits: []int{1}, waiting: 1})
	comes(t, row(wish(1, -1, all), wish(2, -1, all)), 142, outcome{puts: puts(on(1, 1), on(2, 2)), still: 136})
	comes(t, row(wish(9, -1, 1), wish(2, -1, 1), wish(5, -1, 2)), 3, outcome{puts: puts(on(9, 0), on(5, 1)), waits: []int{2}, waiting: 1})
	comes(t, row(wish(9, -1, 1), wish(2, 1, 1), wish(5, -1, 2), wish(8, 0, 3)), 3, outcome{puts: puts(on(9, 0), on(5, 1)), waits: []int{2, 8}, waiting: 2})
	comes(t, row(wish(9, -1, 4), wish(2, 1, 1), wish(5, 2, 6)), 14, outcome{puts: puts(on(9, 2), on(5, 1)), still: 8, waits: []int{2}, moved: 1, waiting: 1})
	comes(t, row(wish(1, -1, 3), wish(2, 0, 3)), 3, outcome{puts: puts(on(1, 0), on(2, 1)), moved: 1})
	comes(t, row(wish(2, 0, 3), wish(1, -1, 3)), 3, outcome{puts: puts(on(2, 0), on(1, 1))})
	comes(t, row(wish(1, 1, 3), wish(2, 0, 3)), 3, outcome{puts: puts(on(1, 1), on(2, 0))})
	comes(t, row(wish(1, 1, 1), wish(2, 0, 3)), 3, outcome{puts: puts(on(1, 0), on(2, 1)), moved: 2})
	comes(t, row(wish(1, 1, 1), wish(2, 0, 1)), 3, outcome{puts: puts(on(1, 0)), still: 2, waits: []int{2}, moved: 1, waiting: 1})
	comes(t, row(wish(1, 4, 3), wish(2, 5, 3), wish(3, 6, 3)), 3, outcome{puts: puts(on(1, 0), on(2, 1)), waits: []int{3}, moved: 2, waiting: 1})
	comes(t, row(likes(1, -1, all, 4), likes(2, -1, all, 4), likes(3, -1, all, 4)), 14, outcome{puts: puts(on(1, 2), on(2, 1), on(3, 3))})
	comes(t, row(likes(1, 3, all, 4), likes(2, -1, all, 12), likes(3, 2, all, 4)), 14, outcome{puts: puts(on(1, 3), on(2, 2), on(3, 1)), moved: 1})
	comes(t, three(), 7, outcome{puts: puts(on(4, 2), on(9, 0), on(2, 1))})
	comes(t, full(), all, outcome{
		puts:    puts(on(1, 0), on(2, 1), on(3, 2), on(4, 3), on(5, 4), on(6, 5), on(7, 6), on(8, 7)),
		waits:   []int{9, 10, 11, 12, 13, 14, 15, 16},
		waiting: 8,
	})
}

// P13.2: Moves counts neither who is nowhere and placed, nor who stays; and of those that wait both who is somewhere and who is nowhere.
func TestMovesOfEach(t *testing.T) {
	for _, c := range []struct {
		l              []api.Wish
		free           api.Cpus
		moved, waiting int
	}{
		{row(wish(1, -1, all)), all, 0, 0},
		{row(wish(1, 0, all)), all, 0, 0},
		{row(wish(1, 7, all)), all, 0, 0},
		{row(wish(1, 0, 2)), all, 1, 0},
		{row(wish(1, 1, 1)), all, 1, 0},
		{row(wish(1, 7, 1)), all, 1, 0},
		{row(wish(1, -1, 1)), 2, 0, 1},
		{row(wish(1, 0, 1)), 2, 0, 1},
		{row(wish(1, 1, 1)), 2, 0, 1},
		{row(wish(1, -1, 1), wish(2, 0, 1), wish(3, 1, 1), wish(4, -1, 1)), 1, 0, 3},
		{row(wish(1, 0, 2), wish(2, 1, 4), wish(3, 2, 1), wish(4, -1, all), wish(5, 3, 7)), 15, 3, 1},
	} {
		if moved, waiting, no := place.Moves(c.l, c.free); moved != c.moved || waiting != c.waiting || no != api.OK {
			t.Errorf("Moves(%v, %d): %d, %d, %d; want %d, %d", c.l, c.free, moved, waiting, no, c.moved, c.waiting)
		}
	}
}

// small are all wishes of that vCPU among the first n pCPUs.
func small(vcpu, n int) []api.Wish {
	var l []api.Wish
	for at := -1; at < n; at++ {
		for hard := api.Cpus(1); hard < 1<<n; hard++ {
			for soft := range api.Cpus(1) << n {
				l = append(l, likes(vcpu, at, hard, soft))
			}
		}
	}
	return l
}

// P13.2: all pairs of wishes among three pCPUs, held against another telling.
func TestAllPairsAsTold(t *testing.T) {
	for _, a := range small(6, 3) {
		for _, b := range small(3, 3) {
			l := row(a, b)
			if !rowMayBe(l) {
				checks(t, l, api.ErrWish)
				continue
			}
			for free := range api.Cpus(8) {
				comes(t, l, free, told(l, free))
			}
		}
	}
}

// P13.2: all rows of three among two pCPUs, held against another telling.
func TestAllThreesAsTold(t *testing.T) {
	for _, a := range small(2, 2) {
		for _, b := range small(3, 2) {
			for _, c := range small(1, 2) {
				l := row(a, b, c)
				if !rowMayBe(l) {
					continue
				}
				for free := range api.Cpus(4) {
					comes(t, l, free, told(l, free))
				}
			}
		}
	}
}

// P13.2: many rows, in many sets, held against another telling.
func TestAsTold(t *testing.T) {
	next := chance()
	var moved, waiting, between int
	for _, l := range rows() {
		for range 4 {
			free := someSet(next)
			want := told(l, free)
			comes(t, l, free, want)
			moved += want.moved
			waiting += want.waiting
			if n := len(want.puts); n > 0 && len(want.waits) > 0 && placeOf(l, want.waits[0]) < placeOf(l, want.puts[n-1].Vcpu) {
				between++
			}
		}
	}
	if moved < 1000 || waiting < 1000 || between < 1000 {
		t.Errorf("%d were moved, %d waited, in %d one waited ahead of one that was placed: too few to tell", moved, waiting, between)
	}
}

// P13.3: placements of a known row, fair and unfair by one thing alone.
func TestFairByHand(t *testing.T) {
	// 5 may have 0 and 1; 3 all; 9 just 1; in 0, 1 and 2.
	l, free := row(wish(5, -1, 3), wish(3, 0, all), wish(9, 1, 2)), api.Cpus(7)
	for _, c := range []struct {
		given []api.Put
		want  bool
	}{
		{puts(on(5, 0), on(3, 1)), true},           // Place's answer; 9 finds 1 taken
		{puts(on(5, 0), on(3, 2), on(9, 1)), true}, // not what Place tells, but fair
		{puts(on(5, 1), on(3, 0)), true},
		{puts(on(5, 1), on(3, 2)), true},
		{nil, false},
		{puts(), false},
		{puts(on(5, 0)), false},                                // 3 is left out
		{puts(on(3, 0), on(9, 1)), false},                      // 5 is left out: those behind it have what it could have
		{puts(on(5, 0), on(9, 1)), false},                      // 3 is left out, and 2 is free
		{puts(on(5, 0), on(3, 2)), false},                      // 9 is left out, and 1 is free
		{puts(on(5, 0), on(3, 2), on(4, 1)), false},            // 4 is none of the row
		{puts(on(4, 1), on(5, 0), on(3, 2)), false},            // so, ahead
		{puts(on(5, 0), on(3, 2), on(9, 1), on(4, 3)), false},  // so, beside
		{puts(on(5, 0), on(3, 1), on(3, 2)), false},            // two of one wish
		{puts(on(5, 0), on(3, 2), on(3, 1)), false},            // so, in the other order
		{puts(on(5, 0), on(3, 2), on(9, 1), on(9, 1)), false},  // one twice
		{puts(on(5, 0), on(5, 0), on(3, 2), on(9, 1)), false},  // so, ahead
		{puts(on(3, 2), on(5, 0), on(9, 1)), false},            // against the row's order
		{puts(on(5, 0), on(9, 1), on(3, 2)), false},            // so
		{puts(on(9, 1), on(5, 0), on(3, 2)), false},            // so
		{puts(on(9, 1), on(3, 2), on(5, 0)), false},            // so
		{puts(on(5, 0), on(3, 3), on(9, 1)), false},            // out of the set, though its mask allows it
		{puts(on(5, 0), on(3, 7), on(9, 1)), false},            // so
		{puts(on(5, 2), on(3, 0), on(9, 1)), false},            // what its mask does not allow
		{puts(on(5, 0), on(3, 1), on(9, 2)), false},            // so
		{puts(on(5, 1), on(3, 0), on(9, 2)), false},            // so
		{puts(on(5, 0), on(3, 0), on(9, 1)), false},            // two on one
		{puts(on(5, 1), on(3, 0), on(9, 1)), false},            // so
		{puts(on(5, 0), on(3, 1), on(9, 1)), false},            // so
		{puts(on(5, -1), on(3, 2), on(9, 1)), false},           // on none
		{puts(on(5, 0), on(3, 8), on(9, 1)), false},            // so
		{puts(on(5, 0), on(3, 2), on(9, 1), on(0, 3)), false},  // nobody
		{puts(on(5, 0), on(3, 2), on(9, 1), api.Put{}), false}, // so
	} {
		fair(t, l, free, c.given, c.want)
	}
}

// P13.3: who waits while one behind it has what it could have, though nothing is free; and one ahead of it that has it.
func TestFairToWhoWaits(t *testing.T) {
	l := row(wish(1, -1, all), wish(2, -1, 2), wish(3, -1, 3), wish(4, -1, 6))
	fair(t, l, 3, puts(on(1, 0), on(2, 1)), true)
	fair(t, l, 3, puts(on(1, 1), on(3, 0)), true)
	fair(t, l, 3, puts(on(1, 0), on(3, 1)), false)
	fair(t, l, 3, puts(on(1, 0), on(4, 1)), false)
	fair(t, l, 3, puts(on(2, 1), on(3, 0)), false)
	fair(t, l, 3, puts(on(3, 0), on(4, 1)), false)
	fair(t, l, 6, puts(on(1, 2), on(2, 1)), true)
	fair(t, l, 6, puts(on(1, 1), on(4, 2)), true)
	fair(t, l, 6, puts(on(1, 2), on(3, 1)), false)
	fair(t, l, 6, puts(on(1, 1), on(3, 2)), false)
	fair(t, l, 6, puts(on(1, 1)), false)
	fair(t, l, 1, puts(on(1, 0)), true)
	fair(t, l, 1, puts(on(3, 0)), false)
	fair(t, l, 1, nil, false)
	fair(t, l, 2, puts(on(1, 1)), true)
	fair(t, l, 2, puts(on(2, 1)), false)
	fair(t, l[1:], 1, puts(on(3, 0)), true)
	fair(t, l[1:], 2, puts(on(2, 1)), true)
	fair(t, l[1:], 2, puts(on(3, 1)), false)
	fair(t, l[1:2], 253, nil, true)
	fair(t, l[1:2], 253, puts(on(2, 1)), false)
	fair(t, l, 0, nil, true)
	fair(t, l, 0, puts(on(1, 0)), false)
}

// P13.3: placements in no row, and numbers that nobody, no pCPU has.
func TestFairOfOddPlacements(t *testing.T) {
	for _, free := range []api.Cpus{0, 1, all} {
		fair(t, nil, free, nil, true)
		fair(t, row(), free, puts(), true)
		for _, p := range []api.Put{{}, on(1, 0), on(0, 3), on(16, 7), on(-1, -1), on(17, 8)} {
			fair(t, nil, free, puts(p), false)
			fair(t, nil, free, puts(p, p), false)
		}
	}
	lone := row(wish(3, -1, all))
	for cpu := range maxCpus {
		fair(t, lone, all, puts(on(3, cpu)), true)
		fair(t, lone, all, puts(on(3, cpu), api.Put{}), false)
		fair(t, lone, all, puts(api.Put{}, on(3, cpu)), false)
		fair(t, lone, all-1<<cpu, puts(on(3, cpu)), false)
		fair(t, row(wish(3, -1, 1<<cpu)), all, puts(on(3, cpu)), true)
		fair(t, row(wish(3, -1, max(all-1<<cpu, 1))), all, puts(on(3, cpu)), false)
	}
	for _, cpu := range append(outs(), -1) {
		fair(t, lone, all, puts(on(3, cpu)), false)
		fair(t, lone, 0, puts(on(3, cpu)), false)
		fair(t, row(wish(3, 0, all)), 1, puts(on(3, cpu)), false)
	}
	for _, id := range noIds() {
		fair(t, lone, all, puts(on(id, 0)), false)
		fair(t, lone, 0, puts(on(id, 0)), false)
		fair(t, lone, all, puts(on(3, 0), on(id, 1)), false)
	}
}

// P13.3: all rows of up to three placements of a few vCPUs and pCPUs, for some rows of wishes, held against another telling.
func TestFairOfAllShortRows(t *testing.T) {
	given := [][]api.Put{nil}
	for from := 0; len(given[from]) < 3; from++ {
		for _, vcpu := range []int{0, 2, 5, 6} {
			for cpu := -1; cpu <= 3; cpu++ {
				given = append(given, append(slices.Clone(given[from]), on(vcpu, cpu)))
			}
		}
	}
	met := map[bool]int{}
	for _, l := range [][]api.Wish{
		row(wish(5, -1, all), wish(2, -1, all), wish(6, -1, all)),
		row(wish(5, 0, 3), wish(2, 1, 6), wish(6, -1, 5)),
		row(wish(6, -1, 1), likes(2, -1, 3, 2), wish(5, -1, 2)),
		row(wish(2, 3, 6), wish(6, 0, 2)),
		row(wish(5, -1, 4)),
		nil,
	} {
		for free := range api.Cpus(8) {
			for _, p := range given {
				want := fairAsTold(l, free, p)
				met[want]++
				fair(t, l, free, p, want)
			}
		}
	}
	if met[true] < 50 || met[false] < 1000 {
		t.Errorf("%d were fair, %d were not: too few to tell", met[true], met[false])
	}
}

// P13.3: what is told of many rows, with a thing or two made another one; and rows in which each takes whatever it may have, held against another telling.
func TestFairAsTold(t *testing.T) {
	next := chance()
	met := map[bool]int{}
	for _, l := range rows() {
		free := someSet(next) | someSet(next)
		given := anyFair(next, l, free)
		fair(t, l, free, given, true)
		if next(2) == 0 {
			given = told(l, free).puts
		}
		for range 4 {
			given = disturbed(next, given)
			want := fairAsTold(l, free, given)
			met[want]++
			fair(t, l, free, given, want)
		}
	}
	if met[true] < 500 || met[false] < 1000 {
		t.Errorf("%d were fair, %d were not: too few to tell", met[true], met[false])
	}
}

// anyFair are placements that are fair: each takes any pCPU that it may have of what is left to it.
func anyFair(next func(int) int, l []api.Wish, free api.Cpus) []api.Put {
	var given []api.Put
	left := free
	for _, w := range l {
		if may := in(left & w.Mask.Hard); len(may) > 0 {
			cpu := may[next(len(may))]
			given = append(given, on(w.Vcpu, cpu))
			left -= 1 << cpu
		}
	}
	return given
}

// disturbed are the placements with one left out, moved, given to another one, laid twice, or swapped with another one.
func disturbed(next func(int) int, given []api.Put) []api.Put {
	given = slices.Clone(given)
	n := len(given)
	if n == 0 {
		return append(given, on(next(18), next(10)-1))
	}
	i, j := next(n), next(n)
	switch next(6) {
	case 0:
		return slices.Delete(given, i, i+1)
	case 1:
		given[i].Cpu = next(10) - 1
	case 2:
		given[i].Vcpu = next(18)
	case 3:
		return slices.Insert(given, i, given[j])
	case 4:
		given[i], given[j] = given[j], given[i]
	case 5:
		given[i].Cpu, given[j].Cpu = given[j].Cpu, given[i].Cpu
	}
	return given
}

// home asks Home.
func home(t *testing.T, l []api.Wish, given []api.Put, want ...int) {
	t.Helper()
	if ids, no := place.Home(l, given); no != api.OK || !slices.Equal(ids, want) {
		t.Errorf("Home(%v, %v): %v, %d; want %v", l, given, ids, no, want)
	}
}

// P13.3: none, some, all at home; who is placed where it is not, and where another one is; who is nowhere; one of no wish.
func TestHome(t *testing.T) {
	l := row(wish(4, 2, 1), wish(9, 0, all), wish(2, -1, 3), wish(7, 7, all))
	home(t, l, nil)
	home(t, l, puts())
	home(t, l, puts(on(4, 2)), 4)
	home(t, l, puts(on(9, 0)), 9)
	home(t, l, puts(on(7, 7)), 7)
	home(t, l, puts(on(4, 2), on(9, 0), on(2, 1), on(7, 7)), 4, 9, 7)
	home(t, l, puts(on(7, 7), on(2, 1), on(9, 0), on(4, 2)), 7, 9, 4)
	home(t, l, puts(on(4, 2), on(9, 1), on(7, 7)), 4, 7)
	home(t, l, puts(on(4, 0), on(9, 2), on(7, 1)))
	home(t, l, puts(on(4, 3), on(9, 7), on(7, 6)))
	home(t, l, puts(on(2, 0), on(2, 1), on(2, 2), on(2, 7), on(2, -1)))
	home(t, l, puts(on(1, 2), on(5, 0), on(16, 7), on(9, 0)), 9)
	home(t, l, puts(on(0, 1), on(0, 3), on(0, -1), on(-1, -1), api.Put{}))
	home(t, nil, puts(on(1, 0), api.Put{}, on(4, 2)))
	home(t, row(), puts(on(1, 1)))
	for _, cpu := range append(outs(), -1) {
		home(t, l, puts(on(4, cpu), on(9, cpu), on(2, cpu), on(7, cpu)))
	}
	for _, id := range noIds() {
		for cpu := range maxCpus {
			home(t, l, puts(on(id, cpu)))
		}
	}
	for at := -1; at < maxCpus; at++ {
		for cpu := -1; cpu <= maxCpus; cpu++ {
			var want []int
			if at == cpu && at >= 0 {
				want = []int{11}
			}
			home(t, row(wish(11, at, 8)), puts(on(11, cpu)), want...)
		}
	}
}

// P13.3: many placements of many rows, whether fair or not, held against another telling.
func TestHomeAsTold(t *testing.T) {
	next := chance()
	met := 0
	for _, l := range rows() {
		given := told(l, someSet(next)|someSet(next)).puts
		for range 3 {
			want := homeAsTold(l, given)
			met += len(want)
			home(t, l, given, want...)
			given = disturbed(next, given)
		}
	}
	if met < 1000 {
		t.Errorf("%d were at home: too few to tell", met)
	}
}

// P13.3: both end soon of long rows of placements.
func TestLongRowsOfPlacements(t *testing.T) {
	const many = 1 << 17
	none := make([]api.Put, many)
	fair(t, three(), 7, none, false)
	home(t, three(), none)
	one := slices.Repeat(puts(on(9, 0)), many)
	fair(t, three(), 7, one, false)
	home(t, three(), one, slices.Repeat([]int{9}, many)...)
	made, _, _ := place.Place(three(), 7)
	fair(t, three(), 7, made, true)
	fair(t, three(), 7, append(made, none...), false)
}

// P13.4: what Place tells is fair; and with each of its placements left out it is not.
func TestWhatPlaceTellsIsFair(t *testing.T) {
	next := chance()
	for _, l := range rows() {
		free := someSet(next)
		made, _, _ := place.Place(l, free)
		fair(t, l, free, made, true)
		for i := range made {
			fair(t, l, free, slices.Delete(slices.Clone(made), i, i+1), false)
		}
	}
}

// P13.4: who stands first gets a pCPU, if its mask allows one that is free.
func TestTheFirstGetsOne(t *testing.T) {
	next := chance()
	met := map[bool]int{}
	for _, l := range rows() {
		if len(l) == 0 {
			continue
		}
		free := someSet(next)
		made, _, _ := place.Place(l, free)
		waits, _ := place.Waits(l, free)
		gets := free&l[0].Mask.Hard != 0
		met[gets]++
		if gets != (len(made) > 0 && made[0].Vcpu == l[0].Vcpu) || gets == slices.Contains(waits, l[0].Vcpu) {
			t.Errorf("of %v in %d come %v; %v wait", l, free, made, waits)
		}
	}
	if met[true] < 500 || met[false] < 500 {
		t.Errorf("%d could get one, %d could not: too few to tell", met[true], met[false])
	}
}

// P13.4: who is where it is, finds that free, and may have it, stays.
func TestWhoFindsItFreeStays(t *testing.T) {
	next := chance()
	stay := 0
	for _, l := range rows() {
		free := someSet(next)
		made, _, _ := place.Place(l, free)
		ids, _ := place.Home(l, made)
		for i, w := range l {
			ahead, _, _ := place.Place(l[:i], free)
			isTaken := slices.ContainsFunc(ahead, func(p api.Put) bool { return p.Cpu == w.At })
			stays := slices.Contains(in(free&w.Mask.Hard), w.At) && !isTaken
			if stays != slices.Contains(ids, w.Vcpu) || stays != slices.Contains(made, on(w.Vcpu, w.At)) {
				t.Errorf("of %v in %d come %v, of which %v are at home; want that of %d: %t", l, free, made, ids, w.Vcpu, stays)
			}
			if stays {
				stay++
			}
		}
	}
	if stay < 1000 {
		t.Errorf("%d stayed: too few to tell", stay)
	}
}

// P13.4: a wish more at the end changes nothing for those ahead.
func TestOneMoreAtTheEnd(t *testing.T) {
	next := chance()
	for _, l := range rows() {
		free := someSet(next)
		made, _, _ := place.Place(l, free)
		waits, _ := place.Waits(l, free)
		for i := range l {
			fewer, _, _ := place.Place(l[:i], free)
			wait, _ := place.Waits(l[:i], free)
			if len(fewer)+len(wait) != i || !slices.Equal(fewer, made[:len(fewer)]) || !slices.Equal(wait, waits[:len(wait)]) {
				t.Errorf("of %v in %d come %v, %v wait; of the first %d of them %v, %v wait", l, free, made, waits, i, fewer, wait)
			}
		}
	}
}

// P13.4: with masks that allow all the first of the row are placed, as many as are free, and none is free while one waits.
func TestMasksThatAllowAll(t *testing.T) {
	next := chance()
	for _, l := range rows() {
		l = slices.Clone(l)
		for i := range l {
			l[i].Mask.Hard = all
		}
		free := someSet(next)
		made, still, _ := place.Place(l, free)
		waits, _ := place.Waits(l, free)
		if len(made) != min(len(l), len(in(free))) || still != 0 && len(waits) != 0 {
			t.Errorf("of %v in %d come %v, %d are free, %v wait", l, free, made, still, waits)
		}
		for i, p := range made {
			if p.Vcpu != l[i].Vcpu {
				t.Errorf("of %v in %d come %v: %d is not the one at %d", l, free, made, p.Vcpu, i)
			}
		}
	}
}

// R5: asked again it tells the same.
func TestAskedAgain(t *testing.T) {
	next := chance()
	for _, l := range rows()[:500] {
		free := someSet(next)
		want := told(l, free)
		for range 3 {
			comes(t, l, free, want)
		}
	}
}

// R3: no call changes what it is handed, nor what stands behind its end; and that does not count.
func TestNothingIsChanged(t *testing.T) {
	next := chance()
	for _, l := range append(rows(), noRows()...) {
		free := someSet(next)
		given := puts(on(next(18), next(10)-1), on(next(18), next(10)-1))
		if rowMayBe(l) && next(2) == 0 {
			given = told(l, free).puts
		}
		wishes := append(slices.Clone(l), wish(5, 1, all), api.Wish{}, wish(5, 1, all))
		placed := append(slices.Clone(given), on(5, 1), api.Put{})
		short, some := wishes[:len(l)], placed[:len(given)]
		if no := place.Check(short); no != errorOf(l, 0) {
			t.Errorf("Check(%v): %d; want %d", l, no, errorOf(l, 0))
		}
		if errorOf(l, free) == api.OK {
			comes(t, short, free, told(l, free))
			fair(t, short, free, some, fairAsTold(l, free, given))
			home(t, short, some, homeAsTold(l, given)...)
		} else {
			refused(t, short, free, some, api.ErrWish)
		}
		if !slices.Equal(wishes[:len(l)], l) || !slices.Equal(wishes[len(l):], row(wish(5, 1, all), api.Wish{}, wish(5, 1, all))) {
			t.Errorf("of %v came %v", l, wishes)
		}
		if !slices.Equal(placed[:len(given)], given) || !slices.Equal(placed[len(given):], puts(on(5, 1), api.Put{})) {
			t.Errorf("of %v came %v", given, placed)
		}
	}
}

// R3: what is answered is new memory: it is neither another answer's nor what was handed in.
func TestAnswersAreNewMemory(t *testing.T) {
	next := chance()
	for _, l := range rows() {
		free := someSet(next) | someSet(next)
		want, was := told(l, free), slices.Clone(l)
		made, _, _ := place.Place(l, free)
		again, _, _ := place.Place(l, free)
		waits, _ := place.Waits(l, free)
		ids, _ := place.Home(l, again)
		clear(made[:cap(made)])
		clear(waits[:cap(waits)])
		clear(ids[:cap(ids)])
		if !slices.Equal(again, want.puts) || !slices.Equal(l, was) {
			t.Errorf("of %v, %v came %v, %v", was, want.puts, l, again)
		}
		comes(t, l, free, want)
	}
}

// R3: what is handed in is not kept.
func TestNothingIsKept(t *testing.T) {
	l, given := three(), puts(on(4, 2), on(9, 0))
	made, _, _ := place.Place(l, 7)
	waits, _ := place.Waits(l, 1)
	ids, _ := place.Home(l, given)
	clear(l)
	clear(given)
	if !slices.Equal(made, puts(on(4, 2), on(9, 0), on(2, 1))) || !slices.Equal(waits, []int{9, 2}) || !slices.Equal(ids, []int{4, 9}) {
		t.Errorf("what was answered is now %v, %v, %v", made, waits, ids)
	}
}

// The chapter's examples.
func TestExamples(t *testing.T) {
	comes(t, row(wish(3, 1, all), wish(5, -1, all)), 3, outcome{puts: puts(on(3, 1), on(5, 0))})
	comes(t, row(wish(5, -1, all), wish(3, 0, all), wish(4, -1, 1)), 3, outcome{puts: puts(on(5, 0), on(3, 1)), waits: []int{4}, moved: 1, waiting: 1})
	comes(t, row(likes(5, -1, all, 2)), 3, outcome{puts: puts(on(5, 1)), still: 1})
	refused(t, row(wish(5, -1, all), wish(5, -1, all)), 3, nil, api.ErrWish)
}
