package vtime_test

import (
	"fmt"
	"math"
	"math/big"
	"slices"
	"testing"

	"mainsheet/api"
	"mainsheet/vtime"
)

// The limits, as the document says them.
const (
	maxVcpus  = 16
	maxEach   = 8
	maxWeight = 65535
	maxGap    = 10000000
	slack     = 1 << 28
	most64    = math.MaxUint64
	mostHi    = 1<<36 - 1 // of 2^100 - 1
)

// bound is 2^100, which a fraction's number is below.
var bound = new(big.Int).Lsh(big.NewInt(1), 100)

// at is a fraction whose number has both halves.
func at(hi, lo, w uint64) api.Frac {
	return api.Frac{N: api.Wide{Hi: hi, Lo: lo}, W: w}
}

// of is a fraction of a small number.
func of(n, w uint64) api.Frac {
	return at(0, n, w)
}

// last is the greatest fraction over w.
func last(w uint64) api.Frac {
	return at(mostHi, most64, w)
}

// below is the greatest fraction over w, and so much less.
func below(less, w uint64) api.Frac {
	return at(mostHi, most64-less, w)
}

// runner is that of these numbers.
func runner(id, each int, time api.Frac) api.Runner {
	return api.Runner{Id: id, Each: each, Time: time}
}

// queue is that of these runners.
func queue(l ...api.Runner) api.Queue {
	return api.Queue{Runners: l}
}

// rowOf are runners of these Ids.
func rowOf(ids ...int) api.Queue {
	var q api.Queue
	for _, id := range ids {
		q.Runners = append(q.Runners, runner(id, 1+(id&7), of(uint64(100*id), uint64(1+(id&3)))))
	}
	return q
}

// of64 is n without bounds.
func of64(n uint64) *big.Int {
	return new(big.Int).SetUint64(n)
}

// rat is n over w, exact.
func rat(n, w uint64) *big.Rat {
	return new(big.Rat).SetFrac(of64(n), of64(w))
}

// plus is the sum, exact.
func plus(a, b *big.Rat) *big.Rat {
	return new(big.Rat).Add(a, b)
}

// minus is the difference, exact.
func minus(a, b *big.Rat) *big.Rat {
	return new(big.Rat).Sub(a, b)
}

// whole is a without bounds.
func whole(a api.Wide) *big.Int {
	n := new(big.Int).Lsh(of64(a.Hi), 64)
	return n.Add(n, of64(a.Lo))
}

// worth is the value of f, exact.
func worth(f api.Frac) *big.Rat {
	return new(big.Rat).SetFrac(whole(f.N), of64(f.W))
}

// over is a fraction of a number below 2^128.
func over(n *big.Int, w uint64) api.Frac {
	lo := new(big.Int).And(n, of64(most64))
	return at(new(big.Int).Rsh(n, 64).Uint64(), lo.Uint64(), w)
}

// up is the least whole number that is not less than v times w.
func up(v *big.Rat, w uint64) *big.Int {
	v = new(big.Rat).Mul(v, new(big.Rat).SetInt(of64(w)))
	q, rest := new(big.Int).DivMod(v.Num(), v.Denom(), new(big.Int))
	if rest.Sign() > 0 {
		q.Add(q, big.NewInt(1))
	}
	return q
}

// lifted is the fraction over w of the least number whose value is not less than v, or its error.
func lifted(v *big.Rat, w uint64) (api.Frac, api.Errno) {
	n := up(v, w)
	if n.Cmp(bound) >= 0 {
		return api.Frac{}, api.ErrRange
	}
	return over(n, w), api.OK
}

// world is a queue, told another way: who is there of each Id, and a zero where nobody is.
type world [maxVcpus + 1]api.Runner

// worldOf is that of these runners.
func worldOf(l ...api.Runner) world {
	var w world
	for _, r := range l {
		w[r.Id] = r
	}
	return w
}

// made is the queue.
func (w world) made() api.Queue {
	var q api.Queue
	for _, r := range w {
		if r.Id != 0 {
			q.Runners = append(q.Runners, r)
		}
	}
	return q
}

// has tells whether there is a runner of that Id.
func (w world) has(id int) bool {
	return id >= 1 && id <= maxVcpus && w[id].Id != 0
}

// top is the greatest value of all, nil if there is none; and whose Time it is first.
func (w world) top() (*big.Rat, api.Frac) {
	var top *big.Rat
	var first api.Frac
	for id := maxVcpus; id >= 1; id-- {
		if w.has(id) && (top == nil || worth(w[id].Time).Cmp(top) >= 0) {
			top, first = worth(w[id].Time), w[id].Time
		}
	}
	return top, first
}

// join is what Join makes of it, or its error.
func (w world) join(r api.Runner, boost uint64) (world, api.Errno) {
	switch {
	case !mayBe(r) || boost > maxGap:
		return world{}, api.ErrArg
	case w.has(r.Id):
		return world{}, api.ErrThere
	}
	if top, _ := w.top(); top != nil {
		highest, no := lifted(top, r.Time.W)
		if no != api.OK {
			return world{}, no
		}
		low := minus(top, lesser(rat(slack, 1), rat(boost*uint64(r.Each), r.Time.W)))
		switch v := worth(r.Time); {
		case low.Sign() < 0 && v.Cmp(top) <= 0:
		case v.Cmp(low) < 0:
			r.Time, _ = lifted(low, r.Time.W)
		case v.Cmp(top) > 0:
			r.Time = highest
		}
	}
	w[r.Id] = r
	return w, api.OK
}

// lesser is the lesser one of both.
func lesser(a, b *big.Rat) *big.Rat {
	if a.Cmp(b) < 0 {
		return a
	}
	return b
}

// enter is what Enter makes of it, or its error.
func (w world) enter(r api.Runner) (world, api.Errno) {
	switch {
	case !mayBe(r):
		return world{}, api.ErrArg
	case w.has(r.Id):
		return world{}, api.ErrThere
	}
	top, _ := w.top()
	if top == nil {
		top = new(big.Rat)
	}
	t, no := lifted(top, r.Time.W)
	if no != api.OK {
		return world{}, no
	}
	r.Time = t
	w[r.Id] = r
	return w, api.OK
}

// leave is what Leave makes of it, and who leaves, or its error.
func (w world) leave(id int) (world, api.Runner, api.Errno) {
	switch {
	case id < 1 || id > maxVcpus:
		return world{}, api.Runner{}, api.ErrArg
	case !w.has(id):
		return world{}, api.Runner{}, api.ErrNone
	}
	r := w[id]
	w[id] = api.Runner{}
	return w, r, api.OK
}

// absent is why not all of these are there, in the order of the errors.
func (w world) absent(ids []int) api.Errno {
	least := 0
	for _, id := range ids {
		if id <= least || id > maxVcpus {
			return api.ErrArg
		}
		least = id
	}
	for _, id := range ids {
		if !w.has(id) {
			return api.ErrNone
		}
	}
	return api.OK
}

// run is what Run makes of it, or its error.
func (w world) run(ids []int, dt int64) (world, api.Errno) {
	if dt < 0 || dt > maxGap {
		return world{}, api.ErrArg
	}
	if no := w.absent(ids); no != api.OK {
		return world{}, no
	}
	for _, id := range ids {
		r := &w[id]
		n := new(big.Int).Add(whole(r.Time.N), of64(uint64(r.Each)*uint64(dt)))
		if n.Cmp(bound) >= 0 {
			return world{}, api.ErrRange
		}
		r.Time = over(n, r.Time.W)
	}
	return w, api.OK
}

// clip is what Clip makes of it, and whom it lifts, or its error.
func (w world) clip() (world, []int, api.Errno) {
	top, _ := w.top()
	var ids []int
	for id := range w {
		if !w.has(id) || minus(top, worth(w[id].Time)).Cmp(rat(slack, 1)) <= 0 {
			continue
		}
		t, no := lifted(minus(top, rat(slack, 1)), w[id].Time.W)
		if no != api.OK {
			return world{}, nil, no
		}
		w[id].Time = t
		ids = append(ids, id)
	}
	return w, ids, api.OK
}

// weigh is what Weigh makes of it, or its error.
func (w world) weigh(ids []int, weight uint64, each int) (world, api.Errno) {
	if weight < 1 || weight > maxWeight || each < 1 || each > maxEach {
		return world{}, api.ErrArg
	}
	if no := w.absent(ids); no != api.OK {
		return world{}, no
	}
	for _, id := range ids {
		t, no := lifted(worth(w[id].Time), weight)
		if no != api.OK {
			return world{}, no
		}
		w[id].Each, w[id].Time = each, t
	}
	return w, api.OK
}

// mayBe tells whether r may be, as the chapter says it.
func mayBe(r api.Runner) bool {
	number, weight := r.Time.N.Hi < 1<<36, 1 <= r.Time.W && r.Time.W <= maxWeight
	return 1 <= r.Id && r.Id <= maxVcpus && 1 <= r.Each && r.Each <= maxEach && number && weight
}

// queueMayBe tells whether q may be, as the chapter says it.
func queueMayBe(q api.Queue) bool {
	may := true
	for place, r := range q.Runners {
		may = may && mayBe(r) && (place == 0 || q.Runners[place-1].Id < r.Id)
	}
	return may
}

// chance tells numbers below n by a short rule, the same whenever it is asked anew.
func chance() func(n int) int {
	x := uint64(9)
	return func(n int) int {
		x = x*6364136223846793005 + 1442695040888963407
		return int(x >> 33 % uint64(n))
	}
}

// weights are edges of all weights, and some between them.
func weights() []uint64 {
	return []uint64{1, 2, 3, 7, 10, 256, 1000, 65534, 65535}
}

// bases are values around which Times are asked for: the least ones, those of one weight alone, those that come to just 2^100 over a weight, the greatest one.
func bases() []*big.Rat {
	l := []*big.Rat{rat(0, 1), rat(1, 3), rat(10, 3), rat(5000, 7), rat(slack, 1), rat(2*slack+1, 2), rat(3*slack+1, 3), rat(1<<40, 7), rat(1<<62, 1)}
	for _, w := range weights() {
		l = append(l, new(big.Rat).SetFrac(bound, of64(w)))
	}
	return append(l, worth(last(1)), new(big.Rat).SetFrac(new(big.Int).Lsh(big.NewInt(1), 99), big.NewInt(3)))
}

// near is a Time over w around a value: there, just below and above, by boosts below, by the Slack below and above, anywhere.
func near(next func(int) int, v *big.Rat, w uint64) api.Frac {
	far := slack * int64(w)
	gaps := []int64{0, 1, -1, 2, -90, -maxGap, -8 * maxGap, -far, 1 - far, -1 - far, far, far - 1, far + 1, int64(next(slack)), -int64(next(slack)), -far * int64(next(9)), far * int64(next(9))}
	n := new(big.Int).Add(up(v, w), big.NewInt(gaps[next(len(gaps))]))
	if n.Sign() < 0 {
		n.SetInt64(0)
	}
	if n.Cmp(bound) >= 0 {
		return last(w)
	}
	return over(n, w)
}

// someRunner is one of that Id that may be.
func someRunner(next func(int) int, id int, v *big.Rat) api.Runner {
	l := weights()
	w := l[next(len(l))]
	if next(2) == 0 {
		w = 1 + uint64(next(maxWeight))
	}
	return runner(id, 1+next(maxEach), near(next, v, w))
}

// someWorld is one of few runners, of many, or of something in between, whose Times are around that value.
func someWorld(next func(int) int, v *big.Rat) world {
	var w world
	often := 1 + next(10)
	for id := 1; id <= maxVcpus; id++ {
		if next(10) < often {
			w[id] = someRunner(next, id, v)
		}
	}
	return w
}

// worlds are some: those at the edges, and many others.
func worlds() []world {
	var full, high world
	for id := 1; id <= maxVcpus; id++ {
		full[id], high[id] = runner(id, maxEach, of(uint64(id*id), uint64(17-id))), runner(id, 1, last(uint64(id)))
	}
	l := []world{{}, worldOf(runner(1, 1, of(0, 1))), worldOf(runner(16, 8, last(maxWeight))), full, high}
	next := chance()
	for range 12 {
		for _, v := range bases() {
			l = append(l, someWorld(next, v))
		}
	}
	return l
}

// noTimes are some that may not be: of a number that is too great, over no weight.
func noTimes() []api.Frac {
	return []api.Frac{{}, of(0, 0), of(5, 0), of(0, 65536), of(7, 65536), of(1, 65537), of(1, 1<<32), of(1, 1<<32|1), of(1, most64), at(1<<36, 0, 1), at(1<<36, 0, 65535), at(1<<36, most64, 3), at(1<<63, 0, 1), at(most64, most64, 65535), last(0), last(65536), at(1<<36, 0, 65536)}
}

// noRunners are some that may not be, most of them of that Id: each number one below the least, one above the greatest, and far beyond.
func noRunners(id int) []api.Runner {
	good := of(30, 4)
	l := []api.Runner{{}, {Id: id}, {Id: id, Each: 1}, {Id: id, Time: good}, {Each: 1, Time: good}}
	for _, far := range []int{0, -1, -256, -1 << 32, math.MinInt, math.MinInt + 1, 1 << 31, 1<<32 + 1, 1 << 62, math.MaxInt} {
		l = append(l, runner(far, 1, good), runner(id, far, good))
	}
	for _, t := range noTimes() {
		l = append(l, runner(id, 1, t), runner(id, 8, t))
	}
	return append(l, runner(17, 1, good), runner(id, 9, good), runner(17, 8, good), runner(0, 0, of(0, 0)), runner(17, 9, of(0, 65536)))
}

// edgeRunners are some that may be, of that Id, each number at its bounds.
func edgeRunners(id int) []api.Runner {
	var l []api.Runner
	for _, each := range []int{1, 2, maxEach - 1, maxEach} {
		for _, t := range []api.Frac{of(0, 1), of(0, maxWeight), of(1, 1), of(7, 3), of(most64, 2), last(1), last(2), last(maxWeight)} {
			l = append(l, runner(id, each, t))
		}
	}
	return l
}

// noQueues are some that may not be; the fault is in one runner, or between two of them.
func noQueues() []api.Queue {
	var l []api.Queue
	for _, r := range noRunners(5) {
		l = append(l, queue(r), queue(append(rowOf(1, 2).Runners, r)...), queue(append([]api.Runner{r}, rowOf(6, 16).Runners...)...), queue(slices.Insert(rowOf(3, 16).Runners, 1, r)...))
	}
	for _, ids := range [][]int{{1, 1}, {16, 16}, {2, 1}, {16, 1}, {16, 15}, {1, 3, 2}, {2, 1, 3}, {1, 2, 2}, {1, 1, 2}, {3, 2, 1}, {1, 2, 1}, {4, 5, 4}, {1, 16, 2}, {1, 17}, {0, 1}, {-1, 1}, {1, 2, 3, 4, 5, 6, 7, 8, 9, 10, 11, 12, 13, 14, 16, 15}, {1, 2, 3, 4, 5, 6, 7, 8, 9, 10, 11, 12, 13, 14, 15, 16, 16}, {1, 2, 3, 4, 5, 6, 7, 8, 9, 10, 11, 12, 13, 14, 15, 16, 17}} {
		l = append(l, rowOf(ids...))
	}
	for _, n := range []int{17, 256, 65537, 1000000} {
		rises := make([]api.Runner, n)
		for i := range rises {
			rises[i] = runner(i+1, 1, of(5, 2))
		}
		l = append(l, queue(rises...), queue(make([]api.Runner, n)...), queue(slices.Repeat(rowOf(3).Runners, n)...))
	}
	return l
}

// noRows are rows of Ids that do not rise, or that no runner has.
func noRows() [][]int {
	return [][]int{{0}, {-1}, {17}, {18}, {math.MinInt}, {math.MaxInt}, {1 << 32}, {1<<32 + 1}, {0, 1}, {1, 17}, {16, 17}, {1, 1}, {16, 16}, {2, 1}, {16, 1}, {3, 5, 4}, {5, 3, 9}, {3, 3, 5}, {3, 5, 5}, {1, 2, 3, 2}, {3, 9, 17}, {3, 0, 9}, slices.Repeat([]int{3}, 17), slices.Repeat([]int{3}, 300)}
}

// numbers are those of runners, those just beyond, and very great and very small ones.
func numbers() []int {
	l := []int{math.MinInt, math.MinInt + 1, -1 << 32, -256, -2, -1, 31, 32, 256, 257, 1 << 31, 1<<32 + 1, 1<<32 + 2, 1 << 62, math.MaxInt}
	for n := range maxVcpus + 3 {
		l = append(l, n)
	}
	return l
}

// boosts are those at the edges, and some between them.
func boosts() []uint64 {
	return []uint64{0, 1, 2, 90, 999, 2000000, maxGap - 1, maxGap}
}

// noBoosts are those that are too great, the Slack among them.
func noBoosts() []uint64 {
	return []uint64{maxGap + 1, slack - 1, slack, slack + 1, 1 << 32, 1<<32 | 5, 1 << 63, most64 - 1, most64}
}

// asked names a call and what it was handed besides a queue.
func asked(name string, args ...any) string {
	return fmt.Sprintf("%s%v", name, args)
}

// tell is a short text of a queue: of many runners how many they are.
func tell(q api.Queue) string {
	if len(q.Runners) > 20 {
		return fmt.Sprint(len(q.Runners), " runners")
	}
	s := "{"
	for _, r := range q.Runners {
		s += fmt.Sprintf(" %d: %d, %v/%d", r.Id, r.Each, whole(r.Time.N), r.Time.W)
	}
	return s + " }"
}

// alike tells whether both have the same runners.
func alike(a, b api.Queue) bool {
	return slices.Equal(a.Runners, b.Runners)
}

// becomes asks for a queue, and an error.
func becomes(t *testing.T, where string, was, want api.Queue, wantNo api.Errno) func(api.Queue, api.Errno) {
	return func(q api.Queue, no api.Errno) {
		t.Helper()
		if !alike(q, want) || no != wantNo {
			t.Errorf("%s of %s: %s, %d; want %s, %d", where, tell(was), tell(q), no, tell(want), wantNo)
		}
	}
}

// joins asks Join.
func joins(t *testing.T, q api.Queue, r api.Runner, boost uint64, want api.Queue, wantNo api.Errno) {
	t.Helper()
	becomes(t, asked("Join", r, boost), q, want, wantNo)(vtime.Join(q, r, boost))
}

// enters asks Enter.
func enters(t *testing.T, q api.Queue, r api.Runner, want api.Queue, wantNo api.Errno) {
	t.Helper()
	becomes(t, asked("Enter", r), q, want, wantNo)(vtime.Enter(q, r))
}

// leaves asks Leave.
func leaves(t *testing.T, q api.Queue, id int, want api.Queue, wantWho api.Runner, wantNo api.Errno) {
	t.Helper()
	left, who, no := vtime.Leave(q, id)
	becomes(t, asked("Leave", id), q, want, wantNo)(left, no)
	if who != wantWho {
		t.Errorf("Leave(%s, %d): %v; want %v", tell(q), id, who, wantWho)
	}
}

// runs asks Run.
func runs(t *testing.T, q api.Queue, ids []int, dt int64, want api.Queue, wantNo api.Errno) {
	t.Helper()
	becomes(t, asked("Run", ids, dt), q, want, wantNo)(vtime.Run(q, ids, dt))
}

// clips asks Clip.
func clips(t *testing.T, q, want api.Queue, wantIds []int, wantNo api.Errno) {
	t.Helper()
	got, ids, no := vtime.Clip(q)
	becomes(t, "Clip", q, want, wantNo)(got, no)
	if !slices.Equal(ids, wantIds) {
		t.Errorf("Clip(%s): %v; want %v", tell(q), ids, wantIds)
	}
}

// weighs asks Weigh.
func weighs(t *testing.T, q api.Queue, ids []int, weight uint64, each int, want api.Queue, wantNo api.Errno) {
	t.Helper()
	becomes(t, asked("Weigh", ids, weight, each), q, want, wantNo)(vtime.Weigh(q, ids, weight, each))
}

// checks asks Check for an error.
func checks(t *testing.T, q api.Queue, want api.Errno) {
	t.Helper()
	if no := vtime.Check(q); no != want {
		t.Errorf("Check(%s): %d; want %d", tell(q), no, want)
	}
}

// checksRunner asks CheckRunner for an error.
func checksRunner(t *testing.T, r api.Runner, want api.Errno) {
	t.Helper()
	if no := vtime.CheckRunner(r); no != want {
		t.Errorf("CheckRunner(%v): %d; want %d", r, no, want)
	}
}

// tops asks Top.
func tops(t *testing.T, q api.Queue, want api.Frac, wantSome bool) {
	t.Helper()
	if top, some := vtime.Top(q); top != want || some != wantSome {
		t.Errorf("Top(%s): %v, %v; want %v, %v", tell(q), top, some, want, wantSome)
	}
}

// gets asks Get; a zero stands for none.
func gets(t *testing.T, q api.Queue, id int, want api.Runner) {
	t.Helper()
	if r, there := vtime.Get(q, id); r != want || there != (want.Id != 0) {
		t.Errorf("Get(%s, %d): %v, %v; want %v", tell(q), id, r, there, want)
	}
}

// same asks Same, both ways.
func same(t *testing.T, a, b api.Queue, want bool) {
	t.Helper()
	if one, other := vtime.Same(a, b), vtime.Same(b, a); one != want || other != want {
		t.Errorf("Same(%s, %s): %v, and the other way %v; want %v", tell(a), tell(b), one, other, want)
	}
}

// P10.1: no runners at all; each number at both bounds; all Ids that there are.
func TestCheck(t *testing.T) {
	checks(t, api.Queue{}, api.OK)
	checks(t, api.Queue{Runners: []api.Runner{}}, api.OK)
	for id := 1; id <= maxVcpus; id++ {
		for _, r := range edgeRunners(id) {
			checksRunner(t, r, api.OK)
			checks(t, queue(r), api.OK)
		}
	}
	for _, ids := range [][]int{{1}, {16}, {1, 16}, {2, 3}, {15, 16}, {1, 3, 5, 7}, {2, 4, 6, 8, 10, 12, 14, 16}, {1, 2, 3, 4, 5, 6, 7, 8, 9, 10, 11, 12, 13, 14, 15, 16}} {
		checks(t, rowOf(ids...), api.OK)
	}
	for _, w := range worlds() {
		checks(t, w.made(), api.OK)
	}
	checks(t, queue(runner(1, 8, of(9, 5)), runner(2, 1, of(0, 5)), runner(3, 2, of(9, 5)), runner(16, 1, last(1))), api.OK)
}

// P10.1: a number out of its bounds, a Time that may not be, Ids that fall, Ids twice.
func TestCheckRefuses(t *testing.T) {
	for _, q := range noQueues() {
		checks(t, q, api.ErrQueue)
	}
	for id := 1; id <= maxVcpus; id++ {
		for _, r := range noRunners(id) {
			checksRunner(t, r, api.ErrArg)
			checks(t, queue(r), api.ErrQueue)
		}
	}
}

// P10.1: queues of which a number was made another one.
func TestCheckOfWhatWasMadeAnother(t *testing.T) {
	next, may, no := chance(), 0, 0
	ints := []int{-1, 0, 1, 2, 3, 5, 7, 8, 9, 10, 15, 16, 17}
	halves := []uint64{0, 1, 2, 65534, 65535, 65536, 65537, mostHi - 1, mostHi, mostHi + 1, mostHi + 2, 1 << 32, 1 << 63, most64}
	for range 30000 {
		q := someWorld(next, rat(300, 7)).made()
		if len(q.Runners) > 0 {
			r := &q.Runners[next(len(q.Runners))]
			switch next(4) {
			case 0:
				r.Id = ints[next(len(ints))]
			case 1:
				r.Each = ints[next(len(ints))]
			case 2:
				r.Time.N.Hi = halves[next(len(halves))]
			case 3:
				r.Time.W = halves[next(len(halves))]
			}
			one := api.OK
			if !mayBe(*r) {
				one = api.ErrArg
			}
			checksRunner(t, *r, one)
		}
		want := api.OK
		if !queueMayBe(q) {
			want = api.ErrQueue
			no++
		} else {
			may++
		}
		checks(t, q, want)
	}
	if may < 1000 || no < 1000 {
		t.Errorf("only %d that may be, and %d that may not", may, no)
	}
}

// P10.1: none; the first one, one between, the last one; two that have one value, of the same parts and of others.
func TestTopByHand(t *testing.T) {
	tops(t, api.Queue{}, api.Frac{}, false)
	tops(t, api.Queue{Runners: []api.Runner{}}, api.Frac{}, false)
	for _, c := range []struct {
		l    []api.Frac
		want api.Frac
	}{
		{[]api.Frac{of(0, 7)}, of(0, 7)},
		{[]api.Frac{of(0, 7), of(0, 3)}, of(0, 7)},
		{[]api.Frac{of(0, 7), of(1, 65535)}, of(1, 65535)},
		{[]api.Frac{of(3, 1), of(2, 1), of(1, 1)}, of(3, 1)},
		{[]api.Frac{of(1, 1), of(3, 1), of(2, 1)}, of(3, 1)},
		{[]api.Frac{of(1, 1), of(2, 1), of(3, 1)}, of(3, 1)},
		{[]api.Frac{of(100, 10), of(300, 20)}, of(300, 20)},
		{[]api.Frac{of(100, 10), of(99, 9)}, of(99, 9)},
		{[]api.Frac{of(1, 2), of(2, 4), of(3, 6)}, of(1, 2)},
		{[]api.Frac{of(3, 6), of(2, 4), of(1, 2)}, of(3, 6)},
		{[]api.Frac{of(1, 3), of(2, 4), of(1, 2), of(1, 5)}, of(2, 4)},
		{[]api.Frac{of(1, 65535), of(1, 65534)}, of(1, 65534)},
		{[]api.Frac{of(65533, 65534), of(65534, 65535)}, of(65534, 65535)},
		{[]api.Frac{last(65535), last(1), last(2)}, last(1)},
		{[]api.Frac{below(1, 65535), last(65535), last(65535)}, last(65535)},
		{[]api.Frac{of(most64, 1), at(1, 0, 1)}, at(1, 0, 1)},
	} {
		for shift := range 3 {
			var q api.Queue
			for i, f := range c.l {
				q.Runners = append(q.Runners, runner(1+i*(1+shift)+shift, 8-i, f))
			}
			tops(t, q, c.want, true)
		}
	}
}

// P10.1: the top of many, held against their exact values; and who is there.
func TestTopAndGet(t *testing.T) {
	for _, w := range worlds() {
		q := w.made()
		top, first := w.top()
		tops(t, q, first, top != nil)
		for _, id := range numbers() {
			if w.has(id) {
				gets(t, q, id, w[id])
			} else {
				gets(t, q, id, api.Runner{})
			}
		}
	}
}

// P10.1: of a queue that may not be there is nothing.
func TestNothingOfWhatMayNotBe(t *testing.T) {
	for _, q := range noQueues() {
		tops(t, q, api.Frac{}, false)
		for _, id := range append(numbers(), 3, 5, 9) {
			gets(t, q, id, api.Runner{})
		}
	}
}

// P10.1: queues that differ in one field of one runner, in how many they are, in who stands where, in nothing; and Times of one value that are told by other parts.
func TestSame(t *testing.T) {
	q := func() api.Queue {
		return queue(runner(3, 2, at(4, 6, 8)), runner(7, 2, at(4, 6, 8)), runner(9, 3, of(1, 2)))
	}
	same(t, q(), q(), true)
	same(t, api.Queue{}, api.Queue{Runners: make([]api.Runner, 0, 3)}, true)
	same(t, q(), api.Queue{}, false)
	for place := range 3 {
		for _, differ := range []func(r *api.Runner){
			func(r *api.Runner) { r.Id++ },
			func(r *api.Runner) { r.Each++ },
			func(r *api.Runner) { r.Time.N.Hi++ },
			func(r *api.Runner) { r.Time.N.Lo++ },
			func(r *api.Runner) { r.Time.W++ },
			func(r *api.Runner) { r.Time = over(new(big.Int).Lsh(whole(r.Time.N), 1), 2*r.Time.W) },
		} {
			other := q()
			differ(&other.Runners[place])
			same(t, q(), other, false)
			same(t, queue(q().Runners[place]), queue(other.Runners[place]), false)
		}
		same(t, q(), queue(slices.Delete(q().Runners, place, place+1)...), false)
		same(t, q(), queue(q().Runners[:place]...), false)
	}
	same(t, q(), queue(append(q().Runners, runner(10, 1, of(0, 1)))...), false)
}

// P10.1: queues that may not be are held against each other field by field, too.
func TestSameOfWhatMayNotBe(t *testing.T) {
	l := noQueues()
	for i, q := range l {
		other := l[(i+1)%len(l)]
		same(t, q, queue(slices.Clone(q.Runners)...), true)
		same(t, q, api.Queue{}, false)
		same(t, q, other, alike(q, other))
	}
	same(t, rowOf(1, 2), rowOf(2, 1), false)
}

// P10.2, P10.3, P10.4: a queue that may not be, ahead of all else: of arguments that would be done, and of those that have another error.
func TestQueuesThatMayNotBe(t *testing.T) {
	for _, q := range noQueues() {
		for _, r := range []api.Runner{{}, runner(4, 1, of(3, 4)), runner(3, 1, of(3, 4)), runner(5, 9, of(3, 4)), runner(17, 1, of(3, 4)), runner(4, 1, of(3, 0))} {
			for _, boost := range []uint64{0, maxGap, maxGap + 1} {
				joins(t, q, r, boost, api.Queue{}, api.ErrQueue)
			}
			enters(t, q, r, api.Queue{}, api.ErrQueue)
		}
		for _, id := range []int{-1, 0, 1, 2, 3, 5, 16, 17} {
			leaves(t, q, id, api.Queue{}, api.Runner{}, api.ErrQueue)
		}
		for _, ids := range [][]int{nil, {1}, {3}, {5}, {1, 2}, {0}, {17}, {2, 1}, {3, 3}} {
			for _, dt := range []int64{-1, 0, 5, maxGap, maxGap + 1} {
				runs(t, q, ids, dt, api.Queue{}, api.ErrQueue)
			}
			for _, weight := range []uint64{0, 1, maxWeight, maxWeight + 1} {
				for _, each := range []int{0, 1, 8, 9} {
					weighs(t, q, ids, weight, each, api.Queue{}, api.ErrQueue)
				}
			}
		}
		clips(t, q, api.Queue{}, nil, api.ErrQueue)
	}
}

// P10.2: a runner that may not be, and a boost that is too great, ahead of an Id that is there, ahead of a top that is too great.
func TestJoinAndEnterRefuse(t *testing.T) {
	high := queue(runner(2, 1, of(5, 3)), runner(5, 1, last(1)), runner(9, 8, of(0, 2)))
	for _, q := range []api.Queue{{}, rowOf(5), rowOf(2, 5, 9), rowOf(3, 8), high} {
		for id := 1; id <= maxVcpus; id++ {
			for _, r := range noRunners(id) {
				for _, boost := range []uint64{0, maxGap, maxGap + 1, most64} {
					joins(t, q, r, boost, api.Queue{}, api.ErrArg)
				}
				enters(t, q, r, api.Queue{}, api.ErrArg)
			}
			for _, r := range edgeRunners(id) {
				for _, boost := range noBoosts() {
					joins(t, q, r, boost, api.Queue{}, api.ErrArg)
				}
			}
		}
	}
	for _, id := range []int{2, 5, 9} {
		for _, r := range edgeRunners(id) {
			for _, boost := range boosts() {
				joins(t, high, r, boost, api.Queue{}, api.ErrThere)
			}
			enters(t, high, r, api.Queue{}, api.ErrThere)
		}
	}
	for _, id := range []int{1, 3, 6, 16} {
		for _, each := range []int{1, 8} {
			for _, time := range []api.Frac{of(0, 2), of(9, 2), last(2), of(0, 3), last(3), of(0, 65535), last(65535)} {
				r := runner(id, each, time)
				for _, boost := range boosts() {
					joins(t, high, r, boost, api.Queue{}, api.ErrRange)
				}
				enters(t, high, r, api.Queue{}, api.ErrRange)
			}
		}
	}
}

// P10.2: a top that comes to 2^100 over the runner's weight, or to one less, whatever Time comes.
func TestJoinAndEnterAtTheBound(t *testing.T) {
	for _, c := range []struct {
		top  api.Frac
		w    uint64
		want api.Frac
		no   api.Errno
	}{
		{last(1), 1, last(1), api.OK},
		{last(maxWeight), maxWeight, last(maxWeight), api.OK},
		{last(2), 1, at(1<<35, 0, 1), api.OK}, // rounded up
		{at(1<<35, 0, 1), 2, api.Frac{}, api.ErrRange},
		{at(1<<35-1, most64, 1), 2, below(1, 2), api.OK},
		{at(3<<34, 0, 3), 4, api.Frac{}, api.ErrRange},
		{at(3<<34-1, most64, 3), 4, last(4), api.OK}, // one and a third less, rounded up
		{at(1<<20, 0, 1), 65535, at(65535<<20, 0, 65535), api.OK},
		{at(1<<21, 0, 1), 65535, api.Frac{}, api.ErrRange},
		{last(65534), 65535, api.Frac{}, api.ErrRange},
	} {
		for _, time := range []api.Frac{of(0, c.w), of(7, c.w), last(c.w)} {
			q, r := queue(runner(2, 3, c.top)), runner(5, 2, time)
			want := api.Queue{}
			if c.no == api.OK {
				want = queue(q.Runners[0], runner(5, 2, c.want))
			}
			joins(t, q, r, 0, want, c.no)
			enters(t, q, r, want, c.no)
		}
	}
	// the Time that comes is far below 2^100, but the top is not
	q := queue(runner(1, 1, at(1<<35, 0, 1)))
	joins(t, q, runner(2, 1, of(0, 2)), 1, api.Queue{}, api.ErrRange)
	joins(t, q, runner(2, 8, of(0, 2)), maxGap, api.Queue{}, api.ErrRange)
	joins(t, q, runner(2, 1, of(0, 1)), 1, queue(q.Runners[0], runner(2, 1, at(1<<35-1, most64, 1))), api.OK)
}

// P10.2: a Time below the lower bound, at it, between the two, at the top, above it; bounds that have to be rounded, that are below 0, that are one.
func TestJoinByHand(t *testing.T) {
	q := queue(runner(1, 1, of(100, 10)), runner(2, 2, of(300, 20))) // the top is 15
	third := queue(runner(6, 1, of(10, 3)))
	least := queue(runner(16, 8, of(1, 3)))
	high := queue(runner(4, 1, of(1000000000, 1)), runner(8, 1, of(2000000000, 2)))
	for _, c := range []struct {
		q           api.Queue
		each        int
		w, boost    uint64
		low, top    uint64 // over w
		wantBetween bool
	}{
		{q, 1, 30, 90, 360, 450, true},
		{q, 2, 30, 90, 270, 450, true},
		{q, 8, 30, 50, 50, 450, true},
		{q, 1, 30, 0, 450, 450, false},
		{q, 8, 30, 0, 450, 450, false},
		{q, 1, 30, 1, 449, 450, false},
		{q, 1, 30, 449, 1, 450, true},
		{q, 1, 30, 450, 0, 450, true},
		{q, 1, 30, 451, 0, 450, true},
		{q, 3, 30, 149, 3, 450, true},
		{q, 3, 30, 151, 0, 450, true},
		{q, 1, 30, maxGap, 0, 450, true},
		{q, 1, 1, 2, 13, 15, true},
		{q, 4, 1, 2, 7, 15, true},
		{q, 1, 65535, 65535, 917490, 983025, true},
		{third, 1, 2, 0, 7, 7, false},  // 20/3 over 2, rounded up
		{third, 1, 2, 1, 6, 7, false},  // 17/3
		{third, 1, 2, 2, 5, 7, true},   // 14/3
		{third, 8, 2, 1, 0, 7, true},   // 10/3 less 4
		{third, 2, 1, 1, 2, 4, true},   // 4/3, 10/3
		{third, 1, 3, 4, 6, 10, true},  // no rounding
		{third, 1, 7, 9, 15, 24, true}, // 43/3, 70/3
		{least, 1, 2, 0, 1, 1, false},
		{least, 1, 2, 1, 0, 1, false},
		{least, 1, 1, 0, 1, 1, false},
		{least, 1, 65535, 1, 21844, 21845, false},
		{high, 1, 1, maxGap, 990000000, 1000000000, true},
		{high, 8, 1, maxGap, 920000000, 1000000000, true},
		{high, 8, 2, maxGap, 1920000000, 2000000000, true},
		{high, 8, 1, maxGap - 1, 920000008, 1000000000, true},
	} {
		comes := func(n, want uint64) {
			t.Helper()
			r := runner(7, c.each, of(n, c.w))
			w := worldOf(c.q.Runners...)
			w[7] = runner(7, c.each, of(want, c.w))
			joins(t, c.q, r, c.boost, w.made(), api.OK)
		}
		comes(0, c.low)
		comes(c.low, c.low)
		comes(c.top, c.top)
		comes(c.top+1, c.top)
		comes(c.top+1000000, c.top)
		comes(most64, c.top)
		if c.low > 0 {
			comes(c.low-1, c.low)
		}
		if c.low < c.top {
			comes(c.low+1, c.low+1)
			comes(c.top-1, c.top-1)
		}
		if c.wantBetween {
			comes((c.low+c.top)/2, (c.low+c.top)/2)
		}
	}
}

// P10.2: where nobody is, who joins comes as it is, and who enters at 0.
func TestJoinAndEnterWhereNobodyIs(t *testing.T) {
	for id := 1; id <= maxVcpus; id++ {
		for _, r := range edgeRunners(id) {
			for _, boost := range boosts() {
				joins(t, api.Queue{}, r, boost, queue(r), api.OK)
			}
			enters(t, api.Queue{}, r, queue(runner(id, r.Each, of(0, r.Time.W))), api.OK)
		}
	}
	joins(t, api.Queue{}, runner(3, 1, of(5, 2)), maxGap+1, api.Queue{}, api.ErrArg)
}

// P10.2: who enters comes to the top, from wherever.
func TestEnterByHand(t *testing.T) {
	for _, c := range []struct {
		top  api.Frac
		w, n uint64
	}{
		{of(300, 20), 40, 600}, {of(300, 20), 1, 15}, {of(301, 20), 1, 16}, {of(301, 20), 20, 301}, {of(10, 3), 2, 7}, {of(10, 3), 3, 10}, {of(9, 3), 2, 6}, {of(0, 3), 65535, 0}, {of(1, 65535), 1, 1}, {of(1, 65535), 65534, 1}, {of(65535, 65535), 7, 7}, {of(65534, 65535), 7, 7}, {of(65536, 65535), 7, 8},
	} {
		q := queue(runner(4, 2, c.top), runner(9, 3, of(0, 5)))
		for _, n := range []uint64{0, 1, 9, c.n, c.n + 1, 1 << 40, most64} {
			enters(t, q, runner(2, 1, of(n, c.w)), queue(runner(2, 1, of(c.n, c.w)), q.Runners[0], q.Runners[1]), api.OK)
			enters(t, q, runner(6, 8, of(n, c.w)), queue(q.Runners[0], runner(6, 8, of(c.n, c.w)), q.Runners[1]), api.OK)
		}
	}
}

// P10.2: a runner ahead of all others, between two, behind all; who leaves is what was there.
func TestWhereTheyStand(t *testing.T) {
	for _, c := range []struct {
		ids  []int
		id   int
		want []int
	}{
		{nil, 1, []int{1}}, {nil, 16, []int{16}}, {[]int{2}, 1, []int{1, 2}}, {[]int{2}, 3, []int{2, 3}}, {[]int{2, 8}, 1, []int{1, 2, 8}}, {[]int{2, 8}, 3, []int{2, 3, 8}}, {[]int{2, 8}, 7, []int{2, 7, 8}}, {[]int{1, 15}, 16, []int{1, 15, 16}},
		{[]int{2, 3, 4, 5, 6, 7, 8, 9, 10, 11, 12, 13, 14, 15, 16}, 1, []int{1, 2, 3, 4, 5, 6, 7, 8, 9, 10, 11, 12, 13, 14, 15, 16}},
		{[]int{1, 2, 3, 4, 5, 6, 7, 8, 10, 11, 12, 13, 14, 15, 16}, 9, []int{1, 2, 3, 4, 5, 6, 7, 8, 9, 10, 11, 12, 13, 14, 15, 16}},
		{[]int{1, 2, 3, 4, 5, 6, 7, 8, 9, 10, 11, 12, 13, 14, 15}, 16, []int{1, 2, 3, 4, 5, 6, 7, 8, 9, 10, 11, 12, 13, 14, 15, 16}},
	} {
		q, who := rowOf(c.ids...), rowOf(c.id).Runners[0]
		want := rowOf(c.want...)
		place := slices.Index(c.want, c.id)
		top, _ := worldOf(q.Runners...).top()
		if top == nil {
			top = new(big.Rat)
		}
		want.Runners[place].Time, _ = lifted(top, who.Time.W)
		enters(t, q, who, want, api.OK)
		if len(c.ids) == 0 {
			want.Runners[place].Time = who.Time
		}
		joins(t, q, who, 0, want, api.OK)
		leaves(t, rowOf(c.want...), c.id, q, who, api.OK)
	}
}

// P10.2: a number that no runner has, ahead of a runner that is not there; the first one, one between, the last one.
func TestLeaveByHand(t *testing.T) {
	a, b, c := runner(2, 1, of(5, 3)), runner(5, 8, last(7)), runner(16, 3, of(0, 1))
	q := queue(a, b, c)
	leaves(t, q, 2, queue(b, c), a, api.OK)
	leaves(t, q, 5, queue(a, c), b, api.OK)
	leaves(t, q, 16, queue(a, b), c, api.OK)
	leaves(t, queue(b), 5, api.Queue{}, b, api.OK)
	for _, id := range []int{1, 3, 4, 6, 15} {
		leaves(t, q, id, api.Queue{}, api.Runner{}, api.ErrNone)
		leaves(t, api.Queue{}, id, api.Queue{}, api.Runner{}, api.ErrNone)
	}
	for _, id := range numbers() {
		if id < 1 || id > maxVcpus {
			leaves(t, q, id, api.Queue{}, api.Runner{}, api.ErrArg)
			leaves(t, api.Queue{}, id, api.Queue{}, api.Runner{}, api.ErrArg)
		}
	}
}

// P10.2: all three of many queues, held against exact values.
func TestJoinEnterAndLeave(t *testing.T) {
	next := chance()
	how := map[string]int{}
	for _, v := range bases() {
		for range 60 {
			w := someWorld(next, v)
			q := w.made()
			for range 12 {
				id := 1 + next(maxVcpus)
				r, boost := someRunner(next, id, v), boosts()[next(len(boosts()))]
				want, no := w.join(r, boost)
				joins(t, q, r, boost, want.made(), no)
				how[joined(r, want, no)]++
				want, no = w.enter(r)
				enters(t, q, r, want.made(), no)
				left, who, no := w.leave(id)
				leaves(t, q, id, left.made(), who, no)
			}
		}
	}
	for _, name := range []string{"there", "range", "up", "down", "as it is"} {
		if how[name] < 100 {
			t.Errorf("only %d that joined so: %s", how[name], name)
		}
	}
}

// joined tells how r has joined, by what came.
func joined(r api.Runner, w world, no api.Errno) string {
	switch {
	case no == api.ErrThere:
		return "there"
	case no == api.ErrRange:
		return "range"
	}
	return []string{"down", "as it is", "up"}[1+worth(w[r.Id].Time).Cmp(worth(r.Time))]
}

// P10.3, P10.4: Ids that do not rise, or that no runner has, and numbers out of their bounds, ahead of a runner that is not there, ahead of a number that is too great.
func TestRunAndWeighRefuse(t *testing.T) {
	dts, noDts := []int64{0, 1, maxGap}, []int64{-1, maxGap + 1, math.MinInt64, math.MaxInt64, -1 << 32, 1<<32 + 1}
	noWeights, noEaches := []uint64{0, 65536, 65537, 1 << 32, 1<<32 | 1, 1 << 63, most64}, []int{0, 9, -1, math.MinInt, math.MaxInt, 1<<32 + 1}
	high := queue(runner(3, 8, last(1)), runner(5, 8, last(2)), runner(9, 1, of(5, 2)))
	for _, q := range []api.Queue{{}, rowOf(3, 5, 9), rowOf(1), high, rowOf(1, 2, 3, 4, 5, 6, 7, 8, 9, 10, 11, 12, 13, 14, 15, 16)} {
		for _, ids := range noRows() {
			for _, dt := range append(dts, noDts...) {
				runs(t, q, ids, dt, api.Queue{}, api.ErrArg)
			}
			for _, weight := range append(noWeights, 1, maxWeight) {
				for _, each := range append(noEaches, 1, maxEach) {
					weighs(t, q, ids, weight, each, api.Queue{}, api.ErrArg)
				}
			}
		}
		for _, ids := range [][]int{nil, {3}, {3, 5}, {5, 9}, {4}, {3, 4}, {1, 16}} {
			for _, dt := range noDts {
				runs(t, q, ids, dt, api.Queue{}, api.ErrArg)
			}
			for _, weight := range noWeights {
				weighs(t, q, ids, weight, 1, api.Queue{}, api.ErrArg)
				weighs(t, q, ids, weight, 9, api.Queue{}, api.ErrArg)
			}
			for _, each := range noEaches {
				weighs(t, q, ids, 1, each, api.Queue{}, api.ErrArg)
			}
		}
	}
	for _, ids := range [][]int{{1}, {4}, {16}, {1, 3}, {3, 4}, {3, 5, 9, 16}, {3, 4, 5, 9}, {1, 2, 3, 4, 5, 6, 7, 8, 9, 10, 11, 12, 13, 14, 15, 16}} {
		for _, dt := range dts {
			runs(t, high, ids, dt, api.Queue{}, api.ErrNone)
			runs(t, api.Queue{}, ids, dt, api.Queue{}, api.ErrNone)
		}
		weighs(t, high, ids, 65535, 1, api.Queue{}, api.ErrNone)
		weighs(t, high, ids, 1, 8, api.Queue{}, api.ErrNone)
		weighs(t, api.Queue{}, ids, 1, 8, api.Queue{}, api.ErrNone)
	}
	for _, ids := range [][]int{{3}, {5}, {3, 5}, {3, 9}, {5, 9}, {3, 5, 9}} {
		runs(t, high, ids, 1, api.Queue{}, api.ErrRange)
		runs(t, high, ids, maxGap, api.Queue{}, api.ErrRange)
		weighs(t, high, ids, 3, 1, api.Queue{}, api.ErrRange)
		weighs(t, high, ids, 65535, 1, api.Queue{}, api.ErrRange)
	}
}

// P10.3: none, one, some and all of them; no time at all, and the longest; an Each above 1; a number that comes to 2^100 - 1, and to 2^100.
func TestRunByHand(t *testing.T) {
	a, b, c := runner(2, 1, of(5, 3)), runner(5, 8, of(70, 1)), runner(16, 3, at(4, most64, 65535))
	ran := func(r api.Runner, time api.Frac) api.Runner {
		return runner(r.Id, r.Each, time)
	}
	q := queue(a, b, c)
	for _, ids := range [][]int{nil, {}, {2}, {5, 16}, {2, 5, 16}} {
		runs(t, q, ids, 0, q, api.OK)
	}
	runs(t, q, nil, maxGap, q, api.OK)
	runs(t, api.Queue{}, nil, maxGap, api.Queue{}, api.OK)
	runs(t, q, []int{2}, 10, queue(ran(a, of(15, 3)), b, c), api.OK)
	runs(t, q, []int{5}, 10, queue(a, ran(b, of(150, 1)), c), api.OK)
	runs(t, q, []int{16}, 10, queue(a, b, ran(c, at(5, 29, 65535))), api.OK)
	runs(t, q, []int{2, 16}, 1, queue(ran(a, of(6, 3)), b, ran(c, at(5, 2, 65535))), api.OK)
	runs(t, q, []int{2, 5, 16}, maxGap, queue(ran(a, of(10000005, 3)), ran(b, of(80000070, 1)), ran(c, at(5, 29999999, 65535))), api.OK)
	for _, w := range []uint64{1, 2, 65535} {
		for each := 1; each <= maxEach; each++ {
			for _, dt := range []int64{1, 2, maxGap} {
				grows := uint64(each) * uint64(dt)
				q := queue(runner(1, 1, of(0, 1)), runner(4, each, below(grows, w)), runner(6, each, below(grows-1, w)))
				runs(t, q, []int{4}, dt, queue(q.Runners[0], runner(4, each, last(w)), q.Runners[2]), api.OK)
				runs(t, q, []int{6}, dt, api.Queue{}, api.ErrRange)
				runs(t, q, []int{4, 6}, dt, api.Queue{}, api.ErrRange)
				runs(t, q, []int{1, 4, 6}, 0, q, api.OK)
			}
		}
	}
}

// P10.3: a Time just Slack below the top, one more, one less; bounds that have to be rounded; a top below the Slack, none at all; several that are lifted.
func TestClipByHand(t *testing.T) {
	for _, c := range []struct {
		top, time, want api.Frac
	}{
		{of(slack+100, 1), of(100, 1), of(100, 1)},
		{of(slack+100, 1), of(99, 1), of(100, 1)},
		{of(slack+100, 1), of(101, 1), of(101, 1)},
		{of(slack+100, 1), of(0, 1), of(100, 1)},
		{of(slack+100, 1), of(300, 3), of(300, 3)},
		{of(slack+100, 1), of(299, 3), of(300, 3)},
		{of(slack+100, 1), of(301, 3), of(301, 3)},
		{of(2*slack+200, 2), of(99, 1), of(100, 1)},
		{of(2*slack+200, 2), of(6553499, 65535), of(6553500, 65535)},
		{of(2*slack+200, 2), of(6553500, 65535), of(6553500, 65535)},
		{of(2*slack+1, 2), of(0, 1), of(1, 1)}, // lifted to 1/2
		{of(2*slack+1, 2), of(1, 1), of(1, 1)},
		{of(2*slack+1, 2), of(0, 2), of(1, 2)},
		{of(2*slack+1, 2), of(1, 2), of(1, 2)},
		{of(2*slack+1, 2), of(0, 3), of(2, 3)},
		{of(2*slack+1, 2), of(1, 3), of(2, 3)},
		{of(2*slack+1, 2), of(2, 3), of(2, 3)},
		{of(65535*slack+1, 65535), of(0, 1), of(1, 1)},
		{of(65535*slack+1, 65535), of(0, 65534), of(1, 65534)},
		{of(65535*slack+1, 65535), of(0, 65535), of(1, 65535)},
		{of(slack, 1), of(0, 1), of(0, 1)},
		{of(slack, 1), of(0, 65535), of(0, 65535)},
		{of(slack-1, 1), of(0, 7), of(0, 7)},
		{of(0, 1), of(0, 7), of(0, 7)},
		{last(1), of(0, 1), below(slack, 1)},
		{last(1), below(slack+1, 1), below(slack, 1)},
		{last(1), below(slack, 1), below(slack, 1)},
		{last(65535), of(0, 65535), below(65535*slack, 65535)},
		{at(1<<35, slack-1, 1), of(0, 2), below(1, 2)}, // the top itself is too great over 2
		{at(1<<35, slack-1, 1), last(2), last(2)},
	} {
		top, r, want := runner(4, 3, c.top), runner(2, 5, c.time), runner(2, 5, c.want)
		late, lateWant := runner(9, 5, c.time), runner(9, 5, c.want)
		var one, other, both []int
		if c.time != c.want {
			one, other, both = []int{2}, []int{9}, []int{2, 9}
		}
		clips(t, queue(r, top), queue(want, top), one, api.OK)
		clips(t, queue(top, late), queue(top, lateWant), other, api.OK)
		clips(t, queue(r, top, late), queue(want, top, lateWant), both, api.OK)
	}
	clips(t, api.Queue{}, api.Queue{}, nil, api.OK)
	clips(t, queue(runner(3, 1, last(3))), queue(runner(3, 1, last(3))), nil, api.OK)
	for _, c := range []struct{ top, time api.Frac }{
		{last(1), of(0, 2)}, {last(1), of(0, 65535)}, {last(1), last(2)}, {last(2), last(65535)}, {at(1<<35, slack, 1), of(0, 2)}, {at(1<<35, slack, 1), last(2)},
	} {
		clips(t, queue(runner(1, 1, c.top), runner(2, 1, c.time)), api.Queue{}, nil, api.ErrRange)
		clips(t, queue(runner(1, 1, of(0, 1)), runner(2, 1, c.time), runner(7, 1, c.top)), api.Queue{}, nil, api.ErrRange)
	}
}

// P10.3: the top is that of all as they were: who is lifted does not count.
func TestClipByTheTopAsItWas(t *testing.T) {
	// lifted over 1 each comes to a whole number, above the bound of 1/3
	q := queue(runner(1, 1, of(0, 1)), runner(2, 1, of(1, 3)), runner(3, 1, of(0, 3)), runner(4, 1, of(3*slack+1, 3)), runner(5, 1, of(0, 2)), runner(6, 1, of(1, 2)))
	want := queue(runner(1, 1, of(1, 1)), runner(2, 1, of(1, 3)), runner(3, 1, of(1, 3)), runner(4, 1, of(3*slack+1, 3)), runner(5, 1, of(1, 2)), runner(6, 1, of(1, 2)))
	clips(t, q, want, []int{1, 3, 5}, api.OK)
}

// P10.3: both of many queues, held against exact values.
func TestRunAndClip(t *testing.T) {
	next := chance()
	counts := map[string]int{}
	for _, v := range bases() {
		for range 150 {
			w := someWorld(next, v)
			q := w.made()
			want, ids, no := w.clip()
			clips(t, q, want.made(), ids, no)
			counts[fmt.Sprint("clip ", no, len(ids) > 0)]++
			row := someRow(next, w)
			dt := []int64{0, 1, 5, maxGap - 1, maxGap, -1, maxGap + 1}[next(7)]
			want, no = w.run(row, dt)
			runs(t, q, row, dt, want.made(), no)
			counts[fmt.Sprint("run ", no, len(row) > 0)]++
		}
	}
	for _, name := range []string{"clip 0 false", "clip 0 true", "clip 131 false", "run 0 false", "run 0 true", "run 2 true", "run 4 true", "run 131 true"} {
		if counts[name] < 20 {
			t.Errorf("only %d of: %s, of %v", counts[name], name, counts)
		}
	}
}

// someRow are Ids, most of them of runners that are there.
func someRow(next func(int) int, w world) []int {
	var l []int
	often, stray := next(11), next(8) == 0
	for id := 1; id <= maxVcpus; id++ {
		if (w.has(id) || stray && next(10) == 0) && next(10) < often {
			l = append(l, id)
		}
	}
	if len(l) > 1 && next(8) == 0 {
		l[next(len(l))] = next(maxVcpus + 3)
	}
	return l
}

// P10.4: weights at both bounds; Times that have to be rounded up, and that have not; none, one and several of them.
func TestWeighByHand(t *testing.T) {
	for _, c := range []struct {
		was  api.Frac
		w    uint64
		want api.Frac
	}{
		{of(100, 10), 3, of(30, 3)}, {of(100, 10), 1, of(10, 1)}, {of(100, 10), 65535, of(655350, 65535)}, {of(100, 10), 10, of(100, 10)},
		{of(101, 10), 1, of(11, 1)}, {of(99, 10), 1, of(10, 1)}, {of(101, 10), 5, of(51, 5)}, {of(1, 3), 2, of(1, 2)}, {of(2, 3), 2, of(2, 2)}, {of(1, 3), 1, of(1, 1)}, {of(0, 3), 1, of(0, 1)}, {of(0, 65535), 1, of(0, 1)},
		{of(1, 65535), 1, of(1, 1)}, {of(1, 65535), 65534, of(1, 65534)}, {of(65534, 65535), 65534, of(65534, 65534)}, {of(1, 1), 65535, of(65535, 65535)}, {of(7, 65535), 65535, of(7, 65535)},
		{last(2), 1, at(1<<35, 0, 1)}, {last(1), 1, last(1)}, {last(65535), 65535, last(65535)}, {at(1<<35-1, most64, 1), 2, below(1, 2)}, {at(3<<34-1, most64, 3), 4, last(4)},
	} {
		other := runner(9, 3, of(5, 7))
		for _, each := range []int{1, 2, 8} {
			q, want := queue(runner(4, 2, c.was), other), queue(runner(4, each, c.want), other)
			weighs(t, q, []int{4}, c.w, each, want, api.OK)
			weighs(t, q, nil, c.w, each, q, api.OK)
			q, want = queue(runner(2, 5, c.was), runner(4, 2, c.was), other, runner(16, 8, c.was)), queue(runner(2, 5, c.was), runner(4, each, c.want), other, runner(16, each, c.want))
			weighs(t, q, []int{4, 16}, c.w, each, want, api.OK)
		}
	}
	for _, c := range []struct {
		was api.Frac
		w   uint64
	}{{last(1), 2}, {last(1), 65535}, {last(65534), 65535}, {at(1<<35, 0, 1), 2}, {at(3<<34, 0, 3), 4}} {
		weighs(t, queue(runner(4, 2, c.was), runner(9, 3, of(5, 7))), []int{4}, c.w, 1, api.Queue{}, api.ErrRange)
		weighs(t, queue(runner(4, 2, of(5, 7)), runner(9, 3, c.was)), []int{4, 9}, c.w, 1, api.Queue{}, api.ErrRange)
		weighs(t, queue(runner(4, 2, of(35, 7)), runner(9, 3, c.was)), []int{4}, c.w, 1, queue(runner(4, 1, of(5*c.w, c.w)), runner(9, 3, c.was)), api.OK)
	}
	weighs(t, api.Queue{}, nil, 1, 1, api.Queue{}, api.OK)
}

// P10.4: of many queues, held against exact values.
func TestWeigh(t *testing.T) {
	next := chance()
	counts := map[api.Errno]int{}
	for _, v := range bases() {
		for range 150 {
			w := someWorld(next, v)
			row, weight, each := someRow(next, w), uint64(1+next(maxWeight)), 1+next(maxEach)
			if next(2) == 0 {
				weight = append(weights(), 0, maxWeight+1)[next(len(weights())+2)]
				each = next(maxEach + 2)
			}
			want, no := w.weigh(row, weight, each)
			weighs(t, w.made(), row, weight, each, want.made(), no)
			counts[no]++
		}
	}
	for _, no := range []api.Errno{api.OK, api.ErrArg, api.ErrNone, api.ErrRange} {
		if counts[no] < 20 {
			t.Errorf("only %d of the error %d", counts[no], no)
		}
	}
}

// P10.5: who joins is at most Slack below the top, and not above it but for less than one over its weight: so much at most is the top lifted.
func TestWhoJoinsIsNearTheTop(t *testing.T) {
	next := chance()
	for _, w := range worlds() {
		top, _ := w.top()
		for range 8 {
			id := 1 + next(maxVcpus)
			r := someRunner(next, id, bases()[next(len(bases()))])
			q, no := vtime.Join(w.made(), r, boosts()[next(len(boosts()))])
			if no != api.OK || top == nil {
				continue
			}
			checks(t, q, api.OK)
			got, _ := vtime.Get(q, id)
			behind, ahead := minus(top, worth(got.Time)), minus(worth(got.Time), top)
			if behind.Cmp(rat(slack, 1)) > 0 || ahead.Cmp(rat(1, r.Time.W)) >= 0 {
				t.Errorf("%v joined %s as %v", r, tell(w.made()), got)
			}
			if now, _ := vtime.Top(q); worth(now).Cmp(top) < 0 || minus(worth(now), top).Cmp(rat(1, r.Time.W)) >= 0 {
				t.Errorf("%v joined %s, and its top is %v", r, tell(w.made()), now)
			}
		}
	}
}

// P10.5: none comes below the top by leaving and joining at once without a boost; who is alone comes as it left.
func TestLeavingAndJoining(t *testing.T) {
	for _, w := range worlds() {
		for _, r := range w.made().Runners {
			left, who, no := vtime.Leave(w.made(), r.Id)
			if no != api.OK || who != r {
				t.Errorf("Leave(%s, %d): %v, %d", tell(w.made()), r.Id, who, no)
			}
			q, no := vtime.Join(left, who, 0)
			if no == api.ErrRange {
				continue
			}
			got, there := vtime.Get(q, r.Id)
			top, some := vtime.Top(left)
			switch {
			case !there || no != api.OK:
				t.Errorf("Join(%s, %v): %s, %d", tell(left), who, tell(q), no)
			case some && worth(got.Time).Cmp(worth(top)) < 0 || !some && got != r:
				t.Errorf("Join(%s, %v): %v, below the top", tell(left), who, got)
			}
		}
	}
}

// P10.5: behind Clip nobody is more than Slack below the top, which it leaves; nobody is clipped twice, nobody's Time falls.
func TestBehindClip(t *testing.T) {
	for _, w := range worlds() {
		q, ids, no := vtime.Clip(w.made())
		if no != api.OK {
			continue
		}
		top, first := w.top()
		tops(t, q, first, top != nil)
		checks(t, q, api.OK)
		for _, r := range q.Runners {
			if minus(top, worth(r.Time)).Cmp(rat(slack, 1)) > 0 {
				t.Errorf("Clip(%s): %v is behind", tell(w.made()), r)
			}
			if more := worth(r.Time).Cmp(worth(w[r.Id].Time)); more < 0 || (more > 0) != slices.Contains(ids, r.Id) {
				t.Errorf("Clip(%s): %v, and %v were lifted", tell(w.made()), r, ids)
			}
		}
		clips(t, q, q, nil, api.OK)
	}
}

// P10.5: running adds just dt over the rate to the value, and nothing to others.
func TestRunningAddsTimeOverTheRate(t *testing.T) {
	next := chance()
	for _, w := range worlds() {
		row, dt := someRow(next, w), int64(next(maxGap+1))
		q, no := vtime.Run(w.made(), row, dt)
		if no != api.OK {
			continue
		}
		for _, r := range q.Runners {
			want := worth(w[r.Id].Time)
			if slices.Contains(row, r.Id) {
				rate := rat(r.Time.W, uint64(r.Each))
				want = plus(want, new(big.Rat).Quo(rat(uint64(dt), 1), rate))
			}
			if worth(r.Time).Cmp(want) != 0 || r.Time.W != w[r.Id].Time.W || r.Each != w[r.Id].Each {
				t.Errorf("Run(%s, %v, %d): %v", tell(w.made()), row, dt, r)
			}
		}
	}
}

// P10.5: weighed there and back a Time is no less, and by less than one over each weight more.
func TestWeighedThereAndBack(t *testing.T) {
	next := chance()
	for _, w := range worlds() {
		for _, r := range w.made().Runners {
			weight := uint64(1 + next(maxWeight))
			if next(2) == 0 {
				weight = weights()[next(len(weights()))]
			}
			there, no := vtime.Weigh(w.made(), []int{r.Id}, weight, 1+next(maxEach))
			if no != api.OK {
				continue
			}
			back, no := vtime.Weigh(there, []int{r.Id}, r.Time.W, r.Each)
			if no == api.ErrRange {
				continue
			}
			got, _ := vtime.Get(back, r.Id)
			more := minus(worth(got.Time), worth(r.Time))
			if no != api.OK || more.Sign() < 0 || more.Cmp(plus(rat(1, weight), rat(1, r.Time.W))) >= 0 || got.Time.W != r.Time.W || got.Each != r.Each {
				t.Errorf("%v, weighed %d and back: %v, %d", r, weight, got, no)
			}
		}
	}
}

// P10.2, P10.3, P10.4: what comes of what, by long rows of changes, may be; and is what it is by another way.
func TestWhatComesOfIt(t *testing.T) {
	next := chance()
	done := map[string]int{}
	for round := range 150 {
		w := world{}
		v := bases()[round%len(bases())]
		for range 100 {
			var after world
			var ids, wantIds []int
			var got api.Queue
			var who, wantWho api.Runner
			var no, want api.Errno
			q, row := w.made(), someRow(next, w)
			r, boost, dt, id := someRunner(next, 1+next(maxVcpus), v), uint64(next(maxGap)), int64(next(maxGap)), next(maxVcpus+2)
			weight, each := uint64(next(maxWeight+1)), 1+next(maxEach)
			name := []string{"Join", "Join", "Join", "Enter", "Leave", "Run", "Clip", "Weigh"}[next(8)]
			switch name {
			case "Join":
				got, no = vtime.Join(q, r, boost)
				after, want = w.join(r, boost)
			case "Enter":
				got, no = vtime.Enter(q, r)
				after, want = w.enter(r)
			case "Leave":
				got, who, no = vtime.Leave(q, id)
				after, wantWho, want = w.leave(id)
			case "Run":
				got, no = vtime.Run(q, row, dt)
				after, want = w.run(row, dt)
			case "Clip":
				got, ids, no = vtime.Clip(q)
				after, wantIds, want = w.clip()
			case "Weigh":
				got, no = vtime.Weigh(q, row, weight, each)
				after, want = w.weigh(row, weight, each)
			}
			becomes(t, name, q, after.made(), want)(got, no)
			if who != wantWho || !slices.Equal(ids, wantIds) {
				t.Errorf("%s of %s: %v, %v; want %v, %v", name, tell(q), who, ids, wantWho, wantIds)
			}
			done[fmt.Sprint(name, " ", no == api.OK)]++
			if no == api.OK {
				checks(t, got, api.OK)
				w = after
			}
		}
	}
	if len(done) < 11 { // Clip is seldom refused here
		t.Errorf("not all was done, and refused: %v", done)
	}
}

// roomy is the same queue, with others in the room behind its end.
func roomy(q api.Queue) (api.Queue, []api.Runner) {
	l := append(slices.Clone(q.Runners), rowOf(3, 8, 16, 1).Runners...)
	return queue(l[:len(q.Runners)]...), l
}

// callAll calls all that there is, with many numbers.
func callAll(q api.Queue, rows [][]int) {
	vtime.Check(q)
	vtime.Top(q)
	vtime.Same(q, q)
	vtime.Clip(q)
	for id := range maxVcpus + 2 {
		vtime.Get(q, id)
		vtime.Leave(q, id)
		for _, each := range []int{0, 1, 8} {
			r := runner(id, each, of(70, 3))
			vtime.CheckRunner(r)
			vtime.Enter(q, r)
			vtime.Join(q, r, 0)
			vtime.Join(q, r, maxGap)
		}
	}
	for _, ids := range rows {
		vtime.Run(q, ids, 5)
		vtime.Run(q, ids, maxGap)
		vtime.Weigh(q, ids, 1, 1)
		vtime.Weigh(q, ids, 77, 8)
	}
}

// R3: no call changes what it is handed, nor what stands behind its end.
func TestNothingIsChanged(t *testing.T) {
	next := chance()
	l := noQueues()
	for _, w := range worlds() {
		l = append(l, w.made())
	}
	for _, q := range l {
		if len(q.Runners) > 1000 {
			continue
		}
		h, all := roomy(q)
		was := slices.Clone(all)
		rows := [][]int{nil, {3, 2, 1}}
		for _, r := range q.Runners {
			rows = append(rows, []int{r.Id}, someRow(next, worldOf(runner(r.Id&15, 1, of(0, 1)))))
		}
		wasRows := slices.Clone(rows)
		for i, row := range wasRows {
			wasRows[i] = slices.Clone(row)
		}
		callAll(h, rows)
		if !slices.Equal(all, was) || !slices.EqualFunc(rows, wasRows, slices.Equal) {
			t.Errorf("%s was changed to %s; %v to %v", tell(queue(was...)), tell(queue(all...)), wasRows, rows)
		}
	}
}

// R3: what stands behind the end of what is handed in does not count.
func TestWhatStandsBehindDoesNotCount(t *testing.T) {
	next := chance()
	for _, w := range worlds() {
		q := w.made()
		h, _ := roomy(q)
		checks(t, h, api.OK)
		same(t, q, h, true)
		top, first := w.top()
		tops(t, h, first, top != nil)
		want, ids, no := w.clip()
		clips(t, h, want.made(), ids, no)
		for id := 1; id <= maxVcpus; id++ {
			r := someRunner(next, id, rat(70, 3))
			want, no := w.join(r, 9)
			joins(t, h, r, 9, want.made(), no)
			want, no = w.enter(r)
			enters(t, h, r, want.made(), no)
			left, who, no := w.leave(id)
			leaves(t, h, id, left.made(), who, no)
			row := []int{id, 16}
			want, no = w.run(row[:1], 9)
			runs(t, h, row[:1], 9, want.made(), no)
			want, no = w.weigh(row[:1], 9, 1)
			weighs(t, h, row[:1], 9, 1, want.made(), no)
		}
	}
}

// R3: what is answered is new memory: it is nobody else's, neither another answer's nor what was handed in; where nothing is changed, too.
func TestAnswersAreNewMemory(t *testing.T) {
	q, all := roomy(queue(runner(2, 1, of(5, 3)), runner(5, 1, of(2*slack, 1)), runner(9, 8, of(slack, 1))))
	before := slices.Clone(all)
	for where, ask := range map[string]func() (api.Queue, api.Errno){
		"Join":   func() (api.Queue, api.Errno) { return vtime.Join(q, runner(7, 1, of(5, 3)), 5) },
		"Enter":  func() (api.Queue, api.Errno) { return vtime.Enter(q, runner(16, 1, of(5, 3))) },
		"Leave":  func() (api.Queue, api.Errno) { h, _, no := vtime.Leave(q, 9); return h, no },
		"Run":    func() (api.Queue, api.Errno) { return vtime.Run(q, []int{5}, 5) },
		"Run 0":  func() (api.Queue, api.Errno) { return vtime.Run(q, nil, 0) },
		"Clip":   func() (api.Queue, api.Errno) { h, _, no := vtime.Clip(q); return h, no },
		"Clip 0": func() (api.Queue, api.Errno) { h, _, no := vtime.Clip(queue(q.Runners[1:]...)); return h, no },
		"Weigh":  func() (api.Queue, api.Errno) { return vtime.Weigh(q, []int{2, 9}, 7, 2) },
		"Same":   func() (api.Queue, api.Errno) { return vtime.Weigh(q, []int{2}, 3, 1) },
	} {
		one, no := ask()
		other, _ := ask()
		was := slices.Clone(other.Runners)
		clear(one.Runners[:cap(one.Runners)])
		again, _ := ask()
		if no != api.OK || len(was) == 0 || !slices.Equal(other.Runners, was) || !slices.Equal(again.Runners, was) || !slices.Equal(all, before) {
			t.Errorf("%s: %s, and again %s; want %s; of %s", where, tell(other), tell(again), tell(queue(was...)), tell(queue(all...)))
		}
	}
	_, one, _ := vtime.Clip(q)
	_, other, _ := vtime.Clip(q)
	clear(one[:cap(one)])
	if !slices.Equal(other, []int{2}) {
		t.Errorf("Clip: %v", other)
	}
}

// R3: what is handed in is not kept.
func TestNothingIsKept(t *testing.T) {
	q := queue(runner(2, 1, of(5, 3)), runner(9, 8, of(7, 1)))
	ids := []int{2}
	ran, _ := vtime.Run(q, ids, 10)
	rest, _ := vtime.Run(q, nil, 10)
	clear(q.Runners)
	clear(ids)
	if !alike(ran, queue(runner(2, 1, of(15, 3)), runner(9, 8, of(7, 1)))) || !alike(rest, queue(runner(2, 1, of(5, 3)), runner(9, 8, of(7, 1)))) {
		t.Errorf("what was answered is now %s, %s", tell(ran), tell(rest))
	}
}

// The chapter's examples.
func TestExamples(t *testing.T) {
	a, b := runner(1, 1, of(100, 10)), runner(2, 2, of(300, 20))
	q := queue(a, b)
	checks(t, q, api.OK)
	tops(t, q, of(300, 20), true)
	runs(t, q, []int{2}, 10, queue(a, runner(2, 2, of(320, 20))), api.OK)
	joins(t, q, runner(3, 1, of(0, 30)), 90, queue(a, b, runner(3, 1, of(360, 30))), api.OK)
	joins(t, q, runner(3, 1, of(0, 30)), 0, queue(a, b, runner(3, 1, of(450, 30))), api.OK)
	enters(t, q, runner(3, 1, of(9, 40)), queue(a, b, runner(3, 1, of(600, 40))), api.OK)
	leaves(t, q, 4, api.Queue{}, api.Runner{}, api.ErrNone)
	weighs(t, q, []int{1}, 3, 1, queue(runner(1, 1, of(30, 3)), b), api.OK)
	clips(t, q, q, nil, api.OK)
}
