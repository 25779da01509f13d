package order_test

import (
	"fmt"
	"math"
	"math/big"
	"slices"
	"testing"

	"mainsheet/api"
	"mainsheet/order"
)

// The limits, as the document says them.
const (
	maxVcpus  = 16
	maxEach   = 8
	maxWeight = 65535
	maxOrder  = 1 << 62
	most64    = math.MaxUint64
	mostHi    = 1<<36 - 1 // of 2^100 - 1
)

// at is a fraction whose number has both halves.
func at(hi, lo, w uint64) api.Frac {
	return api.Frac{N: api.Wide{Hi: hi, Lo: lo}, W: w}
}

// of is a fraction of a small number.
func of(n, w uint64) api.Frac {
	return at(0, n, w)
}

// last is the greatest fraction over w.
func last(w uint64) api.Frac {
	return at(mostHi, most64, w)
}

// worth is the value of f, exact.
func worth(f api.Frac) *big.Rat {
	n := new(big.Int).Lsh(new(big.Int).SetUint64(f.N.Hi), 64)
	n.Add(n, new(big.Int).SetUint64(f.N.Lo))
	return new(big.Rat).SetFrac(n, new(big.Int).SetUint64(f.W))
}

// runner is one of a domain that has no other one.
func runner(id int, time api.Frac) api.Runner {
	return api.Runner{Id: id, Each: 1, Time: time}
}

// queue is that of these runners.
func queue(l ...api.Runner) api.Queue {
	return api.Queue{Runners: l}
}

// wait is one that is not Fresh.
func wait(id int, number uint64) api.Wait {
	return api.Wait{Id: id, Order: number}
}

// entity is that of these numbers.
func entity(fresh bool, time api.Frac, number uint64, members ...int) api.Entity {
	return api.Entity{Members: members, Time: time, Order: number, Fresh: fresh}
}

// ask is what is put in order.
type ask struct {
	q     api.Queue
	waits []api.Wait
	gangs [][]int
}

// asked is that of these runners, whose Orders are their places, from 1 on; none is Fresh.
func asked(l ...api.Runner) ask {
	a := ask{q: queue(l...)}
	for place, r := range l {
		a.waits = append(a.waits, wait(r.Id, uint64(place+1)))
	}
	return a
}

// with is the same with these gangs.
func (a ask) with(gangs ...[]int) ask {
	a.gangs = gangs
	return a
}

// fresh is the same, with just these Fresh.
func (a ask) fresh(ids ...int) ask {
	a.waits = slices.Clone(a.waits)
	for place, w := range a.waits {
		a.waits[place].Fresh = slices.Contains(ids, w.Id)
	}
	return a
}

// ordered is the same, with these Orders.
func (a ask) ordered(l ...uint64) ask {
	a.waits = slices.Clone(a.waits)
	for place, number := range l {
		a.waits[place].Order = number
	}
	return a
}

// waiting is the same, with these waits.
func (a ask) waiting(l ...api.Wait) ask {
	a.waits = l
	return a
}

// copied is the same, in other memory.
func (a ask) copied() ask {
	c := ask{q: queue(slices.Clone(a.q.Runners)...), waits: slices.Clone(a.waits)}
	for _, gang := range a.gangs {
		c.gangs = append(c.gangs, slices.Clone(gang))
	}
	return c
}

// equals tells whether both are the same.
func (a ask) equals(b ask) bool {
	return slices.Equal(a.q.Runners, b.q.Runners) && slices.Equal(a.waits, b.waits) && slices.EqualFunc(a.gangs, b.gangs, slices.Equal[[]int])
}

// entities asks Entities of it.
func (a ask) entities() ([]api.Entity, api.Errno) {
	return order.Entities(a.q, a.waits, a.gangs)
}

// fracMayBe tells whether f may be, as the document says it.
func fracMayBe(f api.Frac) bool {
	return f.N.Hi <= mostHi && 1 <= f.W && f.W <= maxWeight
}

// isVcpu tells whether there may be such a virtual CPU.
func isVcpu(id int) bool {
	return 1 <= id && id <= maxVcpus
}

// queueMayBe tells whether q may be, as the document says it.
func queueMayBe(q api.Queue) bool {
	may := true
	for place, r := range q.Runners {
		may = may && isVcpu(r.Id) && 1 <= r.Each && r.Each <= maxEach && fracMayBe(r.Time)
		may = may && (place == 0 || q.Runners[place-1].Id < r.Id)
	}
	return may
}

// waitsMayBe tells whether these are the waits of q, as the chapter says it.
func waitsMayBe(q api.Queue, l []api.Wait) bool {
	may := true
	for _, r := range q.Runners {
		its := 0
		for _, w := range l {
			if w.Id == r.Id {
				its++
			}
		}
		may = may && its == 1
	}
	for place, w := range l {
		may = may && slices.ContainsFunc(q.Runners, func(r api.Runner) bool { return r.Id == w.Id })
		may = may && 1 <= w.Order && w.Order <= maxOrder && (place == 0 || l[place-1].Id < w.Id)
		for _, other := range l[:place] {
			may = may && other.Order != w.Order
		}
	}
	return may
}

// gangsMayBe tells whether these may be gangs, as the chapter says it.
func gangsMayBe(gangs [][]int) bool {
	may := true
	for place, gang := range gangs {
		may = may && len(gang) > 0
		for i, id := range gang {
			may = may && isVcpu(id) && (i == 0 || gang[i-1] < id)
			for _, other := range gangs[:place] {
				may = may && !slices.Contains(other, id)
			}
		}
	}
	return may
}

// error is what Check answers of it, told another way.
func (a ask) error() api.Errno {
	switch {
	case !queueMayBe(a.q):
		return api.ErrQueue
	case !waitsMayBe(a.q, a.waits) || !gangsMayBe(a.gangs):
		return api.ErrOrder
	}
	return api.OK
}

// stands tells whether e has members, and a Time that may be.
func stands(e api.Entity) bool {
	return len(e.Members) != 0 && fracMayBe(e.Time)
}

// ahead tells whether a stands ahead of b, as the chapter says it.
func ahead(a, b api.Entity) bool {
	if !stands(a) || !stands(b) {
		return false
	}
	if a.Fresh != b.Fresh {
		return a.Fresh
	}
	if c := worth(a.Time).Cmp(worth(b.Time)); c != 0 {
		return c < 0
	}
	if a.Order != b.Order {
		return a.Order < b.Order
	}
	return a.Members[0] < b.Members[0]
}

// mates are the Ids of those of the queue that are in one entity with that one, rising.
func (a ask) mates(id int) []int {
	row := []int{id}
	for _, gang := range a.gangs {
		if slices.Contains(gang, id) {
			row = gang
		}
	}
	var l []int
	for _, r := range a.q.Runners {
		if slices.Contains(row, r.Id) {
			l = append(l, r.Id)
		}
	}
	return l
}

// entityOf is the entity of these members, as the chapter says it.
func (a ask) entityOf(members []int) api.Entity {
	e := api.Entity{Members: members, Fresh: true, Order: most64}
	for place, r := range a.q.Runners {
		if !slices.Contains(members, r.Id) {
			continue
		}
		if r.Id == members[0] || worth(r.Time).Cmp(worth(e.Time)) > 0 {
			e.Time = r.Time
		}
		if a.waits[place].Order < e.Order {
			e.Order = a.waits[place].Order
		}
		if !a.waits[place].Fresh {
			e.Fresh = false
		}
	}
	return e
}

// told are the entities of what may be, told another way: each stands behind as many as stand ahead of it.
func (a ask) told() []api.Entity {
	var l []api.Entity
	for _, r := range a.q.Runners {
		if members := a.mates(r.Id); members[0] == r.Id {
			l = append(l, a.entityOf(members))
		}
	}
	row := make([]api.Entity, len(l))
	for _, e := range l {
		place := 0
		for _, other := range l {
			if ahead(other, e) {
				place++
			}
		}
		row[place] = e
	}
	return row
}

// same tells whether both are the same, field by field.
func same(a, b api.Entity) bool {
	return slices.Equal(a.Members, b.Members) && a.Time == b.Time && a.Order == b.Order && a.Fresh == b.Fresh
}

// alike tells whether both rows are the same.
func alike(a, b []api.Entity) bool {
	return slices.EqualFunc(a, b, same)
}

// copiedRow is the same row, in other memory.
func copiedRow(l []api.Entity) []api.Entity {
	c := slices.Clone(l)
	for place, e := range l {
		c[place].Members = slices.Clone(e.Members)
	}
	return c
}

// membersOf are the members of each.
func membersOf(l []api.Entity) [][]int {
	var rows [][]int
	for _, e := range l {
		rows = append(rows, e.Members)
	}
	return rows
}

// chance tells numbers below n by a short rule, the same whenever it is asked anew.
func chance() func(n int) int {
	x := uint64(12)
	return func(n int) int {
		x = x*6364136223846793005 + 1442695040888963407
		return int(x >> 33 % uint64(n))
	}
}

// someTime is one of few values, told by many parts; or one of the greatest.
func someTime(next func(int) int) api.Frac {
	w := 1 + uint64(next(7))
	switch next(10) {
	case 0:
		return last(w)
	case 1:
		return at(mostHi, most64-uint64(next(3)), 1+uint64(next(maxWeight)))
	case 2:
		return at(uint64(next(3)), uint64(next(3)), w)
	case 3:
		return of(uint64(next(1000)), 1+uint64(next(maxWeight)))
	}
	return of(uint64(next(3))*w, w)
}

// someOrder is one that is not met yet, of few near one another, at an end, or anywhere.
func someOrder(next func(int) int, met map[uint64]bool) uint64 {
	for {
		number := 1 + uint64(next(40))
		switch next(4) {
		case 0:
			number = maxOrder - uint64(next(40))
		case 1:
			number = uint64(1+next(1<<30)) << 31
		}
		if !met[number] {
			met[number] = true
			return number
		}
	}
}

// someGangs are some that part some of all Ids.
func someGangs(next func(int) int) [][]int {
	rows := make([][]int, 1+next(6))
	often := next(11)
	for id := 1; id <= maxVcpus; id++ {
		if next(10) < often {
			place := next(len(rows))
			rows[place] = append(rows[place], id)
		}
	}
	return slices.DeleteFunc(rows, func(row []int) bool { return len(row) == 0 })
}

// someAsk is one that may be, of few runners, of many, or of something in between.
func someAsk(next func(int) int) ask {
	var a ask
	met := map[uint64]bool{}
	often, fresh := 1+next(10), next(11)
	for id := 1; id <= maxVcpus; id++ {
		if next(10) < often {
			a.q.Runners = append(a.q.Runners, api.Runner{Id: id, Each: 1 + next(maxEach), Time: someTime(next)})
			a.waits = append(a.waits, api.Wait{Id: id, Order: someOrder(next, met), Fresh: next(10) < fresh})
		}
	}
	if next(5) > 0 {
		a.gangs = someGangs(next)
	}
	return a
}

// asks are many that may be.
func asks() []ask {
	l := []ask{{}, ask{}.with([]int{1, 2}), asked(runner(1, of(0, 1))), asked(runner(16, last(maxWeight))).with([]int{16})}
	next := chance()
	for range 3000 {
		l = append(l, someAsk(next))
	}
	return l
}

// noTimes are some that may not be: of a number that is too great, over no weight.
func noTimes() []api.Frac {
	return []api.Frac{{}, of(5, 0), of(0, 65536), of(7, 65536), of(1, 1<<32), of(1, 1<<32|1), of(1, most64), at(1<<36, 0, 1), at(1<<36, most64, 65535), at(1<<63, 0, 1), at(most64, most64, 3), last(0), last(65536)}
}

// noQueues are some that may not be, of the Ids 1 to 3 but for what is wrong.
func noQueues() []api.Queue {
	good := of(3, 2)
	one, two, three := runner(1, good), runner(2, good), runner(3, good)
	l := []api.Queue{queue(two, one, three), queue(one, two, two), queue(one, three, two), queue(one, one), queue(api.Runner{})}
	for _, id := range []int{0, -1, 17, math.MinInt, math.MaxInt} {
		l = append(l, queue(runner(id, good)), queue(one, two, runner(id, good)), queue(runner(id, good), two, three))
	}
	for _, each := range []int{0, -1, 9, math.MaxInt} {
		l = append(l, queue(one, api.Runner{Id: 2, Each: each, Time: good}, three))
	}
	for _, time := range noTimes() {
		l = append(l, queue(one, two, runner(3, time)), queue(runner(1, time), two, three))
	}
	return l
}

// three are the runners 1, 2 and 5, the waits' Orders 1, 2, 3.
func three() ask {
	return asked(runner(1, of(10, 1)), runner(2, of(20, 2)), runner(5, of(5, 1)))
}

// checks asks Check for an error, and Entities for the same one, with no entities.
func checks(t *testing.T, a ask, want api.Errno) {
	t.Helper()
	if no := order.Check(a.q, a.waits, a.gangs); no != want {
		t.Errorf("Check(%v): %d; want %d", a, no, want)
	}
	l, no := a.entities()
	if no != want || no != api.OK && l != nil {
		t.Errorf("Entities(%v): %v, %d; want %d", a, l, no, want)
	}
}

// P12.1: nobody at all; one, some, as many as there may be; with gangs and without.
func TestCheck(t *testing.T) {
	checks(t, ask{}, api.OK)
	checks(t, ask{q: queue([]api.Runner{}...), waits: []api.Wait{}, gangs: [][]int{}}, api.OK)
	checks(t, asked(runner(1, of(0, 1))), api.OK)
	checks(t, asked(runner(16, last(maxWeight))), api.OK)
	checks(t, three(), api.OK)
	checks(t, three().fresh(1, 2, 5), api.OK)
	checks(t, three().with([]int{1, 2, 5}), api.OK)
	var all ask
	var ids []int
	for id := 1; id <= maxVcpus; id++ {
		ids = append(ids, id)
		all.q.Runners = append(all.q.Runners, runner(id, of(1, 1)))
		all.waits = append(all.waits, wait(id, uint64(20-id)))
	}
	checks(t, all, api.OK)
	checks(t, all.with(ids), api.OK)
	checks(t, all.with(slices.Collect(slices.Chunk(ids, 1))...), api.OK)
	for _, a := range asks() {
		checks(t, a, api.OK)
	}
}

// P12.1: a queue that may not be, alone; and ahead of waits, of gangs, of both that may not be.
func TestCheckOfQueuesThatMayNotBe(t *testing.T) {
	for _, q := range noQueues() {
		fitting := asked(q.Runners...)
		checks(t, fitting, api.ErrQueue)
		checks(t, fitting.with([]int{1, 3}), api.ErrQueue)
		checks(t, fitting.with([]int{}), api.ErrQueue)
		checks(t, fitting.waiting(), api.ErrQueue)
		checks(t, fitting.waiting(wait(0, 0)).with([]int{2, 1}), api.ErrQueue)
	}
}

// P12.1: waits that are not one for each runner, by rising Ids.
func TestCheckOfWhoseWaitsTheyAre(t *testing.T) {
	one, two, five := wait(1, 7), wait(2, 3), wait(5, 4)
	checks(t, three().waiting(one, two, five), api.OK)
	for _, l := range [][]api.Wait{
		{}, {one}, {five}, {two, five}, {one, five}, {one, two},
		{wait(0, 9), one, two, five}, {one, two, wait(3, 9), five}, {one, two, five, wait(6, 9)}, {one, two, five, wait(5, 9)}, {one, two, five, {}},
		{one, one, two, five}, {one, wait(1, 9), five}, {one, two, wait(2, 9)}, {one, two, wait(2, 9), five}, {wait(1, 9), one, two},
		{one, wait(3, 3), five}, {wait(0, 7), two, five}, {one, two, wait(6, 4)}, {one, two, wait(-5, 4)}, {one, two, wait(5+1<<32, 4)}, {one, two, wait(math.MaxInt, 4)},
		{two, one, five}, {one, five, two}, {five, two, one}, {two, five, one},
	} {
		checks(t, three().waiting(l...), api.ErrOrder)
		checks(t, three().waiting(l...).with([]int{1, 5}), api.ErrOrder)
	}
	checks(t, ask{waits: []api.Wait{one}}, api.ErrOrder)
	checks(t, ask{waits: []api.Wait{{}}}, api.ErrOrder)
	checks(t, ask{waits: make([]api.Wait, 1<<16)}, api.ErrOrder)
	checks(t, three().waiting(), api.ErrOrder)
}

// P12.1: Orders at both bounds, just beyond, far beyond, and two the same, wherever they stand.
func TestCheckOfOrders(t *testing.T) {
	for place := range 3 {
		for _, number := range []uint64{1, 2, 1 << 31, 1 << 32, 1 << 61, maxOrder - 1, maxOrder} {
			l := []uint64{4, 5, 6}
			l[place] = number
			checks(t, three().ordered(l...), api.OK)
		}
		for _, number := range []uint64{0, maxOrder + 1, maxOrder + 2, 1<<62 + 1<<61, 1 << 63, 1<<63 + 1, most64} {
			l := []uint64{4, 5, 6}
			l[place] = number
			checks(t, three().ordered(l...), api.ErrOrder)
		}
	}
	for _, number := range []uint64{1, 7, maxOrder} {
		checks(t, three().ordered(number, number, 9), api.ErrOrder)
		checks(t, three().ordered(number, 9, number), api.ErrOrder)
		checks(t, three().ordered(9, number, number), api.ErrOrder)
		checks(t, three().ordered(number, number, number), api.ErrOrder)
	}
	checks(t, three().ordered(1, 1, 2).fresh(1), api.ErrOrder)
	checks(t, three().ordered(1, 1, 2).with([]int{1, 2}), api.ErrOrder)
	checks(t, three().ordered(maxOrder, 1, maxOrder-1), api.OK)
}

// P12.1: none, empty ones, ones that do not rise, an Id twice, Ids that no virtual CPU has; Ids of no runner of the queue.
func TestCheckOfGangs(t *testing.T) {
	for _, gangs := range [][][]int{
		{}, {{1}}, {{16}}, {{1, 16}}, {{1}, {2}, {5}}, {{5}, {2}, {1}}, {{2, 5}, {1}}, {{1, 5}, {2}},
		{{3}}, {{3, 4}, {6, 7, 16}}, {{1, 3}}, {{4, 5}}, {{2, 3, 16}, {1, 4, 6}},
		{{1, 2, 3, 4, 5, 6, 7, 8, 9, 10, 11, 12, 13, 14, 15, 16}},
		{{16}, {15}, {14}, {13}, {12}, {11}, {10}, {9}, {8}, {7}, {6}, {5}, {4}, {3}, {2}, {1}},
	} {
		checks(t, three().with(gangs...), api.OK)
		checks(t, ask{gangs: gangs}, api.OK)
	}
	for _, gangs := range [][][]int{
		{{}}, {nil}, {{}, {1, 2}}, {{1, 2}, {}}, {{1}, nil, {2}}, {{}, {}},
		{{2, 1}}, {{1, 5, 2}}, {{5, 1, 2}}, {{3}, {2, 1}}, {{16, 1}}, {{9, 8}},
		{{1, 1}}, {{1, 2, 2}}, {{1, 2, 1}}, {{16, 16}}, {{7, 7}},
		{{1}, {1}}, {{1, 2}, {2, 5}}, {{1, 2}, {5}, {1}}, {{1, 2}, {1, 2}}, {{8}, {3, 8}}, {{3, 16}, {4, 16}},
		{{0}}, {{0, 1}}, {{-1}}, {{-1, 1}}, {{-2, -1}}, {{math.MinInt}}, {{math.MinInt, 1}}, {{2}, {0}},
		{{17}}, {{1, 17}}, {{16, 17}}, {{2}, {17}}, {{1 << 32}}, {{1<<32 + 1}}, {{1, 1<<32 + 2}}, {{math.MaxInt}}, {{1, math.MaxInt}},
		make([][]int, 1<<16),
	} {
		checks(t, three().with(gangs...), api.ErrOrder)
		checks(t, ask{gangs: gangs}, api.ErrOrder)
	}
}

// P12.1: what may be, of which a number or two were made others, held against another telling.
func TestCheckOfWhatWasMadeAnother(t *testing.T) {
	next := chance()
	seen := map[api.Errno]int{}
	ids := []int{-1, 0, 1, 2, 3, 5, 8, 13, 15, 16, 17, 18}
	orders := []uint64{0, 1, 2, 3, 20, 40, maxOrder - 1, maxOrder, maxOrder + 1, most64}
	for _, a := range asks() {
		a = a.copied()
		for range 1 + next(2) {
			if n := len(a.gangs); n > 0 && next(2) == 0 {
				gang := a.gangs[next(n)]
				gang[next(len(gang))] = ids[next(len(ids))]
			}
			if n := len(a.waits); n > 0 {
				w := &a.waits[next(n)]
				switch next(6) {
				case 0:
					w.Id = ids[next(len(ids))]
				case 1:
					w.Order = orders[next(len(orders))]
				case 2:
					w.Order = a.waits[next(n)].Order
				case 3:
					w.Fresh = !w.Fresh
				}
			}
			if n := len(a.q.Runners); n > 0 && next(4) == 0 {
				a.q.Runners[next(n)].Id = ids[next(len(ids))]
			}
		}
		want := a.error()
		seen[want]++
		checks(t, a, want)
	}
	for _, no := range []api.Errno{api.OK, api.ErrQueue, api.ErrOrder} {
		if seen[no] < 100 {
			t.Errorf("error %d came %d times: too few to tell", no, seen[no])
		}
	}
}

// stand asks Ahead both ways.
func stand(t *testing.T, a, b api.Entity, want, back bool) {
	t.Helper()
	if one, other := order.Ahead(a, b), order.Ahead(b, a); one != want || other != back {
		t.Errorf("Ahead(%v, %v): %t, and back %t; want %t, %t", a, b, one, other, want, back)
	}
}

// P12.2: two that differ in one thing alone.
func TestAheadByOneThing(t *testing.T) {
	e := entity(false, of(7, 2), 5, 3, 4)
	stand(t, e, e, false, false)
	stand(t, entity(true, of(7, 2), 5, 3, 4), e, true, false)
	stand(t, entity(false, of(6, 2), 5, 3, 4), e, true, false)
	stand(t, entity(false, of(7, 3), 5, 3, 4), e, true, false)
	stand(t, entity(false, at(0, most64, 2), 5, 3), entity(false, at(1, 0, 2), 5, 3), true, false)
	stand(t, entity(false, at(mostHi, most64-1, 1), 5, 3), entity(false, last(1), 5, 3), true, false)
	stand(t, entity(false, last(maxWeight), 5, 3), entity(false, last(maxWeight-1), 5, 3), true, false)
	stand(t, entity(false, of(7, 2), 4, 3, 4), e, true, false)
	stand(t, entity(false, of(7, 2), 0, 3, 4), entity(false, of(7, 2), most64, 3, 4), true, false)
	stand(t, entity(false, of(7, 2), 1<<63-1, 3), entity(false, of(7, 2), 1<<63, 3), true, false)
	stand(t, entity(false, of(7, 2), 5, 2, 4), e, true, false)
	stand(t, entity(false, of(7, 2), 5, -1), entity(false, of(7, 2), 5, 0), true, false)
	stand(t, entity(false, of(7, 2), 5, math.MinInt), entity(false, of(7, 2), 5, math.MaxInt), true, false)
	stand(t, entity(false, of(7, 2), 5, 3), e, false, false)
	stand(t, entity(false, of(7, 2), 5, 3, 1), e, false, false)
	stand(t, entity(true, of(0, 1), 1, 1), entity(true, of(0, 1), 1, 1), false, false)
}

// P12.2: each thing against the ones that come behind it in the chapter.
func TestAheadByWhatComesFirst(t *testing.T) {
	for _, w := range []uint64{1, 2, 9, maxWeight} {
		stand(t, entity(true, last(1), maxOrder, 16), entity(false, of(0, w), 1, 1), true, false)
		stand(t, entity(true, of(1, w), 1, 1), entity(false, of(0, w), 1, 1), true, false)
		stand(t, entity(true, of(1, w), 2, 1), entity(false, of(1, w), 1, 1), true, false)
		stand(t, entity(true, of(1, w), 1, 2), entity(false, of(1, w), 1, 1), true, false)
		for _, fresh := range []bool{false, true} {
			stand(t, entity(fresh, of(3, w), maxOrder, 16), entity(fresh, of(4, w), 1, 1), true, false)
			stand(t, entity(fresh, of(3, w), 2, 1), entity(fresh, of(4, w), 1, 1), true, false)
			stand(t, entity(fresh, of(3, w), 1, 2), entity(fresh, of(4, w), 1, 1), true, false)
			stand(t, entity(fresh, of(3, w), 1, 16), entity(fresh, of(3, w), 2, 1), true, false)
		}
	}
}

// P12.2: of one value, told over unlike weights, the Order says who stands ahead, then the first member.
func TestAheadOfOneValue(t *testing.T) {
	one, other := of(10, 1), of(20, 2)
	stand(t, entity(false, one, 1, 5), entity(false, other, 2, 4), true, false)
	stand(t, entity(false, one, 2, 4), entity(false, other, 1, 5), false, true)
	stand(t, entity(false, one, 3, 4), entity(false, other, 3, 5), true, false)
	stand(t, entity(false, one, 3, 5), entity(false, other, 3, 4), false, true)
	stand(t, entity(false, one, 3, 5), entity(false, other, 3, 5), false, false)
	stand(t, entity(true, of(0, 1), 9, 5), entity(true, of(0, maxWeight), 8, 5), false, true)
	stand(t, entity(false, at(1<<35, 0, 2), 9, 5), entity(false, at(1<<34, 0, 1), 8, 5), false, true)
	stand(t, entity(false, of(1, 3), 9, 5), entity(false, of(21845, maxWeight), 8, 5), false, true)
	stand(t, entity(false, of(1, 3), 9, 5), entity(false, of(21846, maxWeight), 8, 5), true, false)
	stand(t, entity(false, of(1, 3), 7, 5), entity(false, of(21844, maxWeight), 8, 5), false, true)
}

// P12.2: one without members, and one with a Time that may not be, on either side.
func TestAheadOfWhatMayNotBe(t *testing.T) {
	least, most := entity(true, of(0, 1), 1, 1), entity(false, last(1), maxOrder, 16)
	stand(t, least, most, true, false)
	bad := []api.Entity{{}, entity(true, of(0, 1), 0), entity(false, of(5, 3), 7), entity(false, last(1), most64, []int{}...)}
	for _, time := range noTimes() {
		bad = append(bad, entity(true, time, 1, 1), entity(false, time, maxOrder, 16), entity(true, time, 1))
	}
	for _, e := range bad {
		stand(t, e, least, false, false)
		stand(t, e, most, false, false)
		for _, other := range bad {
			stand(t, e, other, false, false)
		}
	}
}

// variety are entities that differ in few things each, some of which may not be.
func variety() []api.Entity {
	l := []api.Entity{{}, entity(true, of(1, 2), 1), entity(true, of(1, 0), 1, 1)}
	for _, fresh := range []bool{true, false} {
		for _, time := range []api.Frac{of(0, 1), of(0, 7), of(1, 2), of(2, 4), last(1), last(2)} {
			for _, number := range []uint64{1, 2, maxOrder} {
				for _, members := range [][]int{{1}, {1, 2}, {2}, {2, 1}, {16}} {
					l = append(l, entity(fresh, time, number, members...))
				}
			}
		}
	}
	return l
}

// P12.2: all pairs of many, held against another telling.
func TestAheadAsTold(t *testing.T) {
	l := variety()
	next := chance()
	for range 200 {
		l = append(l, entity(next(2) == 0, someTime(next), uint64(next(3)), 1+next(3)))
	}
	for _, a := range l {
		for _, b := range l {
			stand(t, a, b, ahead(a, b), ahead(b, a))
		}
	}
}

// makes asks Entities for a row.
func makes(t *testing.T, a ask, want ...api.Entity) {
	t.Helper()
	if l, no := a.entities(); no != api.OK || !alike(l, want) {
		t.Errorf("Entities(%v): %v, %d; want %v", a, l, no, want)
	}
}

// P12.3: nobody; without gangs each is alone, as it is.
func TestEntitiesWithoutGangs(t *testing.T) {
	makes(t, ask{})
	makes(t, asked(runner(16, last(3))), entity(false, last(3), 1, 16))
	makes(t, asked(runner(7, of(4, 6))).fresh(7).ordered(maxOrder), entity(true, of(4, 6), maxOrder, 7))
	one, two, five := entity(false, of(10, 1), 1, 1), entity(false, of(20, 2), 2, 2), entity(false, of(5, 1), 3, 5)
	makes(t, three(), five, one, two)
	one.Order, two.Order = 2, 1
	makes(t, three().ordered(2, 1), five, two, one)
	one.Fresh = true
	makes(t, three().ordered(2, 1).fresh(1), one, five, two)
	two.Fresh = true
	makes(t, three().ordered(2, 1).fresh(1, 2), two, one, five)
	five.Fresh = true
	makes(t, three().ordered(2, 1).fresh(1, 2, 5), five, two, one)
}

// P12.3: a gang of which all, some, one and none are in the queue.
func TestEntitiesOfGangs(t *testing.T) {
	one, two, five := entity(false, of(10, 1), 1, 1), entity(false, of(20, 2), 2, 2), entity(false, of(5, 1), 3, 5)
	makes(t, three().with([]int{1, 2, 5}), entity(false, of(10, 1), 1, 1, 2, 5))
	makes(t, three().with([]int{1, 5}), entity(false, of(10, 1), 1, 1, 5), two)
	makes(t, three().with([]int{2, 5}), one, entity(false, of(20, 2), 2, 2, 5))
	makes(t, three().with([]int{1, 2}), five, entity(false, of(10, 1), 1, 1, 2))
	makes(t, three().with([]int{2, 3, 4, 5, 16}), one, entity(false, of(20, 2), 2, 2, 5))
	makes(t, three().with([]int{3, 5, 9}), five, one, two)
	makes(t, three().with([]int{1}, []int{2, 3}, []int{4, 5}), five, one, two)
	makes(t, three().with([]int{3, 4}, []int{6, 16}), five, one, two)
	makes(t, three().with([]int{3, 4}, []int{1, 2, 16}), five, entity(false, of(10, 1), 1, 1, 2))
	makes(t, ask{}.with([]int{1, 2}, []int{3}))
}

// P12.3: the first member of the greatest value tells the Time; who has it first, in between, last, and of parts alike and unlike.
func TestTimeOfAGang(t *testing.T) {
	for _, c := range []struct {
		times [3]api.Frac
		want  api.Frac
	}{
		{[3]api.Frac{of(9, 2), of(3, 1), of(4, 1)}, of(9, 2)},
		{[3]api.Frac{of(3, 1), of(9, 2), of(4, 1)}, of(9, 2)},
		{[3]api.Frac{of(4, 1), of(3, 1), of(9, 2)}, of(9, 2)},
		{[3]api.Frac{of(10, 1), of(20, 2), of(30, 3)}, of(10, 1)},
		{[3]api.Frac{of(9, 1), of(20, 2), of(30, 3)}, of(20, 2)},
		{[3]api.Frac{of(30, 3), of(9, 1), of(10, 1)}, of(30, 3)},
		{[3]api.Frac{of(0, 7), of(0, 5), of(0, 6)}, of(0, 7)},
		{[3]api.Frac{of(100, 50), of(5, 1), of(60, 20)}, of(5, 1)},
		{[3]api.Frac{last(3), last(2), last(1)}, last(1)},
		{[3]api.Frac{last(3), at(mostHi, most64-1, 2), last(2)}, last(2)},
		{[3]api.Frac{at(1, 0, 1), of(most64, 1), at(0, 5, 1)}, at(1, 0, 1)},
	} {
		a := asked(runner(4, c.times[0]), runner(9, c.times[1]), runner(16, c.times[2])).with([]int{4, 9, 16})
		makes(t, a, entity(false, c.want, 1, 4, 9, 16))
	}
}

// P12.3: the least Order of a gang, whoever has it; and Fresh, only if all of its members that are in the queue are.
func TestOrderAndFreshOfAGang(t *testing.T) {
	times := of(7, 2)
	a := asked(runner(4, times), runner(9, times), runner(16, times)).with([]int{2, 4, 9, 16})
	for _, l := range [][]uint64{{3, 4, 5}, {4, 3, 5}, {5, 4, 3}, {4, 5, 3}, {maxOrder, 3, maxOrder - 1}} {
		makes(t, a.ordered(l...), entity(false, times, 3, 4, 9, 16))
	}
	makes(t, a.ordered(maxOrder, maxOrder-1, maxOrder-2), entity(false, times, maxOrder-2, 4, 9, 16))
	for _, ids := range [][]int{{4}, {9}, {16}, {4, 9}, {4, 16}, {9, 16}} {
		makes(t, a.fresh(ids...), entity(false, times, 1, 4, 9, 16))
	}
	makes(t, a.fresh(4, 9, 16), entity(true, times, 1, 4, 9, 16))
	makes(t, a.fresh(4, 16).with([]int{4, 16}), entity(true, times, 1, 4, 16), entity(false, times, 2, 9))
	makes(t, a.fresh(9).with([]int{4, 16}), entity(true, times, 2, 9), entity(false, times, 1, 4, 16))
	makes(t, a.fresh(4).with([]int{4, 16}), entity(false, times, 1, 4, 16), entity(false, times, 2, 9))
}

// P12.3: of one value gangs and single ones stand by their Orders.
func TestEntitiesOfOneValue(t *testing.T) {
	a := asked(runner(1, of(1, 1)), runner(2, of(2, 2)), runner(3, of(3, 3)), runner(4, of(4, 4)), runner(5, of(5, 5))).ordered(50, 40, 30, 20, 10)
	one, three := entity(false, of(1, 1), 50, 1), entity(false, of(3, 3), 30, 3)
	makes(t, a, entity(false, of(5, 5), 10, 5), entity(false, of(4, 4), 20, 4), three, entity(false, of(2, 2), 40, 2), one)
	makes(t, a.with([]int{2, 5}), entity(false, of(2, 2), 10, 2, 5), entity(false, of(4, 4), 20, 4), three, one)
	makes(t, a.with([]int{2, 5}, []int{1, 4}), entity(false, of(2, 2), 10, 2, 5), entity(false, of(1, 1), 20, 1, 4), three)
	makes(t, a.with([]int{2}, []int{1, 3}, []int{4, 5}), entity(false, of(4, 4), 10, 4, 5), entity(false, of(1, 1), 30, 1, 3), entity(false, of(2, 2), 40, 2))
}

// P12.3: the entities of many, held against another telling; each stands ahead of all behind it.
func TestEntitiesAsTold(t *testing.T) {
	many := 0
	for _, a := range asks() {
		l, no := a.entities()
		if want := a.told(); no != api.OK || !alike(l, want) {
			t.Fatalf("Entities(%v): %v, %d; want %v", a, l, no, want)
		}
		for place, e := range l {
			for _, behind := range l[place+1:] {
				stand(t, e, behind, true, false)
			}
			if len(e.Members) > 1 {
				many++
			}
		}
	}
	if many < 1000 {
		t.Errorf("gangs of several came %d times: too few to tell", many)
	}
}

// places asks Place.
func places(t *testing.T, l []api.Entity, id, want int, wantSome bool) {
	t.Helper()
	if place, some := order.Place(l, id); place != want || some != wantSome {
		t.Errorf("Place(%v, %d): %d, %t; want %d, %t", l, id, place, some, want, wantSome)
	}
}

// P12.4: a member of the first entity, of the last, of two, of none; of whatever entities.
func TestPlace(t *testing.T) {
	some := of(1, 2)
	l := []api.Entity{entity(false, some, 1, 3, 8), entity(false, some, 2, 5), {}, entity(true, of(0, 0), 0, 8, 2, 5), entity(false, some, 1, 16, 1, 16)}
	for id, want := range map[int]int{3: 0, 8: 0, 5: 1, 2: 3, 16: 4, 1: 4} {
		places(t, l, id, want, true)
	}
	for _, id := range []int{0, -1, 4, 6, 15, 17, math.MinInt, math.MaxInt, 3 + 1<<32, -3} {
		places(t, l, id, 0, false)
		places(t, nil, id, 0, false)
		places(t, []api.Entity{{}}, id, 0, false)
	}
	places(t, []api.Entity{}, 3, 0, false)
	odd := []api.Entity{entity(false, some, 1), entity(false, some, 1, 0, -7), entity(false, some, 1, -7, 99)}
	places(t, odd, 0, 1, true)
	places(t, odd, -7, 1, true)
	places(t, odd, 99, 2, true)
}

// firstOf asks First for an entity.
func firstOf(t *testing.T, l []api.Entity, want api.Entity, wantSome bool) {
	t.Helper()
	if e, some := order.First(l); !same(e, want) || some != wantSome {
		t.Errorf("First(%v): %v, %t; want %v, %t", l, e, some, want, wantSome)
	}
}

// P12.4: of none; of some of which none can stand; the first one at each place, among others in no order.
func TestFirst(t *testing.T) {
	firstOf(t, nil, api.Entity{}, false)
	firstOf(t, []api.Entity{}, api.Entity{}, false)
	bad := []api.Entity{{}, entity(true, of(0, 1), 0), entity(true, of(0, 0), 0, 1), entity(true, at(1<<36, 0, 1), 0, 1), entity(true, of(0, 65536), 1, 1)}
	firstOf(t, bad, api.Entity{}, false)
	lone := entity(false, last(1), most64, math.MaxInt, 5)
	firstOf(t, []api.Entity{lone}, lone, true)
	for place := range len(bad) + 1 {
		firstOf(t, bad[:place], api.Entity{}, false)
		firstOf(t, slices.Insert(slices.Clone(bad), place, lone), lone, true)
	}
	best := entity(true, of(1, 3), 4, 2, 9)
	l := []api.Entity{entity(true, of(1, 3), 4, 3), entity(false, of(0, 1), 1, 1), {}, entity(true, of(2, 3), 1, 1), entity(true, of(1, 3), 5, 1), entity(true, of(0, 0), 1, 1)}
	for place := range len(l) + 1 {
		firstOf(t, slices.Insert(slices.Clone(l), place, best), best, true)
	}
}

// P12.4: of several ahead of which none stands the one at the least place.
func TestFirstOfSeveral(t *testing.T) {
	one, other, far := entity(false, of(1, 1), 7, 4, 5), entity(false, of(2, 2), 7, 4), entity(false, of(3, 1), 1, 1)
	firstOf(t, []api.Entity{one, other}, one, true)
	firstOf(t, []api.Entity{other, one}, other, true)
	firstOf(t, []api.Entity{far, other, one, other}, other, true)
	firstOf(t, []api.Entity{{}, one, far, other, one}, one, true)
	firstOf(t, []api.Entity{far, far, far, one, one, other}, one, true)
}

// P12.4: the entities of many, in no order, with others between them, held against another telling; and the member of each.
func TestPlaceAndFirstAsTold(t *testing.T) {
	next := chance()
	odd := variety()
	for _, a := range asks() {
		row, _ := a.entities()
		if len(row) > 0 {
			firstOf(t, row, row[0], true)
		} else {
			firstOf(t, row, api.Entity{}, false)
		}
		for range next(4) {
			row = append(row, odd[next(len(odd))])
		}
		for place := range row {
			other := next(place + 1)
			row[place], row[other] = row[other], row[place]
		}
		want := slices.IndexFunc(row, func(e api.Entity) bool {
			return stands(e) && !slices.ContainsFunc(row, func(other api.Entity) bool { return ahead(other, e) })
		})
		if want < 0 {
			firstOf(t, row, api.Entity{}, false)
		} else {
			firstOf(t, row, row[want], true)
		}
		for id := range maxVcpus + 2 {
			place := slices.IndexFunc(row, func(e api.Entity) bool { return slices.Contains(e.Members, id) })
			places(t, row, id, max(place, 0), place >= 0)
		}
	}
}

// P12.4: both end soon of long rows, rising, falling, all alike, none that can stand.
func TestPlaceAndFirstOfLongRows(t *testing.T) {
	const many = 1 << 17
	var rising, falling, level []api.Entity
	for place := range many {
		rising = append(rising, entity(false, of(uint64(place), 3), 1, place))
		falling = append(falling, entity(false, of(uint64(many-place), 3), 1, place))
		level = append(level, entity(false, of(uint64(1+place%maxWeight), uint64(1+place%maxWeight)), 1, 1, place))
	}
	for _, c := range []struct {
		l    []api.Entity
		want int
	}{{rising, 0}, {falling, many - 1}, {level, 0}} {
		if e, some := order.First(c.l); !some || !same(e, c.l[c.want]) {
			t.Errorf("First: %v, %t; want %v", e, some, c.l[c.want])
		}
		if place, some := order.Place(c.l, many-1); !some || place != many-1 {
			t.Errorf("Place: %d, %t; want %d", place, some, many-1)
		}
	}
	if e, some := order.First(make([]api.Entity, many)); some || !same(e, api.Entity{}) {
		t.Errorf("First: %v, %t; want none", e, some)
	}
}

// P12.5: of two that are not alike in Fresh, Time, Order and first member just one stands ahead; of two that are, none.
func TestJustOneStandsAhead(t *testing.T) {
	l := variety()
	for _, a := range l {
		for _, b := range l {
			if !stands(a) || !stands(b) {
				continue
			}
			apart := a.Fresh != b.Fresh || worth(a.Time).Cmp(worth(b.Time)) != 0 || a.Order != b.Order || a.Members[0] != b.Members[0]
			one, other := order.Ahead(a, b), order.Ahead(b, a)
			if one && other || (one || other) != apart {
				t.Errorf("Ahead(%v, %v): %t, and back %t", a, b, one, other)
			}
		}
	}
}

// P12.5: who stands ahead of one that is ahead of another one stands ahead of that.
func TestAheadOfOneAheadOfAnother(t *testing.T) {
	l := variety()
	front := make([][]bool, len(l))
	for i, a := range l {
		for _, b := range l {
			front[i] = append(front[i], order.Ahead(a, b))
		}
	}
	chains := 0
	for i := range l {
		for j := range l {
			for k := range l {
				if front[i][j] && front[j][k] {
					chains++
					if !front[i][k] {
						t.Fatalf("%v stands ahead of %v, that of %v; but it does not stand ahead of that", l[i], l[j], l[k])
					}
				}
			}
		}
	}
	if chains < 1000 {
		t.Errorf("%d chains: too few to tell", chains)
	}
}

// P12.5: each runner is in one entity, and nobody else is in any; whoever is in a gang is there with all of it that is in the queue.
func TestEachRunnerIsInOneEntity(t *testing.T) {
	for _, a := range asks() {
		l, _ := a.entities()
		var met, want []int
		for place, e := range l {
			met = append(met, e.Members...)
			for _, id := range e.Members {
				places(t, l, id, place, true)
				if !slices.Equal(e.Members, a.mates(id)) {
					t.Errorf("Entities(%v): %d is in %v; want %v", a, id, e.Members, a.mates(id))
				}
			}
		}
		for _, r := range a.q.Runners {
			want = append(want, r.Id)
		}
		slices.Sort(met)
		if !slices.Equal(met, want) {
			t.Errorf("Entities(%v): of %v; want %v", a, met, want)
		}
	}
}

// P12.5: without gangs who has the least virtual time is first among those that are Fresh, and then among the others.
func TestTheLeastVirtualTimeIsFirst(t *testing.T) {
	for _, a := range asks() {
		l, no := a.with().entities()
		if no != api.OK || len(l) != len(a.q.Runners) {
			t.Fatalf("Entities(%v): %v, %d", a, l, no)
		}
		fresh := 0
		for _, w := range a.waits {
			if w.Fresh {
				fresh++
			}
		}
		for place, e := range l {
			if e.Fresh != (place < fresh) {
				t.Errorf("Entities(%v): %v at %d; %d are fresh", a, e, place, fresh)
			}
			if place > 0 && place != fresh && worth(l[place-1].Time).Cmp(worth(e.Time)) > 0 {
				t.Errorf("Entities(%v): %v, then %v", a, l[place-1], e)
			}
		}
	}
}

// P12.5: gangs that are handed in in another order give the same entities.
func TestGangsInAnotherOrder(t *testing.T) {
	next := chance()
	turned := 0
	for _, a := range asks() {
		want, _ := a.entities()
		b := a.copied()
		for range 4 {
			for place := range b.gangs {
				other := next(place + 1)
				b.gangs[place], b.gangs[other] = b.gangs[other], b.gangs[place]
			}
			if !a.equals(b) {
				turned++
			}
			makes(t, b, want...)
		}
	}
	if turned < 1000 {
		t.Errorf("%d were turned: too few to tell", turned)
	}
}

// R5: asked again it tells the same.
func TestAskedAgain(t *testing.T) {
	for _, a := range asks() {
		want, _ := a.entities()
		for range 3 {
			makes(t, a, want...)
		}
	}
}

// roomy is the same, with others in the room behind each end; and all of it.
func (a ask) roomy() (ask, ask) {
	all := a.copied()
	all.q.Runners = append(all.q.Runners, runner(9, of(1, 1)), runner(0, of(0, 0)))
	all.waits = append(all.waits, wait(9, 1), api.Wait{})
	short := ask{q: queue(all.q.Runners[:len(a.q.Runners)]...), waits: all.waits[:len(a.waits)]}
	for place := range all.gangs {
		all.gangs[place] = append(all.gangs[place], -1, 99)
		short.gangs = append(short.gangs, all.gangs[place][:len(a.gangs[place])])
	}
	return short, all
}

// roomyRow is the same row, with others in the room behind each end; and all of it.
func roomyRow(l []api.Entity) ([]api.Entity, []api.Entity) {
	all := copiedRow(l)
	for place := range all {
		all[place].Members = append(all[place].Members, -1, 99)
	}
	all = append(all, entity(true, of(0, 1), 0, 1), api.Entity{})
	short := slices.Clone(all[:len(l)])
	for place := range short {
		short[place].Members = all[place].Members[:len(l[place].Members)]
	}
	return short, all
}

// R3: no call changes what it is handed, nor what stands behind its end; and that does not count.
func TestNothingIsChanged(t *testing.T) {
	for _, a := range append(asks(), three().with([]int{5, 1}), three().ordered(0, 0), ask{q: queue(runner(1, of(0, 0)))}) {
		short, all := a.roomy()
		was := all.copied()
		no := order.Check(short.q, short.waits, short.gangs)
		l, wantNo := a.entities()
		row, rowNo := short.entities()
		if no != wantNo || rowNo != wantNo || !alike(l, row) || !all.equals(was) {
			t.Errorf("of %v came %v: %d, %v, %d; want %v, %d", was, all, no, row, rowNo, l, wantNo)
		}
		row, whole := roomyRow(row)
		before := copiedRow(whole)
		first, some := order.First(row)
		if place, in := order.Place(row, 99); in || place != 0 {
			t.Errorf("Place(%v, 99): %d, %t; want 0, false", row, place, in)
		}
		for _, e := range row {
			order.Ahead(e, row[0])
		}
		if some != (len(row) > 0) || some && !same(first, row[0]) || !alike(whole, before) {
			t.Errorf("of %v came %v; First: %v, %t", before, whole, first, some)
		}
	}
}

// spoil overwrites all the room that the members of each have.
func spoil(l []api.Entity) {
	for place := range l {
		room := l[place].Members
		room = room[:cap(room)]
		for i := range room {
			room[i] = -5
		}
	}
}

// R3: what is answered is new memory: it is nobody else's, neither another answer's nor what was handed in, nor another list's of the same answer.
func TestAnswersAreNewMemory(t *testing.T) {
	for _, a := range asks() {
		was := a.copied()
		one, _ := a.entities()
		other, _ := a.entities()
		want := copiedRow(other)
		first, some := order.First(other)
		again, _ := order.First(other)
		kept := slices.Clone(first.Members)
		for place := range one {
			spoil(one[place : place+1])
			if !alike(one[place+1:], want[place+1:]) {
				t.Errorf("Entities(%v): of %v came %v by changing those ahead", a, want[place+1:], one[place+1:])
			}
		}
		spoil([]api.Entity{first})
		if !alike(other, want) || !a.equals(was) || some && !slices.Equal(again.Members, kept) {
			t.Errorf("of %v, %v came %v, %v", was, want, a, other)
		}
		clear(one[:cap(one)])
		makes(t, a, want...)
		spoil(other)
		if !slices.Equal(again.Members, kept) {
			t.Errorf("First(%v) is now %v", want, again)
		}
	}
}

// R3: what is handed in is not kept.
func TestNothingIsKept(t *testing.T) {
	a := three().with([]int{1, 5})
	l, _ := a.entities()
	want := copiedRow(l)
	clear(a.q.Runners)
	clear(a.waits)
	clear(a.gangs[0])
	clear(a.gangs)
	if !alike(l, want) {
		t.Errorf("what was answered is now %v; want %v", l, want)
	}
}

// The chapter's examples.
func TestExamples(t *testing.T) {
	a := asked(runner(1, of(10, 1)), runner(2, of(20, 2)), runner(3, of(5, 1))).ordered(3, 1, 2)
	for _, c := range []struct {
		a    ask
		want [][]int
	}{
		{a, [][]int{{3}, {2}, {1}}},
		{a.with([]int{1, 3}), [][]int{{2}, {1, 3}}},
		{a.fresh(1), [][]int{{1}, {3}, {2}}},
	} {
		l, no := c.a.entities()
		if no != api.OK || fmt.Sprint(membersOf(l)) != fmt.Sprint(c.want) {
			t.Errorf("Entities(%v): %v, %d; want %v", c.a, l, no, c.want)
		}
	}
	second, _ := a.with([]int{1, 3}).entities()
	places(t, second, 3, 1, true)
	places(t, second, 4, 0, false)
	checks(t, a.waiting(), api.ErrOrder)
}
