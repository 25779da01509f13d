package wheel_test

import (
	"math"
	"slices"
	"testing"

	"mainsheet/api"
	"mainsheet/wheel"
)

// The limits, as the document says them, and how many slots a level has.
const (
	maxTime   = 1 << 50
	maxTimers = 32
	levels    = 9
	slots     = 64
)

// timer is the one of that Id, due at that time.
func timer(id int, at int64) api.Timer {
	return api.Timer{Id: id, At: at}
}

// at is the wheel of that Now, with these timers.
func at(now int64, timers ...api.Timer) api.Wheel {
	return api.Wheel{Now: now, Timers: timers}
}

// dues is the wheel of that Now with timers due at these times, of the Ids from 0 on.
func dues(now int64, l ...int64) api.Wheel {
	w := at(now)
	for id, due := range l {
		w.Timers = append(w.Timers, timer(id, due))
	}
	return w
}

// copied is w in memory of its own.
func copied(w api.Wheel) api.Wheel {
	return api.Wheel{Now: w.Now, Timers: slices.Clone(w.Timers)}
}

// remade is a copy of w, whose timer at that place is made another one.
func remade(w api.Wheel, place int, change func(t *api.Timer)) api.Wheel {
	c := copied(w)
	change(&c.Timers[place])
	return c
}

// upTo are the numbers from that one to that one.
func upTo(from, to int) []int {
	var l []int
	for n := from; n <= to; n++ {
		l = append(l, n)
	}
	return l
}

// power is 64, so many times.
func power(n int) int64 {
	p := int64(1)
	for range n {
		p *= slots
	}
	return p
}

// sameTimers tells whether both are the same, held one by one.
func sameTimers(a, b []api.Timer) bool {
	if len(a) != len(b) {
		return false
	}
	for i := range a {
		if a[i].Id != b[i].Id || a[i].At != b[i].At {
			return false
		}
	}
	return true
}

// sameAsTold tells whether both are the same.
func sameAsTold(a, b api.Wheel) bool {
	return a.Now == b.Now && sameTimers(a.Timers, b.Timers)
}

// isZero tells whether there is nothing in w.
func isZero(w api.Wheel) bool {
	return w.Now == 0 && len(w.Timers) == 0
}

// mayBe tells whether the wheel may be, as the chapter says it.
func mayBe(w api.Wheel) bool {
	may := 0 <= w.Now && w.Now <= maxTime
	for i, t := range w.Timers {
		may = may && 0 <= t.Id && t.Id < maxTimers && w.Now < t.At && t.At <= maxTime
		may = may && (i == 0 || w.Timers[i-1].Id < t.Id)
	}
	return may
}

// spotAsTold is the level and the slot of a timer due at due when it is now: found from the highest level down, by division.
func spotAsTold(now, due int64) (int, int) {
	for level := levels - 1; level > 0; level-- {
		if now/power(level) != due/power(level) {
			return level, int(due / power(level) % slots)
		}
	}
	return 0, int(due % slots)
}

// dueOf is when w's timer of that Id is due, and whether there is one.
func dueOf(w api.Wheel, id int) (int64, bool) {
	for _, t := range w.Timers {
		if t.Id == id {
			return t.At, true
		}
	}
	return 0, false
}

// withTimer is w with that timer, asked Id by Id.
func withTimer(w api.Wheel, id int, due int64) api.Wheel {
	made := at(w.Now)
	for n := range maxTimers {
		if n == id {
			made.Timers = append(made.Timers, timer(id, due))
		} else if other, there := dueOf(w, n); there {
			made.Timers = append(made.Timers, timer(n, other))
		}
	}
	return made
}

// withoutTimer is w without the timer of that Id.
func withoutTimer(w api.Wheel, id int) api.Wheel {
	made := at(w.Now)
	for _, t := range w.Timers {
		if t.Id != id {
			made.Timers = append(made.Timers, t)
		}
	}
	return made
}

// passedAsTold is w when it is to, and what fires till then: again and again the one that is due first, of several the first one.
func passedAsTold(w api.Wheel, to int64) (api.Wheel, []api.Timer) {
	var fired []api.Timer
	left := copied(w)
	for {
		first := -1
		for i, t := range left.Timers {
			if t.At <= to && (first < 0 || t.At < left.Timers[first].At) {
				first = i
			}
		}
		if first < 0 {
			left.Now = to
			return left, fired
		}
		fired = append(fired, left.Timers[first])
		left = withoutTimer(left, left.Timers[first].Id)
	}
}

// movesAsTold is how many levels those that are left go down.
func movesAsTold(w api.Wheel, to int64) int {
	n := 0
	for _, t := range w.Timers {
		if t.At > to {
			was, _ := spotAsTold(w.Now, t.At)
			is, _ := spotAsTold(to, t.At)
			n += was - is
		}
	}
	return n
}

// chance tells numbers below n by a short rule, the same whenever it is asked anew.
func chance() func(n int64) int64 {
	x := uint64(15)
	short := func() uint64 {
		x = x*6364136223846793005 + 1442695040888963407
		return x >> 33
	}
	return func(n int64) int64 {
		return int64((short()<<31 | short()) % uint64(n))
	}
}

// someTime is one from least on: a little above it, on a higher level, near an edge of digits, or whatever one.
func someTime(next func(int64) int64, least int64) int64 {
	p := power(int(next(levels)))
	n := least + next(4)
	switch next(5) {
	case 0:
		n = least + next(p)
	case 1:
		n = least + next(70)*p
	case 2:
		n = (least/p+1+next(3))*p + next(3) - 1
	case 3:
		n = least + next(maxTime-least+1)
	}
	return max(least, min(n, maxTime))
}

// someWheel is one that may be.
func someWheel(next func(int64) int64) api.Wheel {
	now := someTime(next, 0)
	if next(3) == 0 {
		now = next(5000)
	}
	w := at(now)
	part := 1 + next(8)
	for id := range maxTimers {
		if now == maxTime || next(8) >= part {
			continue
		}
		due := someTime(next, now+1)
		if next(4) == 0 && len(w.Timers) > 0 {
			due = w.Timers[next(int64(len(w.Timers)))].At
		}
		w.Timers = append(w.Timers, timer(id, due))
	}
	return w
}

// chapters is the wheel of the chapter's examples.
func chapters() api.Wheel {
	return dues(60, 63, 64, 4096)
}

// three is a wheel with room for other timers between its own.
func three() api.Wheel {
	return at(1000, timer(3, 70000), timer(9, 1001), timer(20, 5000))
}

// full is a wheel with as many timers as there may be; many are due at one time.
func full() api.Wheel {
	w := at(7)
	for id := range maxTimers {
		w.Timers = append(w.Timers, timer(id, 8+int64(id*13%8)*100))
	}
	return w
}

// known are wheels that may be: of no timers, of one, of some, of as many as there may be, at the bounds of times.
func known() []api.Wheel {
	return []api.Wheel{
		{}, at(1), at(maxTime - 1), at(maxTime), {Now: 5, Timers: []api.Timer{}},
		dues(0, 1), dues(0, maxTime), at(0, timer(maxTimers-1, 1)), at(maxTime-1, timer(maxTimers-1, maxTime)), dues(maxTime-1, maxTime, maxTime),
		dues(9, 10, 10), dues(9, 11, 10), dues(9, 10, 11, 10, 11), chapters(), three(), full(),
		dues(0, 63, 64, 65, 4095, 4096, 4097, 262143, 262144, 262145, 1<<24-1, 1<<24, 1<<30, 1<<36, 1<<42, 1<<48, 1<<50),
	}
}

// many are wheels that may be.
func many() []api.Wheel {
	l := known()
	next := chance()
	for range 800 {
		l = append(l, someWheel(next))
	}
	return l
}

// noIds are numbers that no timer has.
func noIds() []int {
	return []int{-1, -2, -31, -32, math.MinInt, maxTimers, maxTimers + 1, 63, 64, 255, 256, 1 << 32, 1<<32 + 1, math.MaxInt}
}

// noTimes are such as are none.
func noTimes() []int64 {
	return []int64{-1, -2, -64, -maxTime, math.MinInt64, math.MinInt64 + 1, maxTime + 1, maxTime + 2, 2 * maxTime, 1 << 54, 1 << 62, math.MaxInt64 - 1, math.MaxInt64}
}

// noWheels are such as may not be.
func noWheels() []api.Wheel {
	var l []api.Wheel
	for _, now := range noTimes() {
		l = append(l, at(now), at(now, timer(0, 5)), at(now, timer(0, now+1)), at(now, timer(0, maxTime)), api.Wheel{Now: now, Timers: three().Timers})
	}
	l = append(l,
		at(0, api.Timer{}), at(0, timer(0, 0)), at(maxTime, timer(0, maxTime)), at(maxTime, timer(0, maxTime+1)),
		at(0, timer(1, 5), timer(0, 5)), at(0, timer(1, 5), timer(1, 5)), at(0, timer(1, 5), timer(1, 6)), at(0, timer(0, 5), timer(0, 5)), at(0, timer(31, 5), timer(31, 5)),
		at(0, timer(1, 6), timer(2, 5), timer(1, 7)), api.Wheel{Timers: make([]api.Timer, 1<<16)},
		api.Wheel{Now: 7, Timers: append(full().Timers, timer(32, 9))}, api.Wheel{Now: 7, Timers: append(full().Timers, timer(31, 9))}, api.Wheel{Now: 7, Timers: append(full().Timers, timer(0, 9))},
	)
	for place, t := range three().Timers {
		for _, id := range append(noIds(), 2*place+32) {
			l = append(l, remade(three(), place, func(t *api.Timer) { t.Id = id }))
		}
		for _, due := range append(noTimes(), 0, 1, 999, 1000) {
			l = append(l, remade(three(), place, func(t *api.Timer) { t.At = due }))
		}
		for other := range three().Timers {
			if other != place {
				l = append(l, remade(three(), other, func(o *api.Timer) { o.Id = t.Id }))
			}
		}
	}
	return l
}

// refused asks all calls of a wheel that may not be, with what they would take of another one, and with what they would not.
func refused(t *testing.T, w api.Wheel) {
	t.Helper()
	if no := wheel.Check(w); no != api.ErrWheel {
		t.Errorf("Check(%v): %d; want ErrWheel", w, no)
	}
	for _, id := range []int{0, 1, 3, 9, 20, 31, 32, -1} {
		if due, there := wheel.At(w, id); due != 0 || there {
			t.Errorf("At(%v, %d): %d, %t; want nothing", w, id, due, there)
		}
		if level, slot, there := wheel.Place(w, id); level != 0 || slot != 0 || there {
			t.Errorf("Place(%v, %d): %d, %d, %t; want nothing", w, id, level, slot, there)
		}
		if made, no := wheel.Cancel(w, id); no != api.ErrWheel || !isZero(made) {
			t.Errorf("Cancel(%v, %d): %v, %d; want ErrWheel alone", w, id, made, no)
		}
		for _, due := range []int64{-1, 0, 5, 1500, maxTime, maxTime + 1} {
			if made, no := wheel.Set(w, id, due); no != api.ErrWheel || !isZero(made) {
				t.Errorf("Set(%v, %d, %d): %v, %d; want ErrWheel alone", w, id, due, made, no)
			}
		}
	}
	if due, some := wheel.Next(w); due != 0 || some {
		t.Errorf("Next(%v): %d, %t; want nothing", w, due, some)
	}
	for _, to := range []int64{-1, 0, 5, w.Now, w.Now + 1, 5000, maxTime, maxTime + 1} {
		if made, fired, no := wheel.Pass(w, to); no != api.ErrWheel || !isZero(made) || len(fired) != 0 {
			t.Errorf("Pass(%v, %d): %v, %v, %d; want ErrWheel alone", w, to, made, fired, no)
		}
		if n, no := wheel.Moves(w, to); no != api.ErrWheel || n != 0 {
			t.Errorf("Moves(%v, %d): %d, %d; want ErrWheel alone", w, to, n, no)
		}
	}
	for level := range levels {
		for _, slot := range []int{0, 1, 2, 5, 15, 17, 41, 63} {
			if ids := wheel.Slot(w, level, slot); len(ids) != 0 {
				t.Errorf("Slot(%v, %d, %d): %v; want nothing", w, level, slot, ids)
			}
		}
	}
}

// checks asks Check whether a wheel may be, and the other calls of one that may not.
func checks(t *testing.T, w api.Wheel, may bool) {
	t.Helper()
	if !may {
		refused(t, w)
		return
	}
	if no := wheel.Check(w); no != api.OK {
		t.Errorf("Check(%v): %d; want OK", w, no)
	}
}

// P15.1: wheels that may be, and such as may not.
func TestCheck(t *testing.T) {
	for _, w := range many() {
		if !mayBe(w) {
			t.Fatalf("%v may not be", w)
		}
		checks(t, w, true)
	}
	for _, w := range noWheels() {
		if mayBe(w) {
			t.Fatalf("%v may be", w)
		}
		checks(t, w, false)
	}
}

// P15.1: no timers, one, and so on to MaxTimers of them; and one more, whatever Id it has.
func TestCheckOfHowManyTimers(t *testing.T) {
	w := at(5)
	for id := range maxTimers {
		checks(t, w, true)
		w.Timers = append(w.Timers, timer(id, 6))
	}
	checks(t, w, true)
	for id := -1; id <= maxTimers+1; id++ {
		checks(t, api.Wheel{Now: 5, Timers: append(slices.Clip(w.Timers), timer(id, 6))}, false)
		checks(t, api.Wheel{Now: 5, Timers: append([]api.Timer{timer(id, 6)}, w.Timers...)}, false)
	}
}

// P15.1: each Id, and those beyond, of one timer and between others; Ids that do not rise.
func TestCheckOfIds(t *testing.T) {
	for id := -3; id <= maxTimers+3; id++ {
		checks(t, at(5, timer(id, 6)), 0 <= id && id < maxTimers)
		for place, between := range [][2]int{{-1, 9}, {3, 20}, {9, maxTimers}} {
			checks(t, remade(three(), place, func(t *api.Timer) { t.Id = id }), between[0] < id && id < between[1])
		}
	}
	for _, id := range noIds() {
		checks(t, at(5, timer(id, 6)), false)
		checks(t, at(5, timer(0, 6), timer(id, 6)), false)
		checks(t, at(5, timer(id, 6), timer(31, 6)), false)
	}
	for place := range maxTimers {
		for id := range maxTimers {
			checks(t, remade(full(), place, func(t *api.Timer) { t.Id = id }), place == id)
			swapped := full()
			swapped.Timers[place], swapped.Timers[id] = swapped.Timers[id], swapped.Timers[place]
			checks(t, swapped, place == id)
		}
	}
}

// P15.1: Now 0, below it, MaxTime, and above it; At at Now, below it, one above, MaxTime, one above.
func TestCheckOfTimes(t *testing.T) {
	for _, now := range append(noTimes(), 0, 1, 63, 64, 4096, maxTime-2, maxTime-1, maxTime) {
		isTime := 0 <= now && now <= maxTime
		checks(t, at(now), isTime)
		for _, due := range append(noTimes(), 0, 1, 2, 63, 64, 65, maxTime-1, maxTime, now-64, now-1, now, now+1, now+64) {
			may := isTime && now < due && due <= maxTime
			checks(t, at(now, timer(4, due)), may)
			if now < maxTime {
				checks(t, at(now, timer(4, now+1), timer(5, due)), may)
				checks(t, at(now, timer(4, due), timer(5, now+1)), may)
				checks(t, at(now, timer(4, now+1), timer(5, due), timer(6, maxTime)), may)
			}
		}
	}
}

// P15.1: wheels of which a thing was made another one, held against another telling.
func TestCheckOfWhatWasMadeAnother(t *testing.T) {
	next := chance()
	seen := map[bool]int{}
	for _, w := range many() {
		for range 4 {
			c := copied(w)
			if len(c.Timers) == 0 || next(6) == 0 {
				c.Now += next(200) - 100
			} else {
				r := &c.Timers[next(int64(len(c.Timers)))]
				switch next(4) {
				case 0:
					r.Id = int(next(40)) - 4
				case 1:
					r.Id += int(next(3)) - 1
				case 2:
					r.At = c.Now + next(5) - 2
				case 3:
					r.At = maxTime + next(5) - 2
				}
			}
			may := mayBe(c)
			seen[may]++
			checks(t, c, may)
		}
	}
	if seen[true] < 1000 || seen[false] < 1000 {
		t.Errorf("%d might be, %d might not: too few to tell", seen[true], seen[false])
	}
}

// same asks Same of both, one way and the other one.
func same(t *testing.T, a, b api.Wheel, want bool) {
	t.Helper()
	if got := wheel.Same(a, b); got != want {
		t.Errorf("Same(%v, %v): %t; want %t", a, b, got, want)
	}
	if got := wheel.Same(b, a); got != want {
		t.Errorf("Same(%v, %v): %t; want %t", b, a, got, want)
	}
}

// P15.1: Same of equal ones, and of ones that differ in a thing.
func TestSame(t *testing.T) {
	for _, w := range many() {
		same(t, w, w, true)
		same(t, w, copied(w), true)
		c := copied(w)
		c.Now++
		same(t, w, c, false)
		c = copied(w)
		c.Timers = append(c.Timers, timer(31, maxTime))
		same(t, w, c, false)
		same(t, w, at(w.Now), len(w.Timers) == 0)
		for place := range w.Timers {
			same(t, w, remade(w, place, func(t *api.Timer) { t.Id++ }), false)
			same(t, w, remade(w, place, func(t *api.Timer) { t.At++ }), false)
			same(t, w, remade(w, place, func(t *api.Timer) { t.At ^= 1 << 49 }), false)
			same(t, w, api.Wheel{Now: w.Now, Timers: slices.Delete(slices.Clone(w.Timers), place, place+1)}, false)
			same(t, w, api.Wheel{Now: w.Now, Timers: w.Timers[:place]}, false)
		}
	}
	same(t, api.Wheel{}, api.Wheel{Timers: []api.Timer{}}, true)
	same(t, api.Wheel{}, dues(0, 1), false)
	same(t, at(0), at(maxTime), false)
	same(t, dues(0, 5, 6), dues(0, 6, 5), false)
	same(t, at(0, timer(1, 5)), at(0, timer(2, 5)), false)
	same(t, at(0, timer(1, 5), timer(2, 5)), at(0, timer(1, 5)), false)
	same(t, at(0, timer(1, 5), timer(2, 5)), at(0, timer(2, 5)), false)
}

// P15.1: Same of what may not be.
func TestSameOfWhatMayNotBe(t *testing.T) {
	l := noWheels()
	for i, w := range l {
		same(t, w, copied(w), true)
		same(t, w, three(), false)
		same(t, w, api.Wheel{}, false)
		for _, other := range l[:min(i, 60)] {
			same(t, w, other, sameAsTold(w, other))
		}
	}
}

// tells asks At, Next and Place what another telling says, of all Ids.
func tells(t *testing.T, w api.Wheel) {
	t.Helper()
	for _, id := range append(upTo(0, maxTimers), noIds()...) {
		want, is := dueOf(w, id)
		if due, there := wheel.At(w, id); due != want || there != is {
			t.Errorf("At(%v, %d): %d, %t; want %d, %t", w, id, due, there, want, is)
		}
		onLevel, inSlot := 0, 0
		if is {
			onLevel, inSlot = spotAsTold(w.Now, want)
		}
		if level, slot, there := wheel.Place(w, id); level != onLevel || slot != inSlot || there != is {
			t.Errorf("Place(%v, %d): %d, %d, %t; want %d, %d, %t", w, id, level, slot, there, onLevel, inSlot, is)
		}
	}
	least, any := int64(0), len(w.Timers) > 0
	for i, x := range w.Timers {
		if i == 0 || x.At < least {
			least = x.At
		}
	}
	if due, some := wheel.Next(w); due != least || some != any {
		t.Errorf("Next(%v): %d, %t; want %d, %t", w, due, some, least, any)
	}
}

// P15.1, P15.4: At, Next and Place of all wheels.
func TestTelling(t *testing.T) {
	for _, w := range many() {
		tells(t, w)
	}
}

// P15.1: of known wheels: the first one due stands first, last, between; two are due at one time.
func TestNext(t *testing.T) {
	for _, c := range []struct {
		w    api.Wheel
		want int64
	}{
		{chapters(), 63},
		{three(), 1001},
		{full(), 8},
		{dues(0, 5), 5},
		{dues(0, 5, 5), 5},
		{dues(0, 5, 6, 7), 5},
		{dues(0, 7, 6, 5), 5},
		{dues(0, 7, 5, 6), 5},
		{dues(0, 6, 5, 5, 6), 5},
		{dues(0, maxTime), maxTime},
		{dues(maxTime-1, maxTime), maxTime},
	} {
		if due, some := wheel.Next(c.w); due != c.want || !some {
			t.Errorf("Next(%v): %d, %t; want %d", c.w, due, some, c.want)
		}
	}
	for _, w := range []api.Wheel{{}, at(5), at(maxTime)} {
		if due, some := wheel.Next(w); due != 0 || some {
			t.Errorf("Next(%v): %d, %t; want nothing", w, due, some)
		}
	}
}

// sets asks Set for that wheel.
func sets(t *testing.T, w api.Wheel, id int, due int64, want api.Wheel) {
	t.Helper()
	was := copied(w)
	if made, no := wheel.Set(w, id, due); no != api.OK || !sameAsTold(made, want) {
		t.Errorf("Set(%v, %d, %d): %v, %d; want %v", was, id, due, made, no, want)
	}
	if !sameAsTold(w, was) {
		t.Errorf("Set(.., %d, %d) made %v of %v", id, due, w, was)
	}
}

// setsNot asks Set of what it does not take.
func setsNot(t *testing.T, w api.Wheel, id int, due int64) {
	t.Helper()
	if made, no := wheel.Set(w, id, due); no != api.ErrArg || !isZero(made) {
		t.Errorf("Set(%v, %d, %d): %v, %d; want ErrArg alone", w, id, due, made, no)
	}
}

// P15.2: a timer put first, last, between others, and in place of one of its Id.
func TestSet(t *testing.T) {
	sets(t, api.Wheel{}, 0, 1, dues(0, 1))
	sets(t, at(5), 31, maxTime, at(5, timer(31, maxTime)))
	sets(t, at(maxTime-1), 7, maxTime, at(maxTime-1, timer(7, maxTime)))
	a, b, c := timer(3, 70000), timer(9, 1001), timer(20, 5000)
	for _, due := range []int64{1001, 1002, 5000, 70000, maxTime} {
		sets(t, three(), 0, due, at(1000, timer(0, due), a, b, c))
		sets(t, three(), 2, due, at(1000, timer(2, due), a, b, c))
		sets(t, three(), 3, due, at(1000, timer(3, due), b, c))
		sets(t, three(), 4, due, at(1000, a, timer(4, due), b, c))
		sets(t, three(), 9, due, at(1000, a, timer(9, due), c))
		sets(t, three(), 19, due, at(1000, a, b, timer(19, due), c))
		sets(t, three(), 20, due, at(1000, a, b, timer(20, due)))
		sets(t, three(), 21, due, at(1000, a, b, c, timer(21, due)))
		sets(t, three(), 31, due, at(1000, a, b, c, timer(31, due)))
	}
	for _, w := range many() {
		for _, due := range []int64{w.Now + 1, w.Now + 64, maxTime - 1, maxTime} {
			if due <= w.Now || due > maxTime {
				continue
			}
			for id := range maxTimers {
				sets(t, w, id, due, withTimer(w, id, due))
			}
		}
	}
}

// P15.2: an Id that is none, a time that is Now, below it, or above MaxTime.
func TestSetNot(t *testing.T) {
	for _, w := range known() {
		for _, id := range noIds() {
			setsNot(t, w, id, w.Now+1)
			setsNot(t, w, id, maxTime)
			setsNot(t, w, id, w.Now)
		}
		for _, due := range append(noTimes(), 0, w.Now-64, w.Now-1, w.Now) {
			for _, id := range []int{0, 1, 3, 9, 20, 30, 31} {
				setsNot(t, w, id, due)
			}
		}
	}
}

// cancels asks Cancel for w without the timer of that Id, if there is one.
func cancels(t *testing.T, w api.Wheel, id int) {
	t.Helper()
	was := copied(w)
	made, no := wheel.Cancel(w, id)
	if _, there := dueOf(w, id); !there {
		if no != api.ErrNone || !isZero(made) {
			t.Errorf("Cancel(%v, %d): %v, %d; want ErrNone alone", was, id, made, no)
		}
	} else if want := withoutTimer(w, id); no != api.OK || !sameAsTold(made, want) {
		t.Errorf("Cancel(%v, %d): %v, %d; want %v", was, id, made, no, want)
	}
	if !sameAsTold(w, was) {
		t.Errorf("Cancel(.., %d) made %v of %v", id, w, was)
	}
}

// P15.2: the first timer, the last one, one between, one that is not there.
func TestCancel(t *testing.T) {
	for _, w := range many() {
		for _, id := range append(upTo(0, maxTimers), noIds()...) {
			cancels(t, w, id)
		}
	}
	a, b, c := timer(3, 70000), timer(9, 1001), timer(20, 5000)
	for id, want := range map[int]api.Wheel{3: at(1000, b, c), 9: at(1000, a, c), 20: at(1000, a, b)} {
		if made, no := wheel.Cancel(three(), id); no != api.OK || !sameAsTold(made, want) {
			t.Errorf("Cancel(%v, %d): %v, %d; want %v", three(), id, made, no, want)
		}
	}
	if made, no := wheel.Cancel(dues(5, 6), 0); no != api.OK || !sameAsTold(made, at(5)) {
		t.Errorf("the last one cancelled: %v, %d; want none left, at 5", made, no)
	}
	for _, id := range []int{-1, 0, 2, 4, 8, 10, 19, 21, 31, 32} {
		if made, no := wheel.Cancel(three(), id); no != api.ErrNone || !isZero(made) {
			t.Errorf("Cancel(%v, %d): %v, %d; want ErrNone alone", three(), id, made, no)
		}
	}
}

// P15.2: what was put is taken away again, and there is what was there.
func TestSetAndCancel(t *testing.T) {
	for _, w := range many() {
		for id := range maxTimers {
			if _, there := dueOf(w, id); there || w.Now == maxTime {
				continue
			}
			made, _ := wheel.Set(w, id, w.Now+1)
			if back, no := wheel.Cancel(made, id); no != api.OK || !sameAsTold(back, w) {
				t.Errorf("%v, with %d and without it: %v, %d", w, id, back, no)
			}
		}
	}
}

// passes asks Pass, and Moves, to that time, and holds them against another telling.
func passes(t *testing.T, w api.Wheel, to int64) {
	t.Helper()
	was := copied(w)
	left, fires := passedAsTold(w, to)
	if made, fired, no := wheel.Pass(w, to); no != api.OK || !sameAsTold(made, left) || !sameTimers(fired, fires) {
		t.Errorf("Pass(%v, %d): %v, %v, %d; want %v, %v", was, to, made, fired, no, left, fires)
	}
	want := movesAsTold(w, to)
	if n, no := wheel.Moves(w, to); no != api.OK || n != want {
		t.Errorf("Moves(%v, %d): %d, %d; want %d", was, to, n, no, want)
	}
	if !sameAsTold(w, was) {
		t.Errorf("to pass to %d made %v of %v", to, w, was)
	}
}

// passesNot asks Pass, and Moves, to a time that they do not take.
func passesNot(t *testing.T, w api.Wheel, to int64) {
	t.Helper()
	if made, fired, no := wheel.Pass(w, to); no != api.ErrArg || !isZero(made) || len(fired) != 0 {
		t.Errorf("Pass(%v, %d): %v, %v, %d; want ErrArg alone", w, to, made, fired, no)
	}
	if n, no := wheel.Moves(w, to); no != api.ErrArg || n != 0 {
		t.Errorf("Moves(%v, %d): %d, %d; want ErrArg alone", w, to, n, no)
	}
}

// instants are times from w's Now on: those at which something fires, those just ahead of them and just behind, edges of digits, the bounds.
func instants(next func(int64) int64, w api.Wheel) []int64 {
	l := []int64{w.Now, w.Now + 1, maxTime - 1, maxTime}
	for _, x := range w.Timers {
		l = append(l, x.At-1, x.At, x.At+1)
	}
	for level := 1; level < levels; level++ {
		edge := (w.Now/power(level) + 1) * power(level)
		l = append(l, edge-1, edge, edge+1)
	}
	for range 8 {
		l = append(l, someTime(next, w.Now))
	}
	return slices.DeleteFunc(l, func(to int64) bool { return to < w.Now || to > maxTime })
}

// P15.3, P15.4: Pass and Moves of all wheels, to each time that counts.
func TestPass(t *testing.T) {
	next := chance()
	for _, w := range many() {
		for _, to := range instants(next, w) {
			passes(t, w, to)
		}
	}
}

// P15.3, P15.4: a time below Now, or above MaxTime.
func TestPassNot(t *testing.T) {
	for _, w := range many() {
		for _, to := range append(noTimes(), w.Now-1, w.Now-64) {
			passesNot(t, w, to)
		}
	}
	passesNot(t, chapters(), 0)
	passesNot(t, chapters(), 59)
	passesNot(t, at(maxTime), 0)
	passesNot(t, at(maxTime), maxTime-1)
	passesNot(t, at(maxTime), maxTime+1)
}

// fires asks Pass what fires till then.
func fires(t *testing.T, w api.Wheel, to int64, want ...api.Timer) {
	t.Helper()
	made, fired, no := wheel.Pass(w, to)
	if no != api.OK || made.Now != to || !sameTimers(fired, want) {
		t.Errorf("Pass(%v, %d): %v, %v, %d; want %v", w, to, made, fired, no, want)
	}
}

// P15.3: to Now itself; just when a timer is due, and ahead of it; the order is that of At, then of Id.
func TestFiring(t *testing.T) {
	fires(t, api.Wheel{}, 0)
	fires(t, at(5), maxTime)
	fires(t, at(maxTime), maxTime)
	fires(t, dues(5, 6), 5)
	fires(t, dues(5, 6), 6, timer(0, 6))
	fires(t, dues(5, 7), 6)
	fires(t, dues(5, 7), 7, timer(0, 7))
	fires(t, dues(5, 6, 7), 6, timer(0, 6))
	fires(t, dues(0, maxTime), maxTime-1)
	fires(t, dues(0, maxTime), maxTime, timer(0, maxTime))
	fires(t, three(), 1000)
	fires(t, three(), 1001, timer(9, 1001))
	fires(t, three(), 4999, timer(9, 1001))
	fires(t, three(), 5000, timer(9, 1001), timer(20, 5000))
	fires(t, three(), 69999, timer(9, 1001), timer(20, 5000))
	fires(t, three(), 70000, timer(9, 1001), timer(20, 5000), timer(3, 70000))
	fires(t, dues(0, 7, 7, 7), 7, timer(0, 7), timer(1, 7), timer(2, 7))
	fires(t, dues(0, 9, 8, 7), 9, timer(2, 7), timer(1, 8), timer(0, 9))
	fires(t, dues(0, 8, 7, 8, 7, 8), 8, timer(1, 7), timer(3, 7), timer(0, 8), timer(2, 8), timer(4, 8))
	fires(t, dues(0, 65, 1, 64, 4096, 64, 1, 128, 4096), 4096, timer(1, 1), timer(5, 1), timer(2, 64), timer(4, 64), timer(0, 65), timer(6, 128), timer(3, 4096), timer(7, 4096))
	var all []api.Timer
	for due := int64(8); due <= 708; due += 100 {
		for _, x := range full().Timers {
			if x.At == due {
				all = append(all, x)
			}
		}
	}
	fires(t, full(), 708, all...)
	fires(t, full(), 107, all[:4]...)
}

// stands asks Place for the level and the slot of a timer due at due when it is now; and Slot, which has it there alone.
func stands(t *testing.T, now, due int64, level, slot int) {
	t.Helper()
	w := at(now, timer(6, due))
	if l, s, there := wheel.Place(w, 6); l != level || s != slot || !there {
		t.Errorf("Place(%v, 6): %d, %d, %t; want %d, %d", w, l, s, there, level, slot)
	}
	if ids := wheel.Slot(w, level, slot); !slices.Equal(ids, []int{6}) {
		t.Errorf("Slot(%v, %d, %d): %v; want 6", w, level, slot, ids)
	}
}

// P15.4: timers at the edges of a digit, on the level 0, on the highest one.
func TestPlace(t *testing.T) {
	stands(t, 0, 1, 0, 1)
	stands(t, 0, 63, 0, 63)
	stands(t, 62, 63, 0, 63)
	stands(t, 0, 64, 1, 1)
	stands(t, 63, 64, 1, 1)
	stands(t, 63, 65, 1, 1)
	stands(t, 64, 65, 0, 1)
	stands(t, 64, 127, 0, 63)
	stands(t, 65, 128, 1, 2)
	stands(t, 0, 4095, 1, 63)
	stands(t, 4031, 4095, 1, 63)
	stands(t, 4032, 4095, 0, 63)
	stands(t, 0, 4096, 2, 1)
	stands(t, 4095, 4096, 2, 1)
	stands(t, 4096, 4097, 0, 1)
	stands(t, 4096, 4160, 1, 1)
	stands(t, 4096, 8191, 1, 63)
	stands(t, 4096, 8192, 2, 2)
	stands(t, 4000, 4096+64+1, 2, 1)
	stands(t, 5000, 5000+4096, 2, 2)
	stands(t, 0, 262143, 2, 63)
	stands(t, 0, 262144, 3, 1)
	stands(t, 1<<48-1, 1<<48, 8, 1)
	stands(t, 0, 1<<48-1, 7, 63)
	stands(t, 0, 1<<49, 8, 2)
	stands(t, 0, 3<<48+5, 8, 3)
	stands(t, 0, maxTime, 8, 4)
	stands(t, maxTime-1, maxTime, 8, 4)
	stands(t, 3<<48, maxTime-1, 7, 63)
	stands(t, maxTime-2, maxTime-1, 0, 63)
	for level := range levels {
		p := power(level)
		for _, digit := range []int64{1, 2, 4, 33, 62, 63} {
			if digit*p > maxTime {
				continue
			}
			stands(t, 0, digit*p, level, int(digit))
			stands(t, digit*p-1, digit*p, level, int(digit))
			if digit > 1 {
				stands(t, p, digit*p, level, int(digit))
				stands(t, 2*p-1, digit*p, level, int(digit))
			}
			if p > 1 && (digit+1)*p <= maxTime {
				stands(t, 0, (digit+1)*p-1, level, int(digit))
			}
		}
	}
}

// slotsOf are all slots of w in which something stands, and what, as another telling has it.
func slotsOf(w api.Wheel) map[[2]int][]int {
	m := map[[2]int][]int{}
	for _, x := range w.Timers {
		level, slot := spotAsTold(w.Now, x.At)
		m[[2]int{level, slot}] = append(m[[2]int{level, slot}], x.Id)
	}
	return m
}

// P15.4, P15.5: each slot of each level, and those beyond; each timer stands in one slot, with those that have that place.
func TestSlot(t *testing.T) {
	several := 0
	for i, w := range many() {
		if i > 150 {
			break
		}
		want, seen := slotsOf(w), map[int]int{}
		for level := -2; level <= levels+1; level++ {
			for slot := -2; slot <= slots+1; slot++ {
				ids := wheel.Slot(w, level, slot)
				if !slices.Equal(ids, want[[2]int{level, slot}]) {
					t.Errorf("Slot(%v, %d, %d): %v; want %v", w, level, slot, ids, want[[2]int{level, slot}])
				}
				if len(ids) > 1 {
					several++
				}
				for _, id := range ids {
					seen[id]++
					if l, s, there := wheel.Place(w, id); l != level || s != slot || !there {
						t.Errorf("Place(%v, %d): %d, %d, %t; it stands in %d, %d", w, id, l, s, there, level, slot)
					}
				}
			}
		}
		for _, x := range w.Timers {
			if seen[x.Id] != 1 {
				t.Errorf("%v: %d stands in %d slots; want one", w, x.Id, seen[x.Id])
			}
		}
		if len(seen) != len(w.Timers) {
			t.Errorf("%v: %d stand in slots", w, len(seen))
		}
	}
	if several < 50 {
		t.Errorf("%d slots had several: too few to tell", several)
	}
}

// P15.4: a level, a slot far beyond the last, or below 0.
func TestSlotBeyond(t *testing.T) {
	beyond := []int{-1, -2, -63, -64, math.MinInt, 64, 65, 128, 1 << 32, 1<<32 + 1, math.MaxInt}
	for _, w := range known() {
		for _, n := range beyond {
			for m := range slots {
				if ids := wheel.Slot(w, n, m); len(ids) != 0 {
					t.Errorf("Slot(%v, %d, %d): %v; want nothing", w, n, m, ids)
				}
				if ids := wheel.Slot(w, m, n); len(ids) != 0 {
					t.Errorf("Slot(%v, %d, %d): %v; want nothing", w, m, n, ids)
				}
			}
		}
		for m := range slots {
			if ids := wheel.Slot(w, levels, m); len(ids) != 0 {
				t.Errorf("Slot(%v, %d, %d): %v; want nothing", w, levels, m, ids)
			}
		}
	}
}

// P15.4: known slots: with none, one and several timers, whatever their order of At.
func TestKnownSlots(t *testing.T) {
	w := dues(60, 63, 70, 64, 4096, 127, 62, 8191, 63, 128)
	for _, c := range []struct {
		level, slot int
		want        []int
	}{
		{0, 62, []int{5}}, {0, 63, []int{0, 7}}, {0, 61, nil}, {0, 0, nil}, {0, 6, nil},
		{1, 1, []int{1, 2, 4}}, {1, 2, []int{8}}, {1, 0, nil}, {1, 63, nil},
		{2, 1, []int{3, 6}}, {2, 0, nil}, {3, 0, nil}, {8, 0, nil}, {8, 4, nil},
	} {
		if ids := wheel.Slot(w, c.level, c.slot); !slices.Equal(ids, c.want) {
			t.Errorf("Slot(%v, %d, %d): %v; want %v", w, c.level, c.slot, ids, c.want)
		}
	}
}

// P15.4: none, one and several levels down; of several timers together; what fires till then does not count.
func TestMoves(t *testing.T) {
	for _, c := range []struct {
		w    api.Wheel
		to   int64
		want int
	}{
		{api.Wheel{}, maxTime, 0},
		{chapters(), 60, 0},
		{chapters(), 63, 0},
		{chapters(), 64, 0},
		{chapters(), 4000, 0},
		{chapters(), 4095, 0},
		{chapters(), 4096, 0},
		{dues(60, 65), 63, 0},
		{dues(60, 65), 64, 1},
		{dues(60, 65), 65, 0},
		{dues(60, 65, 66, 127, 128), 64, 3},
		{dues(60, 65, 66, 127, 128), 65, 2},
		{dues(60, 65, 66, 127, 129), 128, 1},
		{dues(0, 4096), 4095, 0},
		{dues(0, 4097), 4096, 2},
		{dues(0, 4160), 4096, 1},
		{dues(0, 4161), 4096, 1},
		{dues(0, 4161), 4160, 2},
		{dues(0, 4097, 4161), 4096, 3},
		{dues(0, maxTime), maxTime - 1, 0},
		{dues(0, maxTime-1), maxTime - 2, 8},
		{dues(0, maxTime-1), 3 << 48, 1},
		{dues(0, 1<<48+1), 1 << 48, 8},
		{dues(0, 1<<48+64), 1 << 48, 7},
		{dues(1<<48, 1<<48+64), 1<<48 + 63, 0},
	} {
		if n, no := wheel.Moves(c.w, c.to); no != api.OK || n != c.want {
			t.Errorf("Moves(%v, %d): %d, %d; want %d", c.w, c.to, n, no, c.want)
		}
	}
}

// levelOf is the level that Place answers.
func levelOf(t *testing.T, w api.Wheel, id int) int {
	t.Helper()
	level, _, there := wheel.Place(w, id)
	if !there {
		t.Errorf("Place(%v, %d): none; want one", w, id)
	}
	return level
}

// byWay passes w to to by way of each of these times.
func byWay(t *testing.T, w api.Wheel, to int64, ways ...int64) (api.Wheel, []api.Timer, int) {
	t.Helper()
	var all []api.Timer
	moves := 0
	for _, way := range append(ways, to) {
		n, no := wheel.Moves(w, way)
		made, fired, also := wheel.Pass(w, way)
		if no != api.OK || also != api.OK {
			t.Fatalf("to pass %v to %d: %d, %d", w, way, no, also)
		}
		w, all, moves = made, append(all, fired...), moves+n
	}
	return w, all, moves
}

// P15.5: to pass to a time by way of others is to pass to it at once: the same fire, in the same order; and of those that do not fire as many moves are made.
func TestByWay(t *testing.T) {
	next := chance()
	moved := 0
	for _, w := range many() {
		for range 6 {
			l := instants(next, w)
			var ways []int64
			for range 1 + next(4) {
				ways = append(ways, l[next(int64(len(l)))])
			}
			slices.Sort(ways)
			to := ways[len(ways)-1]
			ways = ways[:len(ways)-1]
			once, fired, n := byWay(t, w, to)
			made, also, _ := byWay(t, w, to, ways...)
			if !sameAsTold(made, once) || !sameTimers(also, fired) {
				t.Errorf("%v to %d by way of %v: %v, %v; at once %v, %v", w, to, ways, made, also, once, fired)
			}
			stay := api.Wheel{Now: w.Now, Timers: once.Timers}
			if _, _, m := byWay(t, stay, to, ways...); m != n {
				t.Errorf("%v to %d by way of %v: %d moves; at once %d", stay, to, ways, m, n)
			}
			moved += n
		}
	}
	if moved < 1000 {
		t.Errorf("%d moves: too few to tell", moved)
	}
}

// P15.5: a timer never moves up; each is moved at most Levels - 1 times; so many are made in all as Moves says.
func TestMovesDown(t *testing.T) {
	next := chance()
	for _, w := range many() {
		for _, to := range instants(next, w) {
			passed, _, _ := wheel.Pass(w, to)
			sum := 0
			for _, x := range passed.Timers {
				down := levelOf(t, w, x.Id) - levelOf(t, passed, x.Id)
				if down < 0 || down > levels-1 {
					t.Errorf("%v: %d moves down %d levels till %d", w, x.Id, down, to)
				}
				sum += down
			}
			if n, no := wheel.Moves(w, to); no != api.OK || n != sum || n > (levels-1)*len(passed.Timers) {
				t.Errorf("Moves(%v, %d): %d, %d; they move %d", w, to, n, no, sum)
			}
		}
	}
}

// P15.4, P15.5: nanosecond by nanosecond: timers move down just when Now's digits reach their slots, one level or more.
func TestEachNanosecond(t *testing.T) {
	w := dues(4000, 4095, 4097, 4160, 4161, 4300, 4096, 4033)
	want := map[int64]int{
		4032: 2, // those at 4033 and 4095, one level each
		4096: 5, // 4097 two, 4160, 4161 and 4300 one each
		4160: 1, // 4161
		4288: 1, // 4300
	}
	for w.Now < 4301 {
		n, no := wheel.Moves(w, w.Now+1)
		if no != api.OK || n != want[w.Now+1] {
			t.Errorf("Moves(%v, %d): %d, %d; want %d", w, w.Now+1, n, no, want[w.Now+1])
		}
		passes(t, w, w.Now+1)
		w, _, _ = wheel.Pass(w, w.Now+1)
	}
	if len(w.Timers) != 0 {
		t.Errorf("left are %v", w)
	}
}

// P15.5: Next is when the first one fires; ahead of it none does.
func TestNextFires(t *testing.T) {
	for _, w := range many() {
		for {
			due, some := wheel.Next(w)
			if !some {
				fires(t, w, maxTime)
				break
			}
			fires(t, w, due-1)
			made, fired, no := wheel.Pass(w, due)
			if no != api.OK || len(fired) == 0 || fired[0].At != due || fired[len(fired)-1].At != due {
				t.Errorf("Pass(%v, %d): %v, %v, %d; want what is due then", w, due, made, fired, no)
				break
			}
			w = made
		}
	}
}

// P15.5: whatever is done, the wheel may be.
func TestWhatIsDone(t *testing.T) {
	next := chance()
	for range 60 {
		w := api.Wheel{}
		for range 200 {
			was, id := copied(w), int(next(34))-1
			switch next(4) {
			case 0, 1:
				if made, no := wheel.Set(w, id, someTime(next, w.Now)); no == api.OK {
					w = made
				}
			case 2:
				if made, no := wheel.Cancel(w, id); no == api.OK {
					w = made
				}
			case 3:
				if made, _, no := wheel.Pass(w, w.Now+next(power(int(next(levels))))); no == api.OK {
					w = made
				}
			}
			if !mayBe(w) || wheel.Check(w) != api.OK {
				t.Fatalf("of %v came %v", was, w)
			}
			tells(t, w)
		}
	}
}

// asked are all calls of w, done one behind the other, and what they answer.
func asked(w api.Wheel, id int, due, to int64) (set, cancelled, passed api.Wheel, fired []api.Timer, ids []int) {
	set, _ = wheel.Set(w, id, due)
	cancelled, _ = wheel.Cancel(w, id)
	passed, fired, _ = wheel.Pass(w, to)
	level, slot, _ := wheel.Place(w, id)
	ids = wheel.Slot(w, level, slot)
	wheel.Check(w)
	wheel.Same(w, w)
	wheel.At(w, id)
	wheel.Next(w)
	wheel.Moves(w, to)
	return set, cancelled, passed, fired, ids
}

// P15.2, R3: no call changes the wheel that it is handed, nor what stands behind the end of its timers; and that does not count.
func TestNothingIsChanged(t *testing.T) {
	next := chance()
	more := []api.Timer{timer(31, maxTime), timer(0, 1), timer(-4, -5)}
	for _, w := range append(many(), noWheels()...) {
		whole := append(slices.Clip(w.Timers), more...)
		given := api.Wheel{Now: w.Now, Timers: slices.Clone(whole)[:len(w.Timers)]}
		id, due, to := int(next(34))-1, someTime(next, min(max(w.Now, 0), maxTime)), someTime(next, min(max(w.Now, 0), maxTime))
		if len(w.Timers) > 0 && next(2) == 0 {
			id, to = w.Timers[0].Id, w.Timers[0].At
		}
		set, cancelled, passed, fired, ids := asked(given, id, due, to)
		wantSet, wantCancelled, wantPassed, wantFired, wantIds := asked(copied(w), id, due, to)
		if !sameAsTold(set, wantSet) || !sameAsTold(cancelled, wantCancelled) || !sameAsTold(passed, wantPassed) || !sameTimers(fired, wantFired) || !slices.Equal(ids, wantIds) {
			t.Errorf("%v: what is behind the end counts: %v, %v, %v, %v, %v; want %v, %v, %v, %v, %v", w, set, cancelled, passed, fired, ids, wantSet, wantCancelled, wantPassed, wantFired, wantIds)
		}
		if given.Now != w.Now || !sameTimers(given.Timers[:len(whole)], whole) {
			t.Errorf("of %v came %v, and behind it %v", w, given, given.Timers[len(w.Timers):len(whole)])
		}
	}
}

// spoil makes all that the list has room for another timer.
func spoil(l []api.Timer) {
	l = l[:cap(l)]
	for i := range l {
		l[i] = timer(-7, -7)
	}
}

// spoilIds makes all that the list has room for another number.
func spoilIds(l []int) {
	l = l[:cap(l)]
	for i := range l {
		l[i] = -7
	}
}

// P15.2, R3: what is answered is new memory: no part of what was handed in, nor of another answer.
func TestAnswersAreNewMemory(t *testing.T) {
	next := chance()
	for _, w := range many() {
		for _, to := range append(instants(next, w)[:1], instants(next, w)...) {
			given := copied(w)
			passed, fired, _ := wheel.Pass(given, to)
			left, fires := passedAsTold(w, to)
			spoil(fired)
			if !sameAsTold(passed, left) || !sameAsTold(given, w) {
				t.Errorf("Pass(%v, %d): what fires shares memory: %v, %v", w, to, passed, given)
			}
			passed, fired, _ = wheel.Pass(given, to)
			spoil(passed.Timers)
			if !sameTimers(fired, fires) || !sameAsTold(given, w) {
				t.Errorf("Pass(%v, %d): what is left shares memory: %v, %v", w, to, fired, given)
			}
		}
		for id := range maxTimers {
			given, due := copied(w), someTime(next, w.Now)
			if was, there := dueOf(w, id); there && next(2) == 0 {
				due = was
			}
			set, _ := wheel.Set(given, id, due)
			spoil(set.Timers)
			cancelled, _ := wheel.Cancel(given, id)
			spoil(cancelled.Timers)
			level, slot, _ := wheel.Place(given, id)
			spoilIds(wheel.Slot(given, level, slot))
			if !sameAsTold(given, w) {
				t.Errorf("%v: what is answered of %d shares memory: %v", w, id, given)
			}
		}
	}
}

// R3: what is handed in is not kept: changed later on, it changes no answer.
func TestNothingIsKept(t *testing.T) {
	next := chance()
	for _, w := range many() {
		given := copied(w)
		id, due, to := int(next(maxTimers)), someTime(next, w.Now), someTime(next, w.Now)
		if len(w.Timers) > 0 {
			x := w.Timers[next(int64(len(w.Timers)))]
			id, to = x.Id, x.At
		}
		set, cancelled, passed, fired, ids := asked(given, id, due, to)
		spoil(given.Timers)
		wantSet, wantCancelled, wantPassed, wantFired, wantIds := asked(w, id, due, to)
		if !sameAsTold(set, wantSet) || !sameAsTold(cancelled, wantCancelled) || !sameAsTold(passed, wantPassed) || !sameTimers(fired, wantFired) || !slices.Equal(ids, wantIds) {
			t.Errorf("of %v is left %v, %v, %v, %v, %v", w, set, cancelled, passed, fired, ids)
		}
	}
}

// R1: each call ends, whatever it is handed.
func TestWhateverIsHandedIn(t *testing.T) {
	numbers := []int64{math.MinInt64, -maxTime, -1, 0, 1, 63, 64, maxTime - 1, maxTime, maxTime + 1, math.MaxInt64}
	for _, now := range numbers {
		for _, due := range numbers {
			for _, n := range numbers {
				w := at(now, timer(0, due), timer(int(n), due))
				asked(w, int(n), due, n)
				asked(at(now), int(n), due, n)
				wheel.Slot(w, int(n), int(due))
				checks(t, w, mayBe(w))
			}
		}
	}
}

// The chapter's examples.
func TestExamples(t *testing.T) {
	w := at(60)
	for id, due := range []int64{63, 64, 4096} {
		made, no := wheel.Set(w, id, due)
		if no != api.OK {
			t.Fatalf("Set(%v, %d, %d): %d", w, id, due, no)
		}
		w = made
	}
	same(t, w, chapters(), true)
	for id, want := range [][2]int{{0, 63}, {1, 1}, {2, 1}} {
		if level, slot, there := wheel.Place(w, id); level != want[0] || slot != want[1] || !there {
			t.Errorf("Place(%v, %d): %d, %d, %t; want %v", w, id, level, slot, there, want)
		}
	}
	passed, fired, no := wheel.Pass(w, 64)
	if no != api.OK || !sameTimers(fired, dues(60, 63, 64).Timers) || !sameAsTold(passed, at(64, timer(2, 4096))) {
		t.Errorf("Pass(%v, 64): %v, %v, %d", w, passed, fired, no)
	}
	if level, slot, there := wheel.Place(passed, 2); level != 2 || slot != 1 || !there {
		t.Errorf("Place(%v, 2): %d, %d, %t; want 2, 1", passed, level, slot, there)
	}
	if n, no := wheel.Moves(w, 4000); no != api.OK || n != 0 {
		t.Errorf("Moves(%v, 4000): %d, %d; want 0", w, n, no)
	}
	passed, _, _ = wheel.Pass(w, 4000)
	if level, slot, there := wheel.Place(passed, 2); level != 2 || slot != 1 || !there {
		t.Errorf("Place(%v, 2): %d, %d, %t; want 2, 1", passed, level, slot, there)
	}
	if due, some := wheel.Next(w); due != 63 || !some {
		t.Errorf("Next(%v): %d, %t; want 63", w, due, some)
	}
	setsNot(t, w, 3, 60)
	if made, no := wheel.Cancel(w, 7); no != api.ErrNone || !isZero(made) {
		t.Errorf("Cancel(%v, 7): %v, %d; want ErrNone alone", w, made, no)
	}
}
