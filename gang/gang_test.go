package gang_test

import (
	"math"
	"slices"
	"testing"

	"mainsheet/api"
	"mainsheet/gang"
)

// The limits, as the document says them, and the set of all pCPUs.
const (
	maxCpus           = 8
	maxVcpus          = 16
	maxEach           = 8
	maxGangs          = 8
	all      api.Cpus = 255
)

// one is the gang of that Id with these members.
func one(id int, members ...int) api.Gang {
	return api.Gang{Id: id, Members: members}
}

// gangs are those of these rows.
func gangs(rows ...api.Gang) api.Gangs {
	return api.Gangs{Rows: rows}
}

// row is that of these numbers.
func row(l ...int) []int {
	return l
}

// rows are these.
func rows(l ...[]int) [][]int {
	return l
}

// upTo are the numbers from that one to that one.
func upTo(from, to int) []int {
	var l []int
	for n := from; n <= to; n++ {
		l = append(l, n)
	}
	return l
}

// copied is g in memory of its own.
func copied(g api.Gangs) api.Gangs {
	c := api.Gangs{Rows: slices.Clone(g.Rows)}
	for i := range c.Rows {
		c.Rows[i].Members = slices.Clone(c.Rows[i].Members)
	}
	return c
}

// remade is a copy of g, whose row at that place is made another one.
func remade(g api.Gangs, at int, change func(row *api.Gang)) api.Gangs {
	c := copied(g)
	change(&c.Rows[at])
	return c
}

// sameAsTold tells whether both are the same, held row by row.
func sameAsTold(a, b api.Gangs) bool {
	if len(a.Rows) != len(b.Rows) {
		return false
	}
	for i := range a.Rows {
		if a.Rows[i].Id != b.Rows[i].Id || len(a.Rows[i].Members) != len(b.Rows[i].Members) {
			return false
		}
		for j, member := range a.Rows[i].Members {
			if b.Rows[i].Members[j] != member {
				return false
			}
		}
	}
	return true
}

// membersMayBe tells whether they may be a gang's, as the chapter says it.
func membersMayBe(members []int) bool {
	may := 2 <= len(members) && len(members) <= maxEach
	for i, member := range members {
		may = may && 1 <= member && member <= maxVcpus && (i == 0 || members[i-1] < member)
	}
	return may
}

// mayBe tells whether the gangs may be, as the chapter says it.
func mayBe(g api.Gangs) bool {
	times := map[int]int{}
	for i, r := range g.Rows {
		if r.Id < 1 || r.Id > maxGangs || i > 0 && g.Rows[i-1].Id >= r.Id || !membersMayBe(r.Members) {
			return false
		}
		for _, member := range r.Members {
			times[member]++
		}
	}
	for _, n := range times {
		if n > 1 {
			return false
		}
	}
	return true
}

// idOf is the Id of the gang of g that the vCPU is in; 0, if there is none.
func idOf(g api.Gangs, vcpu int) int {
	for _, r := range g.Rows {
		for _, member := range r.Members {
			if member == vcpu {
				return r.Id
			}
		}
	}
	return 0
}

// without is g without the row of that Id.
func without(g api.Gangs, id int) api.Gangs {
	var c api.Gangs
	for _, r := range copied(g).Rows {
		if r.Id != id {
			c.Rows = append(c.Rows, r)
		}
	}
	return c
}

// three are gangs that may be, with room for others between them.
func three() api.Gangs {
	return gangs(one(2, 3, 7), one(3, 1, 4, 16), one(6, 2, 9, 10, 15))
}

// full are as many as there may be: they have all vCPUs.
func full() api.Gangs {
	var g api.Gangs
	for id := 1; id <= maxGangs; id++ {
		g.Rows = append(g.Rows, one(id, id, id+8))
	}
	return g
}

// chance tells numbers below n by a short rule, the same whenever it is asked anew.
func chance() func(n int) int {
	x := uint64(14)
	return func(n int) int {
		x = x*6364136223846793005 + 1442695040888963407
		return int(x >> 33 % uint64(n))
	}
}

// shuffled are the numbers below n, in some order.
func shuffled(next func(int) int, n int) []int {
	l := make([]int, n)
	for i := range l {
		l[i] = i
	}
	for i := range l {
		other := next(i + 1)
		l[i], l[other] = l[other], l[i]
	}
	return l
}

// someGangs are such as may be.
func someGangs(next func(int) int) api.Gangs {
	ids, left := shuffled(next, maxGangs)[:next(maxGangs+1)], shuffled(next, maxVcpus)
	slices.Sort(ids)
	most := 2 + next(maxEach-1)
	var g api.Gangs
	for _, id := range ids {
		n := min(2+next(most-1), len(left))
		if n < 2 {
			break
		}
		members := slices.Clone(left[:n])
		for i := range members {
			members[i]++
		}
		slices.Sort(members)
		g.Rows, left = append(g.Rows, one(id+1, members...)), left[n:]
	}
	return g
}

// many are gangs that may be: none, one, some, as many as there may be.
func many() []api.Gangs {
	l := []api.Gangs{{}, gangs(), gangs(one(1, 1, 2)), gangs(one(8, 15, 16)), gangs(one(4, upTo(1, 8)...)), gangs(one(1, upTo(9, 16)...), one(8, upTo(1, 8)...)), three(), full()}
	next := chance()
	for range 3000 {
		l = append(l, someGangs(next))
	}
	return l
}

// noIds are numbers that no gang has, and no vCPU.
func noIds() []int {
	return []int{0, -1, -2, -8, -16, math.MinInt, 17, 18, 32, 64, 256, 257, 1 << 32, 1<<32 + 1, math.MaxInt}
}

// noMembers are such as may not be a gang's.
func noMembers() [][]int {
	l := [][]int{
		nil, row(), row(5), row(1), row(16), upTo(1, 9), upTo(8, 16), upTo(1, 16), upTo(0, 16), upTo(-1, 1),
		row(2, 1), row(5, 5), row(16, 15), row(1, 1), row(16, 16), row(11, 12, 12), row(11, 11, 12), row(11, 14, 13), row(13, 11, 14), row(5, 11, 12, 13, 14, 13),
		row(0, 0), row(0, 1), row(17, 18), make([]int, 1<<16), upTo(1, 1<<16),
	}
	for _, id := range noIds() {
		l = append(l, row(id), row(id, 5), row(5, id), row(id, 5, 11), row(5, id, 11), row(5, 11, id), row(id, id))
	}
	return l
}

// noGangs are such as may not be.
func noGangs() []api.Gangs {
	l := []api.Gangs{
		gangs(api.Gang{}),
		gangs(one(1)),
		gangs(one(0, 1, 2)),
		gangs(one(9, 1, 2)),
		gangs(one(2, 1, 2), one(1, 3, 4)),
		gangs(one(1, 1, 2), one(1, 3, 4)),
		gangs(one(1, 1, 2), one(1, 1, 2)),
		gangs(one(1, 1, 2), one(2, 2, 3)),
		gangs(one(1, 1, 2), one(2, 1, 3)),
		gangs(one(1, 3, 9), one(2, 4, 5), one(7, 1, 2, 9)),
		gangs(one(1, upTo(1, 8)...), one(2, upTo(8, 15)...)),
		{Rows: make([]api.Gang, 1<<16)},
		{Rows: append(full().Rows, one(9, 1, 2))},
		{Rows: append(full().Rows, one(8, 1, 2))},
		{Rows: append(full().Rows, api.Gang{})},
	}
	for i := range 3 {
		for _, id := range append(noIds(), 9, 10) {
			l = append(l, remade(three(), i, func(r *api.Gang) { r.Id = id }))
		}
		for _, members := range noMembers() {
			l = append(l, remade(three(), i, func(r *api.Gang) { r.Members = members }))
		}
		for j := range 3 {
			if i != j {
				l = append(l, remade(three(), i, func(r *api.Gang) { r.Id = three().Rows[j].Id }))
				l = append(l, remade(three(), i, func(r *api.Gang) { r.Members = three().Rows[j].Members }))
				shared := slices.Sorted(slices.Values(row(5, 6, three().Rows[j].Members[1])))
				l = append(l, remade(three(), i, func(r *api.Gang) { r.Members = shared }))
			}
		}
	}
	return l
}

// refused asks all calls of gangs that may not be.
func refused(t *testing.T, g api.Gangs) {
	t.Helper()
	if no := gang.Check(g); no != api.ErrGang {
		t.Errorf("Check(%v): %d; want ErrGang", g, no)
	}
	for n := range maxVcpus + 2 {
		if id, in := gang.Of(g, n); id != 0 || in {
			t.Errorf("Of(%v, %d): %d, %t; want nothing", g, n, id, in)
		}
		if l := gang.Members(g, n); len(l) != 0 {
			t.Errorf("Members(%v, %d): %v; want nothing", g, n, l)
		}
		if made, no := gang.Part(g, n); no != api.ErrGang || made.Rows != nil {
			t.Errorf("Part(%v, %d): %v, %d; want ErrGang alone", g, n, made, no)
		}
		if made, no := gang.Leave(g, n); no != api.ErrGang || made.Rows != nil {
			t.Errorf("Leave(%v, %d): %v, %d; want ErrGang alone", g, n, made, no)
		}
	}
	if l := gang.Rows(g); len(l) != 0 {
		t.Errorf("Rows(%v): %v; want nothing", g, l)
	}
	for _, members := range rows(nil, row(5), row(5, 6), row(1, 3), row(13, 14), row(6, 5), upTo(1, 9)) {
		if made, id, no := gang.Form(g, members); no != api.ErrGang || made.Rows != nil || id != 0 {
			t.Errorf("Form(%v, %v): %v, %d, %d; want ErrGang alone", g, members, made, id, no)
		}
	}
}

// checks asks Check whether gangs may be, and the other calls of those that may not.
func checks(t *testing.T, g api.Gangs, may bool) {
	t.Helper()
	if !may {
		refused(t, g)
		return
	}
	if no := gang.Check(g); no != api.OK {
		t.Errorf("Check(%v): %d; want OK", g, no)
	}
}

// P14.1: none, one, some, as many as there may be; and such as may not be.
func TestCheck(t *testing.T) {
	checks(t, api.Gangs{}, true)
	checks(t, gangs(), true)
	checks(t, gangs(one(1, 1, 3)), true)
	checks(t, three(), true)
	checks(t, full(), true)
	for _, g := range many() {
		checks(t, g, true)
	}
	for _, g := range noGangs() {
		checks(t, g, false)
	}
}

// P14.1: each Id, and those beyond, of one gang and of several; Ids that do not rise.
func TestCheckOfIds(t *testing.T) {
	for id := -3; id <= maxGangs+3; id++ {
		checks(t, gangs(one(id, 1, 2)), 1 <= id && id <= maxGangs)
		for i, between := range rows(row(0, 3), row(2, 6), row(3, 9)) {
			changed := remade(three(), i, func(r *api.Gang) { r.Id = id })
			checks(t, changed, between[0] < id && id < between[1])
		}
	}
	for _, id := range append(noIds(), 9) {
		checks(t, gangs(one(id, 1, 2)), false)
		checks(t, gangs(one(1, 3, 4), one(id, 1, 2)), false)
	}
	for i := range maxGangs {
		for j := range maxGangs {
			checks(t, remade(full(), i, func(r *api.Gang) { r.Id = j + 1 }), i == j)
			swapped := full()
			swapped.Rows[i], swapped.Rows[j] = swapped.Rows[j], swapped.Rows[i]
			checks(t, swapped, i == j)
		}
	}
}

// P14.1: one member, two, MaxEach, and one more; from the least vCPU on, and up to the greatest.
func TestCheckOfHowManyMembers(t *testing.T) {
	for n := range maxVcpus + 3 {
		may := 2 <= n && n <= maxEach
		checks(t, gangs(one(1, upTo(1, n)...)), may)
		checks(t, gangs(one(8, upTo(maxVcpus-n+1, maxVcpus)...)), may)
		checks(t, gangs(one(1, 1, 2), one(2, upTo(3, 2+n)...)), may)
	}
}

// P14.1: members that rise, stand still, and fall; those at the bounds, and beyond.
func TestCheckOfMembers(t *testing.T) {
	for _, members := range noMembers() {
		checks(t, gangs(one(1, members...)), false)
		checks(t, gangs(one(1, 13, 14), one(2, members...)), false)
	}
	for a := -2; a <= maxVcpus+2; a++ {
		for b := -2; b <= maxVcpus+2; b++ {
			checks(t, gangs(one(5, a, b)), 1 <= a && a < b && b <= maxVcpus)
			checks(t, gangs(one(5, a, 9, b)), 1 <= a && a < 9 && 9 < b && b <= maxVcpus)
		}
	}
	for i := range maxEach {
		for n := -1; n <= maxVcpus+1; n++ {
			members := row(2, 4, 6, 8, 10, 12, 14, 16)
			members[i] = n
			checks(t, gangs(one(5, members...)), 2*i < n && n < 2*i+4 && n <= maxVcpus)
		}
	}
}

// P14.1: a vCPU in two gangs: each one of each two gangs, at all places, whether they are neighbours or not.
func TestCheckOfOneInTwo(t *testing.T) {
	for vcpu := 1; vcpu <= maxVcpus; vcpu++ {
		for other := 1; other <= maxVcpus; other++ {
			pair := row(min(vcpu, other), max(vcpu, other))
			free := slices.DeleteFunc(upTo(1, maxVcpus), func(n int) bool { return n == vcpu || n == other })
			checks(t, gangs(one(1, pair...), one(2, free[:8]...)), vcpu != other)
			checks(t, gangs(one(1, free[:8]...), one(7, free[8:13]...), one(8, pair...)), vcpu != other)
			taken := slices.Sorted(slices.Values(append(free[:7:7], vcpu)))
			checks(t, gangs(one(1, pair...), one(2, taken...)), false)
			checks(t, gangs(one(1, taken...), one(2, pair...)), false)
			checks(t, gangs(one(1, taken...), one(2, free[8:11]...), one(3, pair...)), false)
		}
	}
}

// another makes a thing of the gangs another one; they may be then, or not.
func another(next func(int) int, g api.Gangs) api.Gangs {
	g = copied(g)
	r := &g.Rows[next(len(g.Rows))]
	member := 0
	if len(r.Members) > 0 {
		member = next(len(r.Members))
	}
	switch next(6) {
	case 0:
		r.Id = next(12) - 1
	case 1:
		r.Id += next(3) - 1
	case 2:
		if len(r.Members) > 0 {
			r.Members[member] = next(20) - 1
		}
	case 3:
		if len(r.Members) > 0 {
			r.Members[member] += next(3) - 1
		}
	case 4:
		r.Members = append(r.Members, maxVcpus-next(3))
	case 5:
		if len(r.Members) > 0 {
			r.Members = slices.Delete(r.Members, member, member+1)
		}
	}
	return g
}

// P14.1: gangs of which a thing or two was made another one, held against another telling.
func TestCheckOfWhatWasMadeAnother(t *testing.T) {
	next := chance()
	seen := map[bool]int{}
	for _, g := range many() {
		if len(g.Rows) == 0 {
			continue
		}
		for range 4 {
			c := another(next, g)
			if next(2) == 0 {
				c = another(next, c)
			}
			may := mayBe(c)
			seen[may]++
			checks(t, c, may)
		}
	}
	if seen[true] < 1000 || seen[false] < 1000 {
		t.Errorf("%d might be, %d might not: too few to tell", seen[true], seen[false])
	}
}

// tells asks Of, Members and Rows what another telling says.
func tells(t *testing.T, g api.Gangs) {
	t.Helper()
	for _, vcpu := range append(upTo(1, maxVcpus), noIds()...) {
		want := idOf(g, vcpu)
		if id, in := gang.Of(g, vcpu); id != want || in != (want != 0) {
			t.Errorf("Of(%v, %d): %d, %t; want %d", g, vcpu, id, in, want)
		}
	}
	for _, id := range append(upTo(1, maxGangs+2), noIds()...) {
		var want []int
		for _, r := range g.Rows {
			if r.Id == id {
				want = r.Members
			}
		}
		if l := gang.Members(g, id); !slices.Equal(l, want) {
			t.Errorf("Members(%v, %d): %v; want %v", g, id, l, want)
		}
	}
	l := gang.Rows(g)
	if len(l) != len(g.Rows) {
		t.Errorf("Rows(%v): %v", g, l)
		return
	}
	for i, r := range g.Rows {
		if !slices.Equal(l[i], r.Members) {
			t.Errorf("Rows(%v): %v; want %v at %d", g, l, r.Members, i)
		}
	}
}

// P14.1: of known gangs, of one in a gang, of one in none, of an Id that none has.
func TestTelling(t *testing.T) {
	g := three()
	for vcpu, want := range []int{0, 3, 6, 2, 3, 0, 0, 2, 0, 6, 6, 0, 0, 0, 0, 6, 3, 0} {
		if id, in := gang.Of(g, vcpu); id != want || in != (want > 0) {
			t.Errorf("Of(%v, %d): %d, %t; want %d", g, vcpu, id, in, want)
		}
	}
	for id, want := range rows(nil, nil, row(3, 7), row(1, 4, 16), nil, nil, row(2, 9, 10, 15), nil, nil, nil) {
		if l := gang.Members(g, id); !slices.Equal(l, want) {
			t.Errorf("Members(%v, %d): %v; want %v", g, id, l, want)
		}
	}
	if l := gang.Rows(g); !slices.EqualFunc(l, rows(row(3, 7), row(1, 4, 16), row(2, 9, 10, 15)), slices.Equal) {
		t.Errorf("Rows(%v): %v", g, l)
	}
	if l := gang.Rows(api.Gangs{}); len(l) != 0 {
		t.Errorf("Rows of none: %v", l)
	}
	for _, g := range many() {
		tells(t, g)
	}
}

// same asks Same, both ways.
func same(t *testing.T, a, b api.Gangs, want bool) {
	t.Helper()
	if gang.Same(a, b) != want || gang.Same(b, a) != want {
		t.Errorf("Same(%v, %v): %t, %t; want %t", a, b, gang.Same(a, b), gang.Same(b, a), want)
	}
}

// P14.1: Same of equal ones; of such as differ in an Id, in a member, in the number of rows, of members; nil and empty are one.
func TestSame(t *testing.T) {
	same(t, api.Gangs{}, gangs(), true)
	same(t, api.Gangs{}, gangs(one(1, 1, 2)), false)
	for _, g := range []api.Gangs{three(), full(), gangs(one(1, 1, 3))} {
		same(t, g, copied(g), true)
		same(t, g, api.Gangs{}, false)
		for i, r := range g.Rows {
			same(t, g, remade(g, i, func(r *api.Gang) { r.Id++ }), false)
			same(t, g, remade(g, i, func(r *api.Gang) { r.Id = -r.Id }), false)
			same(t, g, without(g, r.Id), false)
			same(t, g, remade(g, i, func(r *api.Gang) { r.Members = append(r.Members, 16) }), false)
			same(t, g, remade(g, i, func(r *api.Gang) { r.Members = nil }), false)
			for j := range r.Members {
				same(t, g, remade(g, i, func(r *api.Gang) { r.Members[j]++ }), false)
				same(t, g, remade(g, i, func(r *api.Gang) { r.Members = slices.Delete(r.Members, j, j+1) }), false)
			}
		}
	}
}

// P14.1: Same of what may not be compares it row by row, too.
func TestSameOfWhatMayNotBe(t *testing.T) {
	for _, g := range noGangs() {
		same(t, g, copied(g), true)
		same(t, g, three(), false)
		same(t, g, api.Gangs{}, false)
	}
	same(t, gangs(api.Gang{}), gangs(one(0, row()...)), true)
	same(t, gangs(one(1, 2, 1)), gangs(one(1, 1, 2)), false)
	same(t, gangs(one(2, 1, 2), one(1, 3, 4)), gangs(one(1, 3, 4), one(2, 1, 2)), false)
}

// P14.1: Same of many, and of such of which a thing was made another one, held against another telling.
func TestSameAsTold(t *testing.T) {
	next := chance()
	last := three()
	seen := map[bool]int{}
	for _, g := range many() {
		same(t, g, copied(g), true)
		same(t, g, last, sameAsTold(g, last))
		if len(g.Rows) > 0 {
			c := another(next, g)
			want := sameAsTold(g, c)
			seen[want]++
			same(t, g, c, want)
		}
		last = g
	}
	if seen[true] < 100 || seen[false] < 1000 {
		t.Errorf("%d were the same, %d were not: too few to tell", seen[true], seen[false])
	}
}

// formsNot asks Form for an error.
func formsNot(t *testing.T, g api.Gangs, members []int, want api.Errno) {
	t.Helper()
	if made, id, no := gang.Form(g, members); no != want || made.Rows != nil || id != 0 {
		t.Errorf("Form(%v, %v): %v, %d, %d; want %d alone", g, members, made, id, no, want)
	}
}

// forms asks Form for gangs, and for an Id.
func forms(t *testing.T, g api.Gangs, members []int, want api.Gangs, id int) {
	t.Helper()
	if made, of, no := gang.Form(g, members); no != api.OK || of != id || !sameAsTold(made, want) {
		t.Errorf("Form(%v, %v): %v, %d, %d; want %v, %d", g, members, made, of, no, want, id)
	}
}

// P14.2: Form of none, between others, ahead of them, behind them.
func TestForm(t *testing.T) {
	forms(t, api.Gangs{}, row(1, 3), gangs(one(1, 1, 3)), 1)
	forms(t, gangs(), upTo(9, 16), gangs(one(1, upTo(9, 16)...)), 1)
	forms(t, gangs(one(1, 1, 3)), row(2, 16), gangs(one(1, 1, 3), one(2, 2, 16)), 2)
	forms(t, gangs(one(2, 1, 3)), row(2, 16), gangs(one(1, 2, 16), one(2, 1, 3)), 1)
	forms(t, gangs(one(8, 1, 3)), row(2, 16), gangs(one(1, 2, 16), one(8, 1, 3)), 1)
	forms(t, gangs(one(1, 1, 2), one(3, 3, 4)), row(5, 6), gangs(one(1, 1, 2), one(2, 5, 6), one(3, 3, 4)), 2)
	forms(t, gangs(one(1, 1, 2), one(2, 3, 4), one(8, 7, 8)), row(5, 6), gangs(one(1, 1, 2), one(2, 3, 4), one(3, 5, 6), one(8, 7, 8)), 3)
	forms(t, gangs(one(1, 1, 2), one(4, 3, 4), one(6, 7, 8)), row(5, 6), gangs(one(1, 1, 2), one(2, 5, 6), one(4, 3, 4), one(6, 7, 8)), 2)
	forms(t, three(), row(5, 6), gangs(append([]api.Gang{one(1, 5, 6)}, three().Rows...)...), 1)
	for id := 1; id <= maxGangs; id++ {
		g := without(full(), id)
		forms(t, g, row(id, id+8), full(), id)
		for other := 1; other <= maxGangs; other++ {
			if other != id {
				forms(t, without(g, other), row(id, id+8), without(remade(full(), min(id, other)-1, func(r *api.Gang) { r.Members = row(id, id+8) }), max(id, other)), min(id, other))
			}
		}
	}
}

// P14.2: Form's errors: members that may not be ahead of such as are in a gang, and these even if there is no room. (As many gangs as there may be have all vCPUs, so that there is no room is never said: one of the members is in a gang then, or they may not be.)
func TestFormNot(t *testing.T) {
	for _, members := range noMembers() {
		for _, g := range []api.Gangs{{}, three(), full()} {
			formsNot(t, g, members, api.ErrArg)
		}
	}
	for a := 1; a <= maxVcpus; a++ {
		for b := 1; b <= maxVcpus; b++ {
			switch members := row(a, b); {
			case a >= b:
				formsNot(t, three(), members, api.ErrArg)
				formsNot(t, full(), members, api.ErrArg)
			case idOf(three(), a)+idOf(three(), b) > 0:
				formsNot(t, three(), members, api.ErrThere)
				formsNot(t, full(), members, api.ErrThere)
			default:
				forms(t, three(), members, gangs(append([]api.Gang{one(1, a, b)}, three().Rows...)...), 1)
				formsNot(t, full(), members, api.ErrThere)
			}
		}
	}
	formsNot(t, three(), row(5, 6, 8, 11, 12, 13, 14, 16), api.ErrThere)
	formsNot(t, three(), row(1, 5, 6, 8, 11, 12, 13, 14), api.ErrThere)
	formsNot(t, full(), upTo(1, 8), api.ErrThere)
	for id := 1; id <= maxGangs; id++ {
		for other := 1; other <= maxGangs; other++ {
			if id != other {
				formsNot(t, without(full(), id), row(min(id, other), max(id, other)), api.ErrThere)
			}
		}
	}
}

// parts asks Part of each Id, held against another telling.
func parts(t *testing.T, g api.Gangs) {
	t.Helper()
	for _, id := range append(upTo(1, maxGangs+1), noIds()...) {
		made, no := gang.Part(g, id)
		want := without(g, id)
		switch {
		case len(want.Rows) == len(g.Rows):
			if no != api.ErrNone || made.Rows != nil {
				t.Errorf("Part(%v, %d): %v, %d; want ErrNone alone", g, id, made, no)
			}
		case no != api.OK || !sameAsTold(made, want):
			t.Errorf("Part(%v, %d): %v, %d; want %v", g, id, made, no, want)
		}
	}
}

// P14.2: Part of each one of several, of the only one, of none.
func TestPart(t *testing.T) {
	for _, g := range []api.Gangs{three(), full(), gangs(one(5, 1, 2)), {}} {
		parts(t, g)
	}
	if made, no := gang.Part(three(), 3); no != api.OK || !sameAsTold(made, gangs(one(2, 3, 7), one(6, 2, 9, 10, 15))) {
		t.Errorf("Part(%v, 3): %v, %d", three(), made, no)
	}
	if made, no := gang.Part(three(), 1); no != api.ErrNone || made.Rows != nil {
		t.Errorf("Part(%v, 1): %v, %d; want ErrNone alone", three(), made, no)
	}
}

// leaves asks Leave of each vCPU, held against another telling.
func leaves(t *testing.T, g api.Gangs) {
	t.Helper()
	for _, vcpu := range append(upTo(1, maxVcpus), noIds()...) {
		made, no := gang.Leave(g, vcpu)
		id := idOf(g, vcpu)
		if id == 0 {
			if no != api.ErrNone || made.Rows != nil {
				t.Errorf("Leave(%v, %d): %v, %d; want ErrNone alone", g, vcpu, made, no)
			}
			continue
		}
		want := copied(g)
		for i, r := range want.Rows {
			want.Rows[i].Members = slices.DeleteFunc(r.Members, func(member int) bool { return member == vcpu })
			if r.Id == id && len(want.Rows[i].Members) == 1 {
				want = without(g, id)
				break
			}
		}
		if no != api.OK || !sameAsTold(made, want) {
			t.Errorf("Leave(%v, %d): %v, %d; want %v", g, vcpu, made, no, want)
		}
	}
}

// P14.2: Leave of a gang of two, of three, of four, of as many as there may be; of one that is in none.
func TestLeave(t *testing.T) {
	for _, c := range []struct {
		vcpu int
		want api.Gangs
	}{
		{3, gangs(one(3, 1, 4, 16), one(6, 2, 9, 10, 15))},
		{7, gangs(one(3, 1, 4, 16), one(6, 2, 9, 10, 15))},
		{1, gangs(one(2, 3, 7), one(3, 4, 16), one(6, 2, 9, 10, 15))},
		{4, gangs(one(2, 3, 7), one(3, 1, 16), one(6, 2, 9, 10, 15))},
		{16, gangs(one(2, 3, 7), one(3, 1, 4), one(6, 2, 9, 10, 15))},
		{2, gangs(one(2, 3, 7), one(3, 1, 4, 16), one(6, 9, 10, 15))},
		{10, gangs(one(2, 3, 7), one(3, 1, 4, 16), one(6, 2, 9, 15))},
	} {
		if made, no := gang.Leave(three(), c.vcpu); no != api.OK || !sameAsTold(made, c.want) {
			t.Errorf("Leave(%v, %d): %v, %d; want %v", three(), c.vcpu, made, no, c.want)
		}
	}
	for _, g := range []api.Gangs{three(), full(), gangs(one(5, 1, 2)), gangs(one(5, upTo(3, 10)...)), {}} {
		leaves(t, g)
	}
}

// P14.2: many gangs, parted and left, held against another telling; and formed anew.
func TestChangesAsTold(t *testing.T) {
	next := chance()
	seen := map[api.Errno]int{}
	for _, g := range many() {
		parts(t, g)
		leaves(t, g)
		for range 4 {
			members := shuffled(next, maxVcpus+1)[:2+next(3)]
			for i := range members {
				members[i] += min(next(12), 1)
			}
			if next(8) > 0 {
				slices.Sort(members)
			}
			made, id, no := gang.Form(g, members)
			want, least, why := formedAsTold(g, members)
			seen[why]++
			if no != why || id != least || !sameAsTold(made, want) {
				t.Errorf("Form(%v, %v): %v, %d, %d; want %v, %d, %d", g, members, made, id, no, want, least, why)
			}
		}
	}
	for _, no := range []api.Errno{api.OK, api.ErrArg, api.ErrThere} {
		if seen[no] < 500 {
			t.Errorf("error %d came %d times: too few to tell", no, seen[no])
		}
	}
}

// formedAsTold is what comes of gangs that may be with one more, as the chapter says it.
func formedAsTold(g api.Gangs, members []int) (api.Gangs, int, api.Errno) {
	if !membersMayBe(members) {
		return api.Gangs{}, 0, api.ErrArg
	}
	for _, member := range members {
		if idOf(g, member) > 0 {
			return api.Gangs{}, 0, api.ErrThere
		}
	}
	for id := 1; id <= maxGangs; id++ {
		if len(without(g, id).Rows) == len(g.Rows) {
			made := copied(g)
			made.Rows = append(made.Rows, one(id, slices.Clone(members)...))
			slices.SortFunc(made.Rows, func(a, b api.Gang) int { return a.Id - b.Id })
			return made, id, api.OK
		}
	}
	return api.Gangs{}, 0, api.ErrFull
}

// setMayBe tells whether s may be, as layer 4 says it.
func setMayBe(s api.Cpus) bool {
	return s <= all
}

// in are the numbers in s, as layer 4 tells them: those whose power of two is in the value.
func in(s api.Cpus) []int {
	var l []int
	power := uint64(1)
	for cpu := range maxCpus {
		if uint64(s)/power%2 == 1 {
			l = append(l, cpu)
		}
		power *= 2
	}
	return l
}

// matchAsTold is the first match of choices that may be, and whether there is one: all ways are gone through, in their order, but for those in which two have one pCPU already.
func matchAsTold(choices [][]int) ([]int, bool) {
	had := make([]int, 0, maxEach)
	var along func() bool
	along = func() bool {
		if len(had) == len(choices) {
			return true
		}
		for _, cpu := range choices[len(had)] {
			if slices.Contains(had, cpu) {
				continue
			}
			had = append(had, cpu)
			if along() {
				return true
			}
			had = had[:len(had)-1]
		}
		return false
	}
	return had, along()
}

// matches asks Match for a match.
func matches(t *testing.T, choices [][]int, want ...int) {
	t.Helper()
	if match, there := gang.Match(choices); !there || !slices.Equal(match, want) {
		t.Errorf("Match(%v): %v, %t; want %v", choices, match, there, want)
	}
}

// matchesNot asks Match for none.
func matchesNot(t *testing.T, choices [][]int) {
	t.Helper()
	if match, there := gang.Match(choices); there || match != nil {
		t.Errorf("Match(%v): %v, %t; want none", choices, match, there)
	}
}

// matchesAsTold asks Match for what another telling says, and tells whether there is a match.
func matchesAsTold(t *testing.T, choices [][]int) bool {
	t.Helper()
	want, there := matchAsTold(choices)
	if there {
		matches(t, choices, want...)
	} else {
		matchesNot(t, choices)
	}
	return there
}

// P14.3: Match of no rows, of an empty row, of rows with one match, with several, with none.
func TestMatch(t *testing.T) {
	matches(t, nil)
	matches(t, rows())
	matchesNot(t, rows(nil))
	matchesNot(t, rows(row()))
	matchesNot(t, rows(row(0, 1), nil))
	matchesNot(t, rows(nil, row(0, 1)))
	matchesNot(t, rows(row(3), row(), row(4)))
	for cpu := range maxCpus {
		matches(t, rows(row(cpu)), cpu)
		matchesNot(t, rows(row(cpu), row(cpu)))
		matchesNot(t, rows(row(cpu), row((cpu+1)%maxCpus), row(cpu)))
	}
	matches(t, rows(row(0, 1), row(0)), 1, 0)
	matches(t, rows(row(0), row(0, 1)), 0, 1)
	matches(t, rows(row(0, 1), row(0, 2), row(0)), 1, 2, 0)
	matches(t, rows(row(0, 1), row(1, 2), row(2, 3), row(0)), 1, 2, 3, 0)
	matches(t, rows(row(7, 6), row(6, 5), row(5, 7), row(7, 4)), 7, 6, 5, 4)
	matches(t, rows(row(7, 6), row(6, 5), row(5, 4), row(7)), 6, 5, 4, 7)
	matchesNot(t, rows(row(0, 1), row(1, 0), row(0, 1)))
	matchesNot(t, rows(row(5), row(0, 1, 2), row(3, 4, 5, 6, 7), row(5)))
	matchesNot(t, rows(row(0, 1), row(2, 3, 4, 5, 6, 7), row(0, 1), row(7, 6), row(1, 0)))
}

// P14.3: of several matches the first one: by the order in the rows, not by the pCPUs' numbers; the first row ahead of the second one.
func TestMatchIsTheFirst(t *testing.T) {
	matches(t, rows(row(5, 2, 7)), 5)
	matches(t, rows(row(7, 6, 5, 4, 3, 2, 1, 0)), 7)
	matches(t, rows(row(3, 1), row(3, 1)), 3, 1)
	matches(t, rows(row(1, 3), row(3, 1)), 1, 3)
	matches(t, rows(row(3, 1), row(3, 2, 0), row(3, 2, 0)), 3, 2, 0)
	matches(t, rows(row(3, 1), row(3, 0, 2), row(3, 2, 0)), 3, 0, 2)
	matches(t, rows(row(4, 0), row(0, 4), row(4, 5)), 4, 0, 5)
	matches(t, rows(row(2, 1, 0), row(2), row(1, 0)), 1, 2, 0) // the third one has what it likes less, that the first one has what it likes more
	matches(t, rows(row(2, 1, 0), row(1, 2), row(2)), 0, 1, 2)
	matches(t, rows(row(0, 1, 2), row(0, 2), row(1, 0)), 0, 2, 1)
	matches(t, rows(row(1, 0), row(0, 2, 1), row(0), row(1, 2, 3)), 1, 2, 0, 3)
	eight := [][]int{}
	for range maxEach {
		eight = append(eight, row(6, 4, 2, 0, 7, 5, 3, 1))
	}
	matches(t, eight, 6, 4, 2, 0, 7, 5, 3, 1)
	eight[7] = row(6)
	matches(t, eight, 4, 2, 0, 7, 5, 3, 1, 6)
	eight[0] = row(1, 6)
	matches(t, eight, 1, 4, 2, 0, 7, 5, 3, 6)
	eight[6] = row(6, 1)
	matchesNot(t, eight)
}

// P14.3: what may not be choices: more rows than MaxEach, a pCPU below 0, one at MaxCpus, one twice in a row; wherever they stand.
func TestMatchOfWhatMayNotBe(t *testing.T) {
	nine := make([][]int, maxEach+1)
	for i := range nine {
		nine[i] = upTo(0, maxCpus-1)
	}
	matchesNot(t, nine)
	matches(t, nine[1:], upTo(0, maxCpus-1)...)
	matchesNot(t, make([][]int, maxEach))
	matchesNot(t, make([][]int, maxEach+1))
	matchesNot(t, make([][]int, 1<<16))
	outs := []int{-1, -2, -8, -64, math.MinInt, math.MinInt + 1, 8, 9, 16, 32, 64, 65, 256, 1 << 32, 1<<32 + 1, math.MaxInt}
	for _, out := range outs {
		matchesNot(t, rows(row(out)))
		matchesNot(t, rows(row(0, out)))
		matchesNot(t, rows(row(out, 0)))
		matchesNot(t, rows(row(0, 1), row(2, out, 3)))
		matchesNot(t, rows(row(0, 1), row(2, 3, out)))
		matchesNot(t, rows(row(out, 1), row(2, 3)))
	}
	for cpu := range maxCpus {
		other := (cpu + 1) % maxCpus
		matchesNot(t, rows(row(cpu, cpu)))
		matchesNot(t, rows(row(cpu, other, cpu)))
		matchesNot(t, rows(row(other, cpu, cpu)))
		matchesNot(t, rows(row(other), row(cpu, cpu)))
		matchesNot(t, rows(row(cpu, cpu), row(other)))
		matches(t, rows(row(cpu, other), row(other, cpu)), cpu, other)
	}
	matchesNot(t, rows(upTo(0, 8)))
	matchesNot(t, rows(make([]int, 1<<16)))
	matchesNot(t, rows(row(0), slices.Repeat(row(1, 2), 1<<16)))
}

// shortRows are all rows of some of the first n pCPUs, none twice.
func shortRows(n int) [][]int {
	l := [][]int{nil}
	for from := 0; from < len(l); from++ {
		for cpu := range n {
			if !slices.Contains(l[from], cpu) {
				l = append(l, append(slices.Clone(l[from]), cpu))
			}
		}
	}
	return l
}

// P14.3: all choices of up to four rows among three pCPUs, and all of two among four, held against another telling.
func TestAllShortMatchesAsTold(t *testing.T) {
	three := shortRows(3)
	found := map[bool]int{}
	for _, a := range three {
		found[matchesAsTold(t, rows(a))]++
		for _, b := range three {
			found[matchesAsTold(t, rows(a, b))]++
			for _, c := range three {
				found[matchesAsTold(t, rows(a, b, c))]++
				for _, d := range three {
					matchesAsTold(t, rows(a, b, c, d))
				}
			}
		}
	}
	for _, a := range shortRows(4) {
		for _, b := range shortRows(4) {
			found[matchesAsTold(t, rows(a, b))]++
		}
	}
	if found[true] < 1000 || found[false] < 1000 {
		t.Errorf("%d had a match, %d had none: too few to tell", found[true], found[false])
	}
}

// someChoices are such as may be: of so many rows, long or short ones.
func someChoices(next func(int) int, n int) [][]int {
	cpus, least := 1+next(maxCpus), next(3)
	l := [][]int{}
	for range n {
		l = append(l, shuffled(next, maxCpus)[:min(least+next(cpus), maxCpus)])
	}
	return l
}

// P14.3, P14.5: many choices, held against another telling; each row has one of its own, none twice.
func TestMatchAsTold(t *testing.T) {
	next := chance()
	found := map[bool]int{}
	for i := range 6000 {
		choices := someChoices(next, i%(maxEach+1))
		found[matchesAsTold(t, choices)]++
		match, there := gang.Match(choices)
		if !there {
			continue
		}
		for i, cpu := range match {
			if !slices.Contains(choices[i], cpu) || slices.Contains(match[:i], cpu) {
				t.Errorf("Match(%v): %v: not one of its own, or one twice, at %d", choices, match, i)
			}
		}
	}
	if found[true] < 1000 || found[false] < 1000 {
		t.Errorf("%d had a match, %d had none: too few to tell", found[true], found[false])
	}
}

// togetherIn are how many pCPUs are in the sets at these places together.
func togetherIn(masks []api.Cpus, places []int) int {
	n := 0
	for cpu := range maxCpus {
		if slices.ContainsFunc(places, func(place int) bool { return slices.Contains(in(masks[place]), cpu) }) {
			n++
		}
	}
	return n
}

// stuckAsTold are the places that Stuck answers, of sets that may be: of all rows of places that are stuck the least one.
func stuckAsTold(masks []api.Cpus) []int {
	var found []int
	for some := range 1 << len(masks) {
		var places []int
		for place := range masks {
			if some>>place%2 == 1 {
				places = append(places, place)
			}
		}
		if togetherIn(masks, places) >= len(places) {
			continue
		}
		if found == nil || len(places) < len(found) || len(places) == len(found) && slices.Compare(places, found) < 0 {
			found = places
		}
	}
	return found
}

// sets are these.
func sets(l ...api.Cpus) []api.Cpus {
	return l
}

// stuck asks Stuck for these places; and May, which holds just if there are none.
func stuck(t *testing.T, masks []api.Cpus, want ...int) {
	t.Helper()
	if places := gang.Stuck(masks); !slices.Equal(places, want) {
		t.Errorf("Stuck(%v): %v; want %v", masks, places, want)
	}
	if may := gang.May(masks); may != (len(want) == 0) {
		t.Errorf("May(%v): %t; stuck are %v", masks, may, want)
	}
}

// P14.3: May of sets with a match, without, of an empty set, of none, of as many as there may be.
func TestMay(t *testing.T) {
	for _, c := range []struct {
		masks []api.Cpus
		want  bool
	}{
		{nil, true},
		{sets(), true},
		{sets(1), true},
		{sets(128), true},
		{sets(all), true},
		{sets(0), false},
		{sets(0, all), false},
		{sets(all, 0), false},
		{sets(3, 1), true},
		{sets(1, 3), true},
		{sets(1, 2), true},
		{sets(4, 4), false},
		{sets(3, 3), true},
		{sets(3, 3, 3), false},
		{sets(3, 6, 5), true},
		{sets(3, 6, 5, 7), false},
		{sets(128, 64, 192, all), false},
		{sets(128, 64, 224, all), true},
		{sets(1, 3, 7, 15, 31, 63, 127, 255), true},
		{sets(255, 127, 63, 31, 15, 7, 3, 1), true},
		{sets(1, 3, 7, 15, 31, 63, 127, 127), false},
		{sets(all, all, all, all, all, all, all, all), true},
		{sets(127, 127, 127, 127, 127, 127, 127, 127), false},
		{sets(127, 127, 127, 127, 127, 127, 127, 128), true},
	} {
		if may := gang.May(c.masks); may != c.want {
			t.Errorf("May(%v): %t; want %t", c.masks, may, c.want)
		}
	}
}

// P14.3, P14.4: sets that may not be, and more than MaxEach, whatever else there is.
func TestOfSetsThatMayNotBe(t *testing.T) {
	none := func(masks []api.Cpus) {
		t.Helper()
		if gang.May(masks) {
			t.Errorf("May(%v): true; want false", masks)
		}
		if places := gang.Stuck(masks); len(places) != 0 {
			t.Errorf("Stuck(%v): %v; want nothing", masks, places)
		}
	}
	for bit := maxCpus; bit < 32; bit++ {
		for _, s := range sets(0, 1, all, 256) {
			bad := s | 1<<bit
			none(sets(bad))
			none(sets(all, bad))
			none(sets(bad, all))
			none(sets(0, bad))
			none(sets(4, 4, bad))
			none(sets(bad, 4, 4))
			none(sets(all, 3, 3, 3, all, all, all, bad))
		}
	}
	none(sets(math.MaxUint32))
	none(slices.Repeat(sets(all), maxEach+1))
	none(slices.Repeat(sets(1), maxEach+1))
	none(make([]api.Cpus, maxEach+1))
	none(make([]api.Cpus, 1<<16))
	none(sets(1, 2, 4, 8, 16, 32, 64, 128, 255))
	stuck(t, slices.Repeat(sets(all), maxEach))
	stuck(t, slices.Repeat(sets(1), maxEach), 0, 1)
	stuck(t, make([]api.Cpus, maxEach), 0)
}

// P14.4: none stuck, an empty set, two of one pCPU, three of two; the fewest, and of as many those whose places come first.
func TestStuck(t *testing.T) {
	stuck(t, nil)
	stuck(t, sets())
	stuck(t, sets(1))
	stuck(t, sets(all, all))
	stuck(t, sets(1, 2, 4, 8, 16, 32, 64, 128))
	stuck(t, sets(0), 0)
	stuck(t, sets(all, 0), 1)
	stuck(t, sets(0, 0), 0)
	stuck(t, sets(4, 4, 0), 2) // one empty one ahead of two
	stuck(t, sets(3, 3, 3, 0, 0), 3)
	stuck(t, sets(4, 4), 0, 1)
	stuck(t, sets(15, 4, 4), 1, 2)
	stuck(t, sets(4, 15, 4), 0, 2)
	stuck(t, sets(4, 4, 4), 0, 1)
	stuck(t, sets(4, 8, 8, 4), 0, 3) // 0 and 3 ahead of 1 and 2
	stuck(t, sets(8, 4, 4, 8, 4), 0, 3)
	stuck(t, sets(2, 4, 8, 4, 8, 8), 1, 3)
	stuck(t, sets(3, 3, 3), 0, 1, 2)
	stuck(t, sets(1, 2, 3), 0, 1, 2)
	stuck(t, sets(all, 1, all, 3, all, 2), 1, 3, 5)
	stuck(t, sets(3, 3, 3, 4, 4), 3, 4) // two ahead of three
	stuck(t, sets(6, 3, 12, 3, 3, 12, 12), 1, 3, 4)
	stuck(t, sets(12, 3, 3, 12, 12, 3), 0, 3, 4)
	stuck(t, sets(7, 7, 7, 7), 0, 1, 2, 3)
	stuck(t, sets(all, 3, 5, 6, 7), 1, 2, 3, 4)
	stuck(t, sets(127, 127, 127, 127, 127, 127, 127, 127), 0, 1, 2, 3, 4, 5, 6, 7)
}

// someSet is an empty one, one of one pCPU, of all, or of some of the first ones.
func someSet(next func(int) int, cpus int) api.Cpus {
	switch next(20) {
	case 0:
		return 0
	case 1:
		return 1 << next(maxCpus)
	case 2:
		return all
	}
	return 1<<next(cpus) | api.Cpus(next(1<<cpus))&api.Cpus(next(1<<cpus))
}

// P14.3 to P14.5: all rows of up to five sets among three pCPUs, and many others, held against another telling; there is a match just if none are stuck.
func TestStuckAsTold(t *testing.T) {
	lists := [][]api.Cpus{nil}
	for from := 0; len(lists[from]) < 5; from++ {
		for s := range api.Cpus(8) {
			lists = append(lists, append(slices.Clone(lists[from]), s))
		}
	}
	next := chance()
	for range 6000 {
		var masks []api.Cpus
		cpus := 1 + next(maxCpus)
		for range next(maxEach + 1) {
			masks = append(masks, someSet(next, cpus))
		}
		lists = append(lists, masks)
	}
	found := map[int]int{}
	for _, masks := range lists {
		want := stuckAsTold(masks)
		found[len(want)]++
		stuck(t, masks, want...)
		choices := [][]int{}
		for _, s := range masks {
			choices = append(choices, in(s))
		}
		if _, there := gang.Match(choices); there != (len(want) == 0) {
			t.Errorf("Match(%v): %t; stuck are %v", choices, there, want)
		}
	}
	for n := range 6 {
		if found[n] < 20 {
			t.Errorf("%d were stuck %d times: too few to tell", n, found[n])
		}
	}
}

// P14.5: formed and parted again leads back; and no vCPU is in two gangs, none has fewer than two members, whatever was done.
func TestWhatFollows(t *testing.T) {
	next := chance()
	for range 60 {
		g := api.Gangs{}
		for range 200 {
			was := copied(g)
			switch next(4) {
			case 0, 1:
				members := shuffled(next, maxVcpus)[:2+next(2)+next(maxEach-2)/3]
				for i := range members {
					members[i]++
				}
				slices.Sort(members)
				if made, id, no := gang.Form(g, members); no == api.OK {
					if back, no := gang.Part(made, id); no != api.OK || !gang.Same(back, was) {
						t.Errorf("of %v with %v, formed and parted, comes %v, %d", was, members, back, no)
					}
					g = made
				}
			case 2:
				if made, no := gang.Leave(g, 1+next(maxVcpus)); no == api.OK {
					g = made
				}
			case 3:
				if made, no := gang.Part(g, 1+next(maxGangs)); no == api.OK && next(2) == 0 {
					g = made
				}
			}
			if !mayBe(g) || gang.Check(g) != api.OK {
				t.Fatalf("of %v came %v", was, g)
			}
		}
	}
}

// R5: asked again it tells the same: a map is gone through in no way that could be seen.
func TestAskedAgain(t *testing.T) {
	next := chance()
	for range 300 {
		choices := someChoices(next, maxEach)
		want, there := gang.Match(choices)
		for range 5 {
			if match, again := gang.Match(choices); again != there || !slices.Equal(match, want) {
				t.Errorf("Match(%v): %v, %t, and then %v, %t", choices, want, there, match, again)
			}
		}
	}
}

// behind is g, with more behind the ends of all its lists.
func behind(g api.Gangs) api.Gangs {
	c := copied(g)
	for i, r := range c.Rows {
		c.Rows[i].Members = append(slices.Clip(r.Members), 16, 17, 1)[:len(r.Members)]
	}
	c.Rows = append(slices.Clip(c.Rows), one(1, 1, 2), one(9, 3))[:len(g.Rows)]
	return c
}

// P14.2, R3: no call changes the gangs that it is handed, nor the members, nor what stands behind their ends; and that does not count.
func TestNothingIsChanged(t *testing.T) {
	for _, g := range append(many(), noGangs()...) {
		given, whole := behind(g), behind(g)
		members := append(make([]int, 0, 8), 5, 6, 8, 11)[:2]
		if mayBe(g) {
			tells(t, given)
			leaves(t, given)
			parts(t, given)
			want, least, why := formedAsTold(g, row(5, 6))
			if made, id, no := gang.Form(given, members); no != why || id != least || !sameAsTold(made, want) {
				t.Errorf("Form(%v, %v): %v, %d, %d; want %v, %d, %d", g, members, made, id, no, want, least, why)
			}
			same(t, given, g, true)
		} else {
			refused(t, given)
			gang.Form(given, members)
		}
		given.Rows, whole.Rows = given.Rows[:len(g.Rows)+2], whole.Rows[:len(g.Rows)+2]
		for i, r := range whole.Rows {
			more := 3
			if i >= len(g.Rows) {
				more = 0
			}
			if n := len(r.Members) + more; given.Rows[i].Id != r.Id || !slices.Equal(given.Rows[i].Members[:n], r.Members[:n]) {
				t.Errorf("of %v came %v at %d", g, given.Rows[i], i)
			}
		}
		if !slices.Equal(members[:4], row(5, 6, 8, 11)) {
			t.Errorf("of members came %v", members[:4])
		}
	}
}

// R3: no call changes choices or sets, nor what stands behind their ends; and that does not count.
func TestNoChoiceIsChanged(t *testing.T) {
	next := chance()
	for i := range 500 {
		choices := someChoices(next, i%(maxEach+1))
		want := slices.Clone(choices)
		given := append(slices.Clone(choices), row(99), nil)
		for i, l := range choices {
			want[i] = slices.Clone(l)
			given[i] = append(slices.Clone(l), l...)[:len(l)]
		}
		matchesAsTold(t, given[:len(choices)])
		for i, l := range want {
			if !slices.Equal(given[i], l) || !slices.Equal(given[i][:2*len(l)], append(l, l...)) {
				t.Errorf("of %v came %v", l, given[i][:2*len(l)])
			}
		}
		if !slices.Equal(given[len(choices)], row(99)) || given[len(choices)+1] != nil {
			t.Errorf("behind %v came %v", choices, given[len(choices):])
		}
		var masks []api.Cpus
		for range i % (maxEach + 1) {
			masks = append(masks, someSet(next, 4))
		}
		more := append(slices.Clone(masks), 0, 256)
		stuck(t, more[:len(masks)], stuckAsTold(masks)...)
		if !slices.Equal(more, append(slices.Clone(masks), 0, 256)) {
			t.Errorf("of %v came %v", masks, more)
		}
	}
}

// spoil makes all that the lists of g have room for other numbers.
func spoil(g api.Gangs) {
	for _, r := range g.Rows {
		spoilRow(r.Members)
	}
	l := g.Rows[:cap(g.Rows)]
	for i := range l {
		l[i] = one(-7, -7)
	}
}

// spoilRow makes all that the list has room for other numbers.
func spoilRow(l []int) {
	l = l[:cap(l)]
	for i := range l {
		l[i] = -7
	}
}

// P14.2, R3: what is answered is new memory: it is neither what was handed in nor another answer's, and no two of its lists share any.
func TestAnswersAreNewMemory(t *testing.T) {
	for _, g := range many() {
		was, members := copied(g), row(5, 6)
		if made, _, no := gang.Form(g, members); no == api.OK {
			want := copied(made)
			for i := range made.Rows {
				spoilRow(made.Rows[i].Members)
				for j := range made.Rows[i+1:] {
					if other := i + 1 + j; !slices.Equal(made.Rows[other].Members, want.Rows[other].Members) {
						t.Errorf("of %v two lists share memory: %d, %d", want, i, other)
					}
				}
			}
			spoil(made)
		}
		for n := 1; n <= maxVcpus; n++ {
			if made, no := gang.Leave(g, n); no == api.OK {
				spoil(made)
			}
			if made, no := gang.Part(g, n); no == api.OK {
				spoil(made)
			}
			spoilRow(gang.Members(g, n))
		}
		l := gang.Rows(g)
		for i, r := range l {
			if !slices.Equal(r, was.Rows[i].Members) {
				t.Errorf("Rows(%v): two share memory, at %d", was, i)
			}
			spoilRow(r)
		}
		if !sameAsTold(g, was) || !slices.Equal(members, row(5, 6)) {
			t.Errorf("of %v came %v; of members %v", was, g, members)
		}
	}
}

// R3: matches and places are new memory, too.
func TestMatchesAreNewMemory(t *testing.T) {
	next := chance()
	for range 300 {
		choices := someChoices(next, 1+next(4))
		want, _ := matchAsTold(choices)
		a, there := gang.Match(choices)
		b, _ := gang.Match(choices)
		if there {
			spoilRow(a)
			if !slices.Equal(b, want) || !matchesAsTold(t, choices) {
				t.Errorf("of %v came %v", choices, b)
			}
		}
		masks := sets(someSet(next, 2), someSet(next, 2), someSet(next, 2))
		places := stuckAsTold(masks)
		c, d := gang.Stuck(masks), gang.Stuck(masks)
		spoilRow(c)
		if !slices.Equal(d, places) {
			t.Errorf("Stuck(%v): %v; want %v", masks, d, places)
		}
	}
}

// R3: what is handed in is not kept: changed later on, it changes no answer.
func TestNothingIsKept(t *testing.T) {
	g, members := three(), row(5, 6)
	formed, _, _ := gang.Form(g, members)
	parted, _ := gang.Part(g, 3)
	left, _ := gang.Leave(g, 10)
	inOne, all := gang.Members(g, 6), gang.Rows(g)
	choices, masks := rows(row(0, 1), row(0)), sets(4, 4)
	match, _ := gang.Match(choices)
	places := gang.Stuck(masks)
	spoil(g)
	spoilRow(members)
	spoilRow(choices[0])
	spoilRow(choices[1])
	clear(masks)
	same(t, formed, gangs(append([]api.Gang{one(1, 5, 6)}, three().Rows...)...), true)
	same(t, parted, without(three(), 3), true)
	same(t, left, remade(three(), 2, func(r *api.Gang) { r.Members = row(2, 9, 15) }), true)
	if !slices.Equal(inOne, row(2, 9, 10, 15)) || !slices.EqualFunc(all, rows(row(3, 7), row(1, 4, 16), row(2, 9, 10, 15)), slices.Equal) {
		t.Errorf("what was answered is now %v, %v", inOne, all)
	}
	if !slices.Equal(match, row(1, 0)) || !slices.Equal(places, row(0, 1)) {
		t.Errorf("what was answered is now %v, %v", match, places)
	}
}

// The chapter's examples.
func TestExamples(t *testing.T) {
	var g api.Gangs
	forms(t, g, row(1, 3), gangs(one(1, 1, 3)), 1)
	first, _, _ := gang.Form(g, row(1, 3))
	formsNot(t, first, row(3, 4), api.ErrThere)
	formsNot(t, g, row(5), api.ErrArg)
	if id, in := gang.Of(first, 3); id != 1 || !in {
		t.Errorf("Of(%v, 3): %d, %t; want 1", first, id, in)
	}
	if left, no := gang.Leave(first, 3); no != api.OK || len(gang.Rows(left)) != 0 {
		t.Errorf("Leave(%v, 3): %v, %d; want none", first, left, no)
	}
	if made, no := gang.Part(first, 2); no != api.ErrNone || made.Rows != nil {
		t.Errorf("Part(%v, 2): %v, %d; want ErrNone alone", first, made, no)
	}
	matches(t, rows(row(0, 1), row(0)), 1, 0)
	matchesNot(t, rows(row(0), row(0)))
	matches(t, nil)
	stuck(t, sets(3, 1))
	stuck(t, sets(4, 4), 0, 1)
	stuck(t, sets(15, 4, 4), 1, 2)
}
