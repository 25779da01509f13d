package event_test

import (
	"math"
	"slices"
	"testing"

	"mainsheet/api"
	"mainsheet/event"
)

// The limits, as the document says them.
const (
	maxEnds  = 32
	maxVcpus = 16
)

// free is the port of that number, bound to that virtual CPU, all else zero.
func free(num, vcpu int) api.Port {
	return api.Port{Num: num, Vcpu: vcpu}
}

// linked is the port with that Peer.
func linked(x api.Port, peer int) api.Port {
	x.Peer = peer
	return x
}

// pending is the port, Pending.
func pending(x api.Port) api.Port {
	x.Pending = true
	return x
}

// masked is the port, Masked.
func masked(x api.Port) api.Port {
	x.Masked = true
	return x
}

// ports are those of these rows.
func ports(rows ...api.Port) api.Ports {
	return api.Ports{Rows: rows}
}

// copied is p in memory of its own.
func copied(p api.Ports) api.Ports {
	return api.Ports{Rows: slices.Clone(p.Rows)}
}

// remade is a copy of p, whose port at that place is made another one.
func remade(p api.Ports, place int, change func(x *api.Port)) api.Ports {
	c := copied(p)
	change(&c.Rows[place])
	return c
}

// sameAsTold tells whether both are the same, held word by word.
func sameAsTold(a, b api.Ports) bool {
	if len(a.Rows) != len(b.Rows) {
		return false
	}
	for i, x := range a.Rows {
		y := b.Rows[i]
		if x.Num != y.Num || x.Vcpu != y.Vcpu || x.Peer != y.Peer || x.Pending != y.Pending || x.Masked != y.Masked {
			return false
		}
	}
	return true
}

// board is all numbers' ports, by their numbers: another way to hold ports. The number of one that is not there is 0.
type board [maxEnds + 1]api.Port

// boardOf is the board of p, whose numbers are in bounds.
func boardOf(p api.Ports) *board {
	var b board
	for _, x := range p.Rows {
		b[x.Num] = x
	}
	return &b
}

// ports are those of the board.
func (b *board) ports() api.Ports {
	var p api.Ports
	for num := 1; num <= maxEnds; num++ {
		if b[num].Num != 0 {
			p.Rows = append(p.Rows, b[num])
		}
	}
	return p
}

// has tells whether there is a port of that number.
func (b *board) has(num int) bool {
	return 0 < num && num <= maxEnds && b[num].Num != 0
}

// due tells whether the port of that number is due.
func (b *board) due(num int) bool {
	return b.has(num) && b[num].Pending && !b[num].Masked
}

// mayBe tells whether the ports may be, as the chapter says it.
func mayBe(p api.Ports) bool {
	for i, x := range p.Rows {
		if x.Num < 1 || x.Num > maxEnds || x.Vcpu < 1 || x.Vcpu > maxVcpus || i > 0 && p.Rows[i-1].Num >= x.Num {
			return false
		}
	}
	for _, x := range p.Rows {
		backs := 0
		for _, y := range p.Rows {
			if y.Num != x.Num && y.Num == x.Peer && y.Peer == x.Num {
				backs++
			}
		}
		if x.Peer != 0 && backs != 1 {
			return false
		}
	}
	return true
}

// What is asked for.
const (
	askOpen = iota
	askLink
	askClose
	askDrop
	askSend
	askRaise
	askMask
	askBind
	askClear
	askPoll
)

// ask is a call: of a port, of another one, of a virtual CPU; which of them count hangs on the kind.
type ask struct {
	kind, num, other, vcpu int
	flag                   bool
	nums                   []int
}

// answer is all that a call answers; the number is that of a port, how many there were, or whom that wakes.
type answer struct {
	ports api.Ports
	n     int
	is    bool
	no    api.Errno
}

// sameAnswer tells whether both are the same.
func sameAnswer(a, b answer) bool {
	return sameAsTold(a.ports, b.ports) && a.n == b.n && a.is == b.is && a.no == b.no
}

// done is what the package answers.
func done(p api.Ports, a ask) (got answer) {
	switch a.kind {
	case askOpen:
		got.ports, got.n, got.no = event.Open(p, a.vcpu)
	case askLink:
		got.ports, got.no = event.Link(p, a.num, a.other)
	case askClose:
		got.ports, got.no = event.Close(p, a.num)
	case askDrop:
		got.ports, got.n, got.no = event.Drop(p, a.vcpu)
	case askSend:
		got.ports, got.n, got.no = event.Send(p, a.num)
	case askRaise:
		got.ports, got.n, got.no = event.Raise(p, a.num)
	case askMask:
		got.ports, got.n, got.no = event.Mask(p, a.num, a.flag)
	case askBind:
		got.ports, got.n, got.no = event.Bind(p, a.num, a.vcpu)
	case askClear:
		got.ports, got.is, got.no = event.Clear(p, a.num)
	case askPoll:
		got.is, got.no = event.Poll(p, a.vcpu, a.nums)
	}
	return got
}

// refusal is why the call is refused, as the chapter says it; OK, if it is not.
func refusal(p api.Ports, a ask) api.Errno {
	if !mayBe(p) {
		return api.ErrPorts
	}
	b := boardOf(p)
	noVcpu := a.vcpu < 1 || a.vcpu > maxVcpus
	switch a.kind {
	case askOpen:
		if noVcpu {
			return api.ErrArg
		}
		if len(p.Rows) >= maxEnds {
			return api.ErrFull
		}
		return api.OK
	case askDrop:
		if noVcpu {
			return api.ErrArg
		}
		return api.OK
	case askPoll:
		return pollRefusal(b, a, noVcpu)
	case askBind:
		if noVcpu {
			return api.ErrArg
		}
	}
	if !b.has(a.num) || a.kind == askLink && !b.has(a.other) {
		return api.ErrNone
	}
	if a.kind == askLink && a.num == a.other {
		return api.ErrArg
	}
	if a.kind == askLink && (b[a.num].Peer != 0 || b[a.other].Peer != 0) || a.kind == askSend && b[a.num].Peer == 0 {
		return api.ErrLink
	}
	return api.OK
}

// pollRefusal is why a poll is refused.
func pollRefusal(b *board, a ask, noVcpu bool) api.Errno {
	if noVcpu || len(a.nums) < 1 || len(a.nums) > maxEnds {
		return api.ErrArg
	}
	for _, num := range a.nums {
		if !b.has(num) {
			return api.ErrNone
		}
	}
	for _, num := range a.nums {
		if b[num].Vcpu != a.vcpu {
			return api.ErrArg
		}
	}
	return api.OK
}

// told is what the chapter says that the call answers.
func told(p api.Ports, a ask) answer {
	if no := refusal(p, a); no != api.OK {
		return answer{no: no}
	}
	was, is := boardOf(p), boardOf(p)
	var want answer
	turned := 0 // the port of which is asked whether it wakes somebody
	switch a.kind {
	case askOpen:
		for want.n = 1; is.has(want.n); want.n++ {
		}
		is[want.n] = free(want.n, a.vcpu)
	case askLink:
		is[a.num].Peer = a.other
		is[a.other].Peer = a.num
	case askClose, askDrop:
		for num := range is {
			gone := a.kind == askClose && num == a.num || a.kind == askDrop && was.has(num) && was[num].Vcpu == a.vcpu
			if !gone {
				continue
			}
			if a.kind == askDrop {
				want.n++
			}
			is[was[num].Peer].Peer = 0
			is[num] = api.Port{}
		}
	case askSend:
		turned = is[a.num].Peer
		is[turned].Pending = true
	case askRaise:
		turned = a.num
		is[turned].Pending = true
	case askMask:
		turned = a.num
		is[turned].Masked = a.flag
	case askBind:
		turned = a.num
		is[turned].Vcpu = a.vcpu
	case askClear:
		want.is = was[a.num].Pending
		is[a.num].Pending = false
	case askPoll:
		for _, num := range a.nums {
			want.is = want.is || was[num].Pending
		}
		return want
	}
	if is.due(turned) && (!was.due(turned) || was[turned].Vcpu != is[turned].Vcpu) {
		want.n = is[turned].Vcpu
	}
	want.ports = is.ports()
	return want
}

// asks does a call, and holds what it answers against the other telling.
func asks(t *testing.T, p api.Ports, a ask) answer {
	t.Helper()
	was := copied(p)
	got, want := done(p, a), told(p, a)
	if !sameAnswer(got, want) {
		t.Errorf("%v of %v: %v; want %v", a, was, got, want)
	}
	if !sameAsTold(p, was) {
		t.Errorf("%v made %v of %v", a, p, was)
	}
	return got
}

// wants does a call, and holds what it answers against that, told by hand.
func wants(t *testing.T, p api.Ports, a ask, want answer) {
	t.Helper()
	if got := asks(t, p, a); !sameAnswer(got, want) {
		t.Errorf("%v of %v: %v; by hand %v", a, p, got, want)
	}
}

// refuses does a call that is refused with that error, and nothing beside it.
func refuses(t *testing.T, p api.Ports, a ask, no api.Errno) {
	t.Helper()
	wants(t, p, a, answer{no: no})
}

// The calls, of what they are handed.

func opening(vcpu int) ask              { return ask{kind: askOpen, vcpu: vcpu} }
func linking(num, other int) ask        { return ask{kind: askLink, num: num, other: other} }
func closing(num int) ask               { return ask{kind: askClose, num: num} }
func dropping(vcpu int) ask             { return ask{kind: askDrop, vcpu: vcpu} }
func sending(num int) ask               { return ask{kind: askSend, num: num} }
func raising(num int) ask               { return ask{kind: askRaise, num: num} }
func masking(num int, flag bool) ask    { return ask{kind: askMask, num: num, flag: flag} }
func binding(num, vcpu int) ask         { return ask{kind: askBind, num: num, vcpu: vcpu} }
func clearing(num int) ask              { return ask{kind: askClear, num: num} }
func polling(vcpu int, nums ...int) ask { return ask{kind: askPoll, vcpu: vcpu, nums: nums} }

// theirs are all calls of these numbers and virtual CPUs.
func theirs(nums, vcpus []int) []ask {
	var l []ask
	for _, num := range nums {
		l = append(l, closing(num), sending(num), raising(num), masking(num, true), masking(num, false), clearing(num))
		for _, other := range nums {
			l = append(l, linking(num, other))
		}
		for _, vcpu := range vcpus {
			l = append(l, binding(num, vcpu), polling(vcpu, num))
			for _, other := range nums {
				l = append(l, polling(vcpu, num, other))
			}
		}
	}
	for _, vcpu := range vcpus {
		l = append(l, opening(vcpu), dropping(vcpu), polling(vcpu))
	}
	return l
}

// noNums are numbers that no port has.
func noNums() []int {
	return []int{0, -1, -2, -32, math.MinInt, maxEnds + 1, maxEnds + 2, 64, 255, 256, 1 << 32, 1<<32 + 1, math.MaxInt}
}

// noVcpus are numbers that no virtual CPU has.
func noVcpus() []int {
	return []int{0, -1, -2, -16, math.MinInt, maxVcpus + 1, maxVcpus + 2, maxEnds, 256, 257, 1 << 32, 1<<32 + 1, math.MaxInt}
}

// chance tells numbers below n by a short rule, the same whenever it is asked anew.
func chance() func(n int) int {
	x := uint64(16)
	return func(n int) int {
		x = x*6364136223846793005 + 1442695040888963407
		return int((x >> 33) % uint64(n))
	}
}

// flags makes the port Pending and Masked by the bits of n.
func flags(x api.Port, n int) api.Port {
	x.Pending, x.Masked = n&1 != 0, n&2 != 0
	return x
}

// somePorts are such as may be.
func somePorts(next func(int) int) api.Ports {
	var b board
	most, part, vcpus := 1+next(maxEnds), 1+next(8), 1+next(maxVcpus)
	for num := 1; num <= most; num++ {
		if next(8) < part {
			b[num] = flags(free(num, 1+next(vcpus)), next(4))
		}
	}
	for range next(40) {
		x, y := 1+next(most), 1+next(most)
		if x != y && b.has(x) && b.has(y) && b[x].Peer == 0 && b[y].Peer == 0 {
			b[x].Peer, b[y].Peer = y, x
		}
	}
	return b.ports()
}

// four are ports that may be, with room for others between them: two that are linked, one alone, one of another virtual CPU.
func four() api.Ports {
	return ports(linked(free(2, 1), 9), free(5, 1), linked(free(9, 3), 2), free(20, 7))
}

// full are as many ports as there may be: each number below 17 is linked to the one that is 16 more.
func full() api.Ports {
	var p api.Ports
	for num := 1; num <= maxEnds; num++ {
		peer := num + 16
		if num > 16 {
			peer = num - 16
		}
		p.Rows = append(p.Rows, linked(flags(free(num, 1+num%maxVcpus), num/3), peer))
	}
	return p
}

// known are ports that may be: none, one, some, as many as there may be, at the bounds of numbers.
func known() []api.Ports {
	return []api.Ports{
		{}, {Rows: []api.Port{}}, ports(free(1, 1)), ports(free(maxEnds, maxVcpus)), ports(pending(free(1, maxVcpus))), ports(masked(pending(free(maxEnds, 1)))),
		ports(linked(free(1, 1), 2), linked(free(2, 1), 1)), ports(linked(free(1, 2), maxEnds), linked(free(maxEnds, 2), 1)),
		ports(linked(free(1, 1), 4), linked(free(2, 2), 3), linked(free(3, 3), 2), linked(free(4, 4), 1)), four(), full(),
	}
}

// many are ports that may be.
func many() []api.Ports {
	l := known()
	next := chance()
	for range 500 {
		l = append(l, somePorts(next))
	}
	return l
}

// noPorts are such as may not be.
func noPorts() []api.Ports {
	l := []api.Ports{
		ports(api.Port{}), ports(free(0, 1)), ports(free(1, 0)), ports(free(2, 1), free(1, 1)), ports(free(1, 1), free(1, 1)), ports(free(1, 1), free(1, 2)),
		ports(free(1, 1), free(2, 1), free(2, 1)), ports(free(1, 1), free(3, 1), free(2, 1)),
		ports(linked(free(1, 1), 1)), ports(linked(free(1, 1), 2)), ports(linked(free(1, 1), 2), free(2, 1)), ports(free(1, 1), linked(free(2, 1), 1)),
		ports(linked(free(1, 1), 2), linked(free(2, 1), 2)), ports(linked(free(1, 1), 1), linked(free(2, 1), 1)), ports(linked(free(1, 1), 1), linked(free(2, 1), 2)),
		ports(linked(free(1, 1), 2), linked(free(2, 1), 3), linked(free(3, 1), 1)), ports(linked(free(1, 1), 2), linked(free(2, 1), 1), linked(free(3, 1), 1)),
		ports(linked(free(1, 1), 3), linked(free(2, 1), 3), linked(free(3, 1), 2)), ports(linked(free(1, 1), 2), linked(free(2, 1), 1), linked(free(2, 1), 1)),
		ports(linked(free(1, 1), 2), linked(free(1, 1), 2), linked(free(2, 1), 1)), {Rows: make([]api.Port, 1<<16)},
		ports(append(full().Rows, free(maxEnds, 1))...), ports(append(full().Rows, free(maxEnds+1, 1))...), ports(append(full().Rows, free(1, 1))...),
	}
	for place, x := range four().Rows {
		for _, n := range noNums() {
			l = append(l, remade(four(), place, func(x *api.Port) { x.Num = n }))
			if n != 0 {
				l = append(l, remade(four(), place, func(x *api.Port) { x.Peer = n }))
			}
		}
		for _, n := range noVcpus() {
			l = append(l, remade(four(), place, func(x *api.Port) { x.Vcpu = n }))
		}
		for _, n := range []int{x.Num, 1, 3, 19, 21, 32} {
			l = append(l, remade(four(), place, func(x *api.Port) { x.Peer = n }))
		}
		for other, y := range four().Rows {
			if other != place {
				l = append(l, remade(four(), other, func(y *api.Port) { y.Num = x.Num }))
			}
			if x.Peer != y.Num {
				l = append(l, remade(four(), place, func(x *api.Port) { x.Peer = y.Num }))
			}
		}
	}
	return l
}

// gets asks Get for what the board has, of all numbers.
func gets(t *testing.T, p api.Ports) {
	t.Helper()
	b := boardOf(p)
	for num := range b {
		if x, there := event.Get(p, num); x != b[num] || there != b.has(num) {
			t.Errorf("Get(%v, %d): %v, %t; want %v, %t", p, num, x, there, b[num], b.has(num))
		}
	}
	for _, num := range noNums() {
		if x, there := event.Get(p, num); x != (api.Port{}) || there {
			t.Errorf("Get(%v, %d): %v, %t; want nothing", p, num, x, there)
		}
	}
}

// dueOf are the numbers of the ports that are due and bound to the virtual CPU.
func dueOf(p api.Ports, vcpu int) []int {
	var l []int
	b := boardOf(p)
	for num := range b {
		if b.due(num) && b[num].Vcpu == vcpu {
			l = append(l, num)
		}
	}
	return l
}

// tells asks Due, of all virtual CPUs and of numbers that are none.
func tells(t *testing.T, p api.Ports) {
	t.Helper()
	for vcpu := 1; vcpu <= maxVcpus; vcpu++ {
		if l, want := event.Due(p, vcpu), dueOf(p, vcpu); !slices.Equal(l, want) {
			t.Errorf("Due(%v, %d): %v; want %v", p, vcpu, l, want)
		}
	}
	for _, vcpu := range noVcpus() {
		if l := event.Due(p, vcpu); len(l) != 0 {
			t.Errorf("Due(%v, %d): %v; want nothing", p, vcpu, l)
		}
	}
}

// refused asks Check, Get and Due of ports that may not be.
func refused(t *testing.T, p api.Ports) {
	t.Helper()
	if no := event.Check(p); no != api.ErrPorts {
		t.Errorf("Check(%v): %d; want ErrPorts", p, no)
	}
	for n := -1; n <= maxEnds+1; n++ {
		if x, there := event.Get(p, n); x != (api.Port{}) || there {
			t.Errorf("Get(%v, %d): %v, %t; want nothing", p, n, x, there)
		}
		if l := event.Due(p, n); len(l) != 0 {
			t.Errorf("Due(%v, %d): %v; want nothing", p, n, l)
		}
	}
}

// checks asks Check whether ports may be, and, if they may not, the calls that answer no error.
func checks(t *testing.T, p api.Ports, may bool) {
	t.Helper()
	if !may {
		refused(t, p)
	} else if no := event.Check(p); no != api.OK {
		t.Errorf("Check(%v): %d; want OK", p, no)
	}
}

// P16.1: ports that may be, and such as may not.
func TestCheck(t *testing.T) {
	for _, p := range many() {
		if !mayBe(p) {
			t.Fatalf("%v may not be", p)
		}
		checks(t, p, true)
	}
	for _, p := range noPorts() {
		if mayBe(p) {
			t.Fatalf("%v may be", p)
		}
		checks(t, p, false)
	}
}

// P16.1 to P16.5: of ports that may not be all calls that answer an error answer ErrPorts ahead of all else, whatever they are handed besides.
func TestNoPorts(t *testing.T) {
	nums := []int{0, 1, 2, 5, 9, 20, 32, 33, -1}
	l := theirs(nums, []int{0, 1, 3, 7, 17, -1})
	l = append(l, polling(1, make([]int, 33)...))
	for _, p := range noPorts() {
		for _, a := range l {
			refuses(t, p, a, api.ErrPorts)
		}
	}
}

// P16.1: no ports, one, and so on to MaxEnds of them; and one more, whatever number it has.
func TestCheckOfHowMany(t *testing.T) {
	var p api.Ports
	for num := 1; num <= maxEnds; num++ {
		checks(t, p, true)
		p.Rows = append(p.Rows, free(num, 1))
	}
	checks(t, p, true)
	for num := -1; num <= maxEnds+2; num++ {
		checks(t, ports(append(slices.Clip(p.Rows), free(num, 1))...), false)
		checks(t, ports(append([]api.Port{free(num, 1)}, p.Rows...)...), false)
	}
}

// P16.1: each Num and each Vcpu, and those beyond, of one port and between others; Nums that do not rise.
func TestCheckOfNumbers(t *testing.T) {
	for n := -3; n <= maxEnds+3; n++ {
		checks(t, ports(free(n, 1)), 1 <= n && n <= maxEnds)
		checks(t, ports(free(1, n)), 1 <= n && n <= maxVcpus)
		checks(t, remade(four(), 1, func(x *api.Port) { x.Num = n }), 2 < n && n < 9)
		checks(t, remade(four(), 3, func(x *api.Port) { x.Num = n }), 9 < n && n <= maxEnds)
		for place := range four().Rows {
			checks(t, remade(four(), place, func(x *api.Port) { x.Vcpu = n }), 1 <= n && n <= maxVcpus)
		}
	}
	for _, n := range noNums() {
		checks(t, ports(free(n, 1)), false)
		checks(t, ports(free(1, 1), free(n, 1)), false)
		checks(t, ports(free(n, 1), free(32, 1)), false)
	}
	for _, n := range noVcpus() {
		checks(t, ports(free(1, n)), false)
		checks(t, ports(free(1, 1), free(2, n)), false)
		checks(t, ports(free(1, n), free(2, 1)), false)
	}
	plain := ports(free(1, 1), free(7, 1), free(8, 1), free(30, 1), free(32, 1))
	checks(t, plain, true)
	for place := range plain.Rows {
		for other := range plain.Rows {
			swapped := copied(plain)
			swapped.Rows[place], swapped.Rows[other] = swapped.Rows[other], swapped.Rows[place]
			checks(t, swapped, place == other)
			checks(t, remade(plain, place, func(x *api.Port) { x.Num = plain.Rows[other].Num }), place == other)
		}
	}
}

// P16.1: each Peer, and those beyond, of each of two, three, four ports.
func TestCheckOfPeers(t *testing.T) {
	for a := -1; a <= 4; a++ {
		checks(t, ports(linked(free(1, 1), a)), a == 0)
		for b := -1; b <= 4; b++ {
			checks(t, ports(linked(free(1, 1), a), linked(free(2, 1), b)), a == 0 && b == 0 || a == 2 && b == 1)
			for c := -1; c <= 4; c++ {
				p := ports(linked(free(1, 1), a), linked(free(2, 2), b), linked(free(3, 1), c))
				want := a == 0 && b == 0 && c == 0 || a == 2 && b == 1 && c == 0 || a == 3 && b == 0 && c == 1 || a == 0 && b == 3 && c == 2
				checks(t, p, want)
			}
		}
	}
	for place, x := range four().Rows {
		for peer := -3; peer <= maxEnds+3; peer++ {
			checks(t, remade(four(), place, func(x *api.Port) { x.Peer = peer }), peer == x.Peer)
		}
		for _, peer := range noNums() {
			checks(t, remade(four(), place, func(x *api.Port) { x.Peer = peer }), peer == x.Peer)
		}
	}
	for place, x := range full().Rows {
		for peer := range maxEnds + 2 {
			checks(t, remade(full(), place, func(x *api.Port) { x.Peer = peer }), peer == x.Peer)
		}
	}
}

// P16.1: ports of which a thing was made another one, held against another telling.
func TestCheckOfWhatWasMadeAnother(t *testing.T) {
	next := chance()
	seen := map[bool]int{}
	for _, p := range many() {
		for range 6 {
			c := copied(p)
			if len(c.Rows) > 0 {
				x := &c.Rows[next(len(c.Rows))]
				switch next(5) {
				case 0:
					x.Num += next(5) - 2
				case 1:
					x.Vcpu = next(maxVcpus+4) - 1
				case 2:
					x.Peer = next(maxEnds + 2)
				case 3:
					x.Peer = 0
				case 4:
					*x = flags(*x, next(4))
				}
			}
			may := mayBe(c)
			seen[may]++
			checks(t, c, may)
		}
	}
	if seen[true] < 500 || seen[false] < 500 {
		t.Errorf("%d might be, %d might not: too few to tell", seen[true], seen[false])
	}
}

// P16.1: Get of ports that are there and of numbers of none; Due of none, one, several.
func TestGetAndDue(t *testing.T) {
	for _, p := range many() {
		gets(t, p)
		tells(t, p)
	}
	for _, x := range []api.Port{free(3, 5), pending(free(3, 5)), masked(free(3, 5)), masked(pending(free(3, 5))), linked(free(3, 5), 4)} {
		p := ports(x)
		if x.Peer != 0 {
			p = ports(x, linked(free(4, 5), 3))
		}
		if got, there := event.Get(p, 3); got != x || !there {
			t.Errorf("Get(%v, 3): %v, %t; want %v", p, got, there, x)
		}
	}
}

// P16.1: known ports that are due: rising; not those that are masked, not pending, another's.
func TestDue(t *testing.T) {
	p := ports(pending(free(1, 2)), free(2, 1), masked(pending(free(3, 1))), pending(free(4, 1)), masked(free(5, 1)), pending(free(9, 1)), pending(free(10, 16)), pending(free(31, 1)), pending(free(32, 2)))
	for vcpu, want := range map[int][]int{1: {4, 9, 31}, 2: {1, 32}, 3: nil, 16: {10}, 0: nil, 17: nil, -1: nil} {
		if l := event.Due(p, vcpu); !slices.Equal(l, want) {
			t.Errorf("Due(%v, %d): %v; want %v", p, vcpu, l, want)
		}
	}
	if l := event.Due(api.Ports{}, 1); len(l) != 0 {
		t.Errorf("Due of no ports: %v", l)
	}
	var all api.Ports
	for num := 1; num <= maxEnds; num++ {
		all.Rows = append(all.Rows, pending(free(num, 8)))
	}
	if l := event.Due(all, 8); len(l) != maxEnds || !slices.IsSorted(l) {
		t.Errorf("Due(%v, 8): %v; want all, rising", all, l)
	}
}

// same asks Same of both, one way and the other one.
func same(t *testing.T, a, b api.Ports, want bool) {
	t.Helper()
	if got := event.Same(a, b); got != want {
		t.Errorf("Same(%v, %v): %t; want %t", a, b, got, want)
	}
	if got := event.Same(b, a); got != want {
		t.Errorf("Same(%v, %v): %t; want %t", b, a, got, want)
	}
}

// P16.1: Same of equal ones, and of ones that differ in a thing.
func TestSame(t *testing.T) {
	changes := []func(x *api.Port){
		func(x *api.Port) { x.Num++ },
		func(x *api.Port) { x.Vcpu++ },
		func(x *api.Port) { x.Peer++ },
		func(x *api.Port) { x.Pending = !x.Pending },
		func(x *api.Port) { x.Masked = !x.Masked },
	}
	for _, p := range many() {
		same(t, p, p, true)
		same(t, p, copied(p), true)
		same(t, p, ports(append(slices.Clip(p.Rows), free(32, 1))...), false)
		same(t, p, api.Ports{}, len(p.Rows) == 0)
		for place := range p.Rows {
			for _, change := range changes {
				same(t, p, remade(p, place, change), false)
			}
			same(t, p, ports(slices.Delete(slices.Clone(p.Rows), place, place+1)...), false)
			same(t, p, ports(p.Rows[:place]...), false)
		}
	}
	same(t, api.Ports{}, api.Ports{Rows: []api.Port{}}, true)
	same(t, ports(free(1, 1), free(2, 2)), ports(free(1, 2), free(2, 1)), false)
	same(t, ports(free(1, 1), pending(free(2, 1))), ports(pending(free(1, 1)), free(2, 1)), false)
	same(t, ports(pending(free(1, 1))), ports(masked(free(1, 1))), false)
}

// P16.1: Same of what may not be.
func TestSameOfWhatMayNotBe(t *testing.T) {
	l := noPorts()
	for i, p := range l {
		same(t, p, copied(p), true)
		same(t, p, four(), false)
		same(t, p, api.Ports{}, false)
		for _, other := range l[:min(i, 60)] {
			same(t, p, other, sameAsTold(p, other))
		}
	}
	same(t, ports(api.Port{}), api.Ports{}, false)
	same(t, ports(api.Port{}), ports(api.Port{}), true)
	same(t, ports(api.Port{}, api.Port{}), ports(api.Port{}), false)
}

// P16.2 to P16.5: all calls of all ports of up to three numbers, with all Peers and flags, of two virtual CPUs: what may be and what may not.
func TestSmallPorts(t *testing.T) {
	var lone []api.Port
	for vcpu := 1; vcpu <= 2; vcpu++ {
		for peer := 0; peer <= 3; peer++ {
			for n := range 4 {
				lone = append(lone, linked(flags(free(0, vcpu), n), peer))
			}
		}
	}
	lone = append(lone, api.Port{}) // none of that number
	calls := theirs([]int{0, 1, 2, 3, 4}, []int{1, 2, 3})
	checked, asked := 0, 0
	for _, x := range lone {
		for _, y := range lone {
			for _, z := range lone {
				var p api.Ports
				for i, at := range []api.Port{x, y, z} {
					if at.Num = i + 1; at.Vcpu != 0 {
						p.Rows = append(p.Rows, at)
					}
				}
				checked++
				may := mayBe(p)
				if event.Check(p) == api.OK != may {
					t.Errorf("Check(%v): %d; want %t", p, event.Check(p), may)
				}
				if !may {
					continue
				}
				asked++
				for _, a := range calls {
					asks(t, p, a)
				}
			}
		}
	}
	if checked != 33*33*33 || asked < 1000 {
		t.Errorf("%d were checked, %d asked", checked, asked)
	}
}

// P16.2 to P16.5: all calls of all ports, of numbers that they have and that they have not.
func TestAllCalls(t *testing.T) {
	next := chance()
	var vcpus []int
	for vcpu := 0; vcpu <= maxVcpus+1; vcpu++ {
		vcpus = append(vcpus, vcpu)
	}
	for i, p := range many() {
		nums := []int{0, 1, maxEnds, maxEnds + 1}
		for range 8 {
			nums = append(nums, 1+next(maxEnds))
			if len(p.Rows) > 0 {
				nums = append(nums, p.Rows[next(len(p.Rows))].Num)
			}
		}
		l := vcpus
		if i > 60 {
			l = []int{1 + next(maxVcpus), 1 + next(4)}
		}
		for _, a := range theirs(nums, l) {
			asks(t, p, a)
		}
	}
	for _, p := range known() {
		for _, a := range theirs(noNums(), noVcpus()) {
			asks(t, p, a)
		}
		for _, vcpu := range noVcpus() {
			for num := 1; num <= maxEnds; num++ {
				asks(t, p, binding(num, vcpu))
				asks(t, p, polling(vcpu, num))
			}
		}
		for _, num := range noNums() {
			for other := 1; other <= maxEnds; other++ {
				asks(t, p, linking(num, other))
				asks(t, p, linking(other, num))
				asks(t, p, polling(1, num, other))
				asks(t, p, polling(1, other, num))
			}
		}
	}
}

// P16.2: the first number, one between others that has been closed, the last; all else of the port is zero.
func TestOpen(t *testing.T) {
	wants(t, api.Ports{}, opening(1), answer{ports: ports(free(1, 1)), n: 1})
	wants(t, ports(free(2, 5)), opening(16), answer{ports: ports(free(1, 16), free(2, 5)), n: 1})
	wants(t, ports(free(1, 5)), opening(5), answer{ports: ports(free(1, 5), free(2, 5)), n: 2})
	wants(t, ports(free(1, 5), free(3, 5)), opening(2), answer{ports: ports(free(1, 5), free(2, 2), free(3, 5)), n: 2})
	wants(t, ports(free(1, 5), free(2, 5), free(4, 5), free(6, 5)), opening(1), answer{ports: ports(free(1, 5), free(2, 5), free(3, 1), free(4, 5), free(6, 5)), n: 3})
	rest := ports(pending(masked(linked(free(1, 1), 3))), pending(linked(free(3, 4), 1)))
	wants(t, rest, opening(4), answer{ports: ports(rest.Rows[0], free(2, 4), rest.Rows[1]), n: 2})
	var p api.Ports
	for num := 1; num <= maxEnds; num++ {
		got := asks(t, p, opening(1+num%maxVcpus))
		if got.no != api.OK || got.n != num {
			t.Errorf("Open of %v: %d, %d; want %d", p, got.n, got.no, num)
		}
		p = got.ports
	}
	refuses(t, p, opening(1), api.ErrFull)
	for num := 1; num <= maxEnds; num++ {
		left := asks(t, full(), closing(num)).ports
		got := asks(t, left, opening(3))
		if x, there := event.Get(got.ports, num); got.no != api.OK || got.n != num || x != free(num, 3) || !there {
			t.Errorf("Open where %d was closed: %v; want that port, and %v", num, got, free(num, 3))
		}
		refuses(t, got.ports, opening(3), api.ErrFull)
	}
}

// P16.2: ErrPorts, ErrArg, ErrFull, in that order.
func TestOpenNot(t *testing.T) {
	for _, vcpu := range noVcpus() {
		refuses(t, api.Ports{}, opening(vcpu), api.ErrArg)
		refuses(t, full(), opening(vcpu), api.ErrArg)
		refuses(t, ports(free(1, 1), free(1, 1)), opening(vcpu), api.ErrPorts)
	}
	refuses(t, full(), opening(1), api.ErrFull)
	refuses(t, full(), opening(16), api.ErrFull)
	refuses(t, remade(full(), 31, func(x *api.Port) { x.Peer = 0 }), opening(1), api.ErrPorts)
	refuses(t, ports(append(full().Rows, free(33, 1))...), opening(1), api.ErrPorts)
}

// P16.2: both Peers behind it; the rest is left as it was.
func TestLink(t *testing.T) {
	a, b, c := pending(free(1, 1)), masked(free(4, 1)), free(32, 2)
	p := ports(a, b, c)
	wants(t, p, linking(1, 4), answer{ports: ports(linked(a, 4), linked(b, 1), c)})
	wants(t, p, linking(4, 1), answer{ports: ports(linked(a, 4), linked(b, 1), c)})
	wants(t, p, linking(1, 32), answer{ports: ports(linked(a, 32), b, linked(c, 1))})
	wants(t, p, linking(32, 4), answer{ports: ports(a, linked(b, 32), linked(c, 4))})
	q := asks(t, asks(t, four(), opening(4)).ports, linking(1, 20)).ports
	wants(t, q, sending(1), answer{ports: remade(q, 4, func(x *api.Port) { x.Pending = true }), n: 7})
	wants(t, q, sending(20), answer{ports: remade(q, 0, func(x *api.Port) { x.Pending = true }), n: 4})
}

// P16.2: ErrPorts, ErrNone, ErrArg, ErrLink, in that order.
func TestLinkNot(t *testing.T) {
	p := ports(linked(free(1, 1), 2), linked(free(2, 1), 1), free(3, 1), free(5, 2))
	for _, num := range append(noNums(), 4, 6, 31, 32) {
		for _, other := range []int{1, 2, 3, 5} {
			refuses(t, p, linking(num, other), api.ErrNone)
			refuses(t, p, linking(other, num), api.ErrNone)
		}
		refuses(t, p, linking(num, num), api.ErrNone)
		refuses(t, p, linking(num, 7), api.ErrNone)
		refuses(t, p, linking(7, num), api.ErrNone)
		refuses(t, api.Ports{}, linking(num, num), api.ErrNone)
	}
	for _, num := range []int{1, 2, 3, 5} {
		refuses(t, p, linking(num, num), api.ErrArg)
	}
	for _, l := range [][2]int{{1, 2}, {2, 1}, {1, 3}, {3, 1}, {2, 5}, {5, 2}} {
		refuses(t, p, linking(l[0], l[1]), api.ErrLink)
	}
	twice := ports(free(3, 1), free(3, 1))
	for _, l := range [][2]int{{3, 3}, {3, 4}, {0, 0}} {
		refuses(t, twice, linking(l[0], l[1]), api.ErrPorts)
	}
}

// P16.2: of a port with a Peer and without one; what the other's Peer is behind it, whatever else it is.
func TestClose(t *testing.T) {
	a, b, c := masked(pending(free(2, 1))), pending(free(9, 3)), free(20, 7)
	p := ports(linked(a, 9), linked(b, 2), c)
	wants(t, p, closing(2), answer{ports: ports(b, c)})
	wants(t, p, closing(9), answer{ports: ports(a, c)})
	wants(t, p, closing(20), answer{ports: ports(linked(a, 9), linked(b, 2))})
	wants(t, ports(free(1, 1)), closing(1), answer{})
	for num := 1; num <= maxEnds; num++ {
		got := asks(t, full(), closing(num))
		if _, there := event.Get(got.ports, num); there || len(got.ports.Rows) != maxEnds-1 || got.no != api.OK {
			t.Errorf("Close(%v, %d): %v", full(), num, got)
		}
		peer := full().Rows[num-1].Peer
		if x, there := event.Get(got.ports, peer); x.Peer != 0 || !there {
			t.Errorf("Close(%v, %d): %d is %v; want it without a Peer", full(), num, peer, x)
		}
	}
	for _, num := range append(noNums(), 1, 3, 8, 10, 19, 21, 32) {
		refuses(t, p, closing(num), api.ErrNone)
		refuses(t, api.Ports{}, closing(num), api.ErrNone)
		refuses(t, ports(c, c), closing(num), api.ErrPorts)
	}
}

// P16.2: of none, one and several ports; of two that are linked with each other, and of one that is linked with another's.
func TestDrop(t *testing.T) {
	a, b, c, d, e := pending(free(1, 1)), free(4, 2), masked(pending(free(5, 2))), free(9, 3), masked(free(30, 2))
	for _, x := range []struct {
		p    api.Ports
		vcpu int
		left api.Ports
		n    int
	}{
		{api.Ports{}, 1, api.Ports{}, 0},
		{ports(a, b, c, d, e), 1, ports(b, c, d, e), 1},
		{ports(a, b, c, d, e), 2, ports(a, d), 3},
		{ports(a, b, c, d, e), 3, ports(a, b, c, e), 1},
		{ports(a, b, c, d, e), 4, ports(a, b, c, d, e), 0},
		{ports(a, b, c, d, e), 16, ports(a, b, c, d, e), 0},
		{ports(b, c, e), 2, api.Ports{}, 3},
		{ports(a, linked(b, 5), linked(c, 4), d, e), 2, ports(a, d), 3},
		{ports(a, linked(b, 30), c, d, linked(e, 4)), 2, ports(a, d), 3},
		{ports(a, linked(b, 5), linked(c, 4), d, e), 3, ports(a, linked(b, 5), linked(c, 4), e), 1},
		{ports(linked(a, 4), linked(b, 1), c, d, e), 2, ports(a, d), 3},
		{ports(linked(a, 4), linked(b, 1), c, d, e), 1, ports(b, c, d, e), 1},
		{ports(linked(a, 30), b, linked(c, 9), linked(d, 5), linked(e, 1)), 2, ports(a, d), 3},
		{ports(linked(a, 9), b, c, linked(d, 1), e), 2, ports(linked(a, 9), linked(d, 1)), 3},
	} {
		wants(t, x.p, dropping(x.vcpu), answer{ports: x.left, n: x.n})
	}
	for _, p := range many() {
		for vcpu := 1; vcpu <= maxVcpus; vcpu++ {
			got := asks(t, p, dropping(vcpu))
			wants(t, got.ports, dropping(vcpu), answer{ports: got.ports})
		}
		for _, vcpu := range noVcpus() {
			refuses(t, p, dropping(vcpu), api.ErrArg)
			refuses(t, ports(api.Port{}), dropping(vcpu), api.ErrPorts)
		}
	}
}

// wakings are ports of the virtual CPU 6, and whom it wakes that they come to be Pending.
func wakings() map[api.Port]int {
	x := free(4, 6)
	return map[api.Port]int{x: 6, pending(x): 0, masked(x): 0, masked(pending(x)): 0}
}

// P16.3: the Peer is Pending behind it, not the port itself; whom it wakes.
func TestSend(t *testing.T) {
	for x, woken := range wakings() {
		for n := range 4 {
			from := flags(free(7, 2), n)
			p := ports(free(3, 6), linked(x, 7), linked(from, 4))
			wants(t, p, sending(7), answer{ports: ports(free(3, 6), linked(pending(x), 7), linked(from, 4)), n: woken})
			own := ports(linked(x, 7), linked(flags(free(7, 6), n), 4))
			wants(t, own, sending(7), answer{ports: ports(linked(pending(x), 7), own.Rows[1]), n: woken})
		}
		refuses(t, ports(x), sending(4), api.ErrLink)
		refuses(t, ports(x, free(5, 6)), sending(4), api.ErrLink)
		refuses(t, ports(linked(x, 9), linked(free(9, 1), 4), free(10, 1)), sending(10), api.ErrLink)
	}
	for _, num := range append(noNums(), 1, 3, 8, 10, 19, 21, 32) {
		refuses(t, four(), sending(num), api.ErrNone)
		refuses(t, api.Ports{}, sending(num), api.ErrNone)
		refuses(t, ports(free(1, 1), linked(free(2, 1), 1)), sending(num), api.ErrPorts)
	}
}

// P16.3: the port itself is Pending behind it, with a Peer or without one; whom it wakes.
func TestRaise(t *testing.T) {
	for x, woken := range wakings() {
		for n := range 4 {
			other := flags(free(7, 2), n)
			wants(t, ports(x, other), raising(4), answer{ports: ports(pending(x), other), n: woken})
			wants(t, ports(linked(x, 7), linked(other, 4)), raising(4), answer{ports: ports(linked(pending(x), 7), linked(other, 4)), n: woken})
		}
	}
	for _, num := range append(noNums(), 1, 3, 8, 10, 19, 21, 32) {
		refuses(t, four(), raising(num), api.ErrNone)
		refuses(t, api.Ports{}, raising(num), api.ErrNone)
		refuses(t, ports(free(1, 1), linked(free(2, 1), 1)), raising(num), api.ErrPorts)
	}
}

// P16.4: whatever the port was, masked and unmasked; who is woken; twice is once.
func TestMask(t *testing.T) {
	x := free(4, 6)
	for _, c := range []struct {
		was   api.Port
		flag  bool
		is    api.Port
		woken int
	}{
		{x, true, masked(x), 0},
		{x, false, x, 0},
		{masked(x), true, masked(x), 0},
		{masked(x), false, x, 0},
		{pending(x), true, masked(pending(x)), 0},
		{pending(x), false, pending(x), 0},
		{masked(pending(x)), true, masked(pending(x)), 0},
		{masked(pending(x)), false, pending(x), 6},
	} {
		other := pending(masked(free(9, 1)))
		wants(t, ports(c.was, other), masking(4, c.flag), answer{ports: ports(c.is, other), n: c.woken})
		wants(t, ports(c.is, other), masking(4, c.flag), answer{ports: ports(c.is, other)})
		wants(t, ports(linked(c.was, 9), linked(other, 4)), masking(4, c.flag), answer{ports: ports(linked(c.is, 9), linked(other, 4)), n: c.woken})
	}
	for _, flag := range []bool{true, false} {
		for _, num := range append(noNums(), 1, 3, 8, 10, 19, 21, 32) {
			refuses(t, four(), masking(num, flag), api.ErrNone)
			refuses(t, api.Ports{}, masking(num, flag), api.ErrNone)
			refuses(t, ports(free(4, 1), free(4, 1)), masking(num, flag), api.ErrPorts)
		}
	}
}

// P16.4: to another virtual CPU and to the same, of a port that is due, masked, not pending; ErrPorts, ErrArg, ErrNone, in that order.
func TestBind(t *testing.T) {
	for n := range 4 {
		for _, peer := range []int{0, 9} {
			for vcpu := 1; vcpu <= maxVcpus; vcpu++ {
				was, is := linked(flags(free(4, 6), n), peer), linked(flags(free(4, vcpu), n), peer)
				other := linked(pending(free(9, 6)), peer/9*4)
				woken := 0
				if n == 1 && vcpu != 6 {
					woken = vcpu
				}
				wants(t, ports(was, other), binding(4, vcpu), answer{ports: ports(is, other), n: woken})
			}
		}
	}
	for _, vcpu := range noVcpus() {
		for _, num := range append(noNums(), 1, 2, 5, 9, 20, 21, 32) {
			refuses(t, four(), binding(num, vcpu), api.ErrArg)
			refuses(t, api.Ports{}, binding(num, vcpu), api.ErrArg)
			refuses(t, ports(linked(free(1, 1), 1)), binding(num, vcpu), api.ErrPorts)
		}
	}
	for vcpu := 1; vcpu <= maxVcpus; vcpu++ {
		for _, num := range append(noNums(), 1, 3, 8, 10, 19, 21, 32) {
			refuses(t, four(), binding(num, vcpu), api.ErrNone)
			refuses(t, api.Ports{}, binding(num, vcpu), api.ErrNone)
			refuses(t, ports(linked(free(1, 1), 1)), binding(num, vcpu), api.ErrPorts)
		}
	}
}

// P16.4: of a port that is pending, masked or not, and of one that is not.
func TestClear(t *testing.T) {
	for n := range 4 {
		for _, peer := range []int{0, 9} {
			was := linked(flags(free(4, 6), n), peer)
			other := linked(pending(free(9, 6)), peer/9*4)
			wants(t, ports(was, other), clearing(4), answer{ports: ports(linked(flags(free(4, 6), n&2), peer), other), is: n&1 != 0})
			wants(t, done(ports(was, other), clearing(4)).ports, clearing(4), answer{ports: ports(linked(flags(free(4, 6), n&2), peer), other)})
		}
	}
	for _, num := range append(noNums(), 1, 3, 8, 10, 19, 21, 32) {
		refuses(t, four(), clearing(num), api.ErrNone)
		refuses(t, api.Ports{}, clearing(num), api.ErrNone)
		refuses(t, ports(pending(free(4, 1)), free(4, 1)), clearing(num), api.ErrPorts)
	}
}

// polled are ports of the virtual CPUs 1 and 2: of each one that is not pending, one that is, one that is masked besides, one that is masked alone.
func polled() api.Ports {
	var p api.Ports
	for num := 1; num <= 8; num++ {
		p.Rows = append(p.Rows, flags(free(num, 1+(num-1)/4), num-1))
	}
	return p
}

// P16.5: whether one of them is Pending, masked or not, wherever it stands among them, once or twice.
func TestPoll(t *testing.T) {
	for _, c := range []struct {
		vcpu int
		nums []int
		want bool
	}{
		{1, []int{1}, false}, {1, []int{2}, true}, {1, []int{3}, false}, {1, []int{4}, true},
		{2, []int{5}, false}, {2, []int{6}, true}, {2, []int{7}, false}, {2, []int{8}, true},
		{1, []int{1, 3}, false}, {1, []int{3, 1}, false}, {1, []int{1, 1, 1}, false}, {1, []int{2, 2}, true},
		{1, []int{1, 2}, true}, {1, []int{2, 1}, true}, {1, []int{1, 3, 4}, true}, {1, []int{4, 3, 1}, true}, {1, []int{1, 4, 3}, true}, {1, []int{1, 2, 3, 4}, true},
	} {
		wants(t, polled(), polling(c.vcpu, c.nums...), answer{is: c.want})
	}
	var all api.Ports
	var nums []int
	for num := 1; num <= maxEnds; num++ {
		all.Rows = append(all.Rows, free(num, 16))
		nums = append(nums, num)
		wants(t, ports(free(num, 16)), polling(16, num), answer{})
		wants(t, ports(pending(free(num, 16))), polling(16, num), answer{is: true})
	}
	wants(t, all, polling(16, nums...), answer{})
	for place := range nums {
		one := remade(all, place, func(x *api.Port) { x.Pending = true })
		wants(t, one, polling(16, nums...), answer{is: true})
		without := slices.Delete(slices.Clone(nums), place, place+1)
		wants(t, one, polling(16, without...), answer{})
		wants(t, one, polling(16, append(without, without[0])...), answer{})
	}
}

// P16.5: ErrPorts; ErrArg for the virtual CPU and for how many; ErrNone; ErrArg for another's: in that order.
func TestPollNot(t *testing.T) {
	times := func(n, num int) []int { return slices.Repeat([]int{num}, n) }
	for _, vcpu := range noVcpus() {
		refuses(t, polled(), polling(vcpu), api.ErrArg)
		for num := 0; num <= 9; num++ {
			refuses(t, polled(), polling(vcpu, num), api.ErrArg)
			refuses(t, api.Ports{}, polling(vcpu, num), api.ErrArg)
		}
	}
	for vcpu := 1; vcpu <= maxVcpus; vcpu++ {
		refuses(t, polled(), polling(vcpu), api.ErrArg)
		refuses(t, api.Ports{}, polling(vcpu), api.ErrArg)
		refuses(t, api.Ports{}, ask{kind: askPoll, vcpu: vcpu, nums: []int{}}, api.ErrArg)
		for num := -1; num <= 10; num++ {
			refuses(t, polled(), polling(vcpu, times(33, num)...), api.ErrArg)
			refuses(t, polled(), polling(vcpu, times(70, num)...), api.ErrArg)
		}
	}
	wants(t, polled(), polling(1, times(32, 2)...), answer{is: true})
	wants(t, polled(), polling(1, times(32, 1)...), answer{})
	for _, num := range append(noNums(), 9, 10, 31, 32) {
		refuses(t, api.Ports{}, polling(1, num), api.ErrNone)
		refuses(t, polled(), polling(1, num), api.ErrNone)
		refuses(t, polled(), polling(1, times(32, num)...), api.ErrNone)
		refuses(t, polled(), polling(1, append(times(31, 2), num)...), api.ErrNone)
		refuses(t, polled(), polling(1, append(times(32, 2), num)...), api.ErrArg)
		for _, l := range [][]int{{2, num}, {num, 2}, {5, num}, {num, 5}, {6, num, 2}, {2, 6, num}, {num, 6, 2}} {
			refuses(t, polled(), polling(1, l...), api.ErrNone)
		}
	}
	for _, l := range [][]int{{5}, {6}, {8}, {2, 6}, {6, 2}, {1, 5}, {5, 1}, {2, 2, 8}, {1, 2, 3, 4, 5}} {
		refuses(t, polled(), polling(1, l...), api.ErrArg)
		refuses(t, polled(), polling(3, l...), api.ErrArg)
	}
}

// step is a call by chance, mostly one that the ports take.
func step(next func(int) int, p api.Ports) ask {
	a := ask{kind: next(10), num: next(maxEnds + 2), other: next(maxEnds + 2), vcpu: 1 + next(5), flag: next(2) == 0}
	if len(p.Rows) > 0 && next(8) > 0 {
		a.num, a.other = p.Rows[next(len(p.Rows))].Num, p.Rows[next(len(p.Rows))].Num
	}
	if next(20) == 0 {
		a.vcpu = next(maxVcpus + 2)
	}
	if a.kind == askDrop && next(3) > 0 {
		a.kind = askOpen
	}
	for range next(4) {
		a.nums = append(a.nums, 1+next(maxEnds))
	}
	return a
}

// P16.6: links go both ways behind every row of calls; what comes may be, and tells what another telling says.
func TestRowsOfCalls(t *testing.T) {
	next := chance()
	var seen [askPoll]int // Polls change nothing
	links := 0
	for range 150 {
		var p api.Ports
		for range 150 {
			a := step(next, p)
			got := asks(t, p, a)
			if got.no != api.OK || a.kind == askPoll {
				continue
			}
			seen[a.kind]++
			p = got.ports
			if !mayBe(p) {
				t.Fatalf("of %v came %v", a, p)
			}
			checks(t, p, true)
			for _, x := range p.Rows {
				peer, there := event.Get(p, x.Peer)
				if x.Peer != 0 {
					links++
				}
				if there != (x.Peer != 0) || there && (peer.Peer != x.Num || peer.Num == x.Num) {
					t.Errorf("of %v came %v: the Peer of %v is %v", a, p, x, peer)
				}
			}
		}
		gets(t, p)
		tells(t, p)
	}
	if slices.Min(seen[:askPoll]) < 100 || links < 1000 {
		t.Errorf("%v were done, %d linked: too few to tell", seen, links)
	}
}

// P16.6: what was sent is Pending till it is cleared, or its port is closed, whatever is done in between.
func TestPendingStays(t *testing.T) {
	next := chance()
	kept := 0
	for range 150 {
		var p api.Ports
		sent := map[int]int{}
		for range 200 {
			a := step(next, p)
			got := done(p, a)
			if got.no != api.OK || a.kind == askPoll {
				continue
			}
			switch a.kind {
			case askSend:
				x, _ := event.Get(p, a.num)
				sent[x.Peer]++
			case askRaise:
				sent[a.num]++
			case askClear:
				if got.is != (sent[a.num] > 0) {
					t.Errorf("Clear(%v, %d): %t; %d were sent", p, a.num, got.is, sent[a.num])
				}
				delete(sent, a.num)
			case askClose:
				delete(sent, a.num)
			case askDrop:
				for _, x := range p.Rows {
					if x.Vcpu == a.vcpu {
						delete(sent, x.Num)
					}
				}
			}
			p = got.ports
			for num := 1; num <= maxEnds; num++ {
				x, there := event.Get(p, num)
				if x.Pending != (sent[num] > 0) || sent[num] > 0 && !there {
					t.Errorf("behind %v: %v, %t; %d were sent", a, x, there, sent[num])
				}
			}
			kept += len(sent)
		}
	}
	if kept < 1000 {
		t.Errorf("%d were kept: too few to tell", kept)
	}
}

// woke tells whom a call says that it wakes; of a call that says nothing of it nobody.
func woke(a ask, got answer) int {
	switch a.kind {
	case askSend, askRaise, askMask, askBind:
		return got.n
	}
	return 0
}

// P16.6: whoever is woken has a port that is due then and was not, or was another's; by each port that comes to be due its virtual CPU is woken.
func TestWhoIsWoken(t *testing.T) {
	next := chance()
	woken, not := 0, 0
	for range 150 {
		var p api.Ports
		for range 200 {
			a := step(next, p)
			got := done(p, a)
			if got.no != api.OK || a.kind == askPoll {
				continue
			}
			var come []int
			for vcpu := 1; vcpu <= maxVcpus; vcpu++ {
				was := event.Due(p, vcpu)
				for _, num := range event.Due(got.ports, vcpu) {
					if !slices.Contains(was, num) {
						come = append(come, vcpu)
					}
				}
			}
			switch who := woke(a, got); {
			case len(come) > 1, len(come) == 1 && who != come[0], len(come) == 0 && who != 0:
				t.Errorf("%v of %v wakes %d; a port came to be due of %v", a, p, who, come)
			case who != 0:
				woken++
			default:
				not++
			}
			p = got.ports
		}
	}
	if woken < 500 || not < 500 {
		t.Errorf("%d were woken, %d times nobody: too few to tell", woken, not)
	}
}

// spoil makes all that the list has room for another port.
func spoil(l []api.Port) {
	l = l[:cap(l)]
	for i := range l {
		l[i] = api.Port{Num: -7, Vcpu: -7, Peer: -7, Pending: true, Masked: true}
	}
}

// spoilNums makes all that the list has room for another number.
func spoilNums(l []int) {
	l = l[:cap(l)]
	for i := range l {
		l[i] = -7
	}
}

// someAsks are calls of p, of each kind, of numbers that it has, as far as it has any.
func someAsks(next func(int) int, p api.Ports) []ask {
	var l []ask
	for kind := range 10 {
		for range 3 {
			a := step(next, p)
			a.kind = kind
			if len(p.Rows) > 0 {
				x := p.Rows[next(len(p.Rows))]
				a.nums = append(a.nums, x.Num)
				if next(2) == 0 {
					a.nums, a.vcpu = []int{x.Num, x.Num}, x.Vcpu
				}
			}
			l = append(l, a)
		}
	}
	return l
}

// P16.2, R3: no call changes the ports that it is handed, nor what stands behind their end; and that does not count.
func TestNothingIsChanged(t *testing.T) {
	next := chance()
	more := []api.Port{pending(free(32, 1)), free(1, 1), linked(free(-4, -5), 2)}
	for _, p := range append(many(), noPorts()...) {
		whole := append(slices.Clip(p.Rows), more...)
		given := ports(slices.Clone(whole)[:len(p.Rows)]...)
		for _, a := range someAsks(next, p) {
			nums := append(slices.Clip(a.nums), 5, -7, 40)
			b := a
			b.nums = slices.Clone(nums)[:len(a.nums)]
			if got, want := done(given, b), done(copied(p), a); !sameAnswer(got, want) {
				t.Errorf("%v of %v: what is behind the end counts: %v; want %v", a, p, got, want)
			}
			if !slices.Equal(b.nums[:len(nums)], nums) {
				t.Errorf("of the numbers %v came %v", nums, b.nums[:len(nums)])
			}
		}
		event.Check(given)
		event.Same(given, given)
		event.Get(given, 1)
		event.Due(given, 1)
		if !sameAsTold(ports(given.Rows[:len(whole)]...), ports(whole...)) {
			t.Errorf("of %v came %v, and behind it %v", p, given, given.Rows[len(p.Rows):len(whole)])
		}
	}
}

// P16.2, R3: what is answered is new memory: no part of what was handed in; and what is handed in is not kept.
func TestAnswersAreNewMemory(t *testing.T) {
	next := chance()
	for _, p := range many() {
		for _, a := range someAsks(next, p) {
			given, want := copied(p), done(p, a)
			spoil(done(given, a).ports.Rows)
			if !sameAsTold(given, p) {
				t.Errorf("%v of %v: what is answered shares memory: %v", a, p, given)
			}
			got := done(given, a)
			spoil(given.Rows)
			if !sameAnswer(got, want) {
				t.Errorf("%v of %v: what was handed in is kept: %v; want %v", a, p, got, want)
			}
		}
		for vcpu := 1; vcpu <= maxVcpus; vcpu++ {
			given := copied(p)
			l := event.Due(given, vcpu)
			spoil(given.Rows)
			if !slices.Equal(l, dueOf(p, vcpu)) {
				t.Errorf("Due(%v, %d): what was handed in is kept: %v", p, vcpu, l)
			}
			spoilNums(l)
			if l = event.Due(p, vcpu); !slices.Equal(l, dueOf(p, vcpu)) {
				t.Errorf("Due(%v, %d): what is answered is kept: %v", p, vcpu, l)
			}
		}
	}
}

// R1: each call ends, whatever it is handed.
func TestWhateverIsHandedIn(t *testing.T) {
	numbers := []int{math.MinInt, -33, -1, 0, 1, 2, 16, 17, 32, 33, math.MaxInt}
	for _, n := range numbers {
		for _, m := range numbers {
			for _, peer := range numbers {
				p := ports(linked(free(n, m), peer), linked(free(m, n), peer))
				checks(t, p, mayBe(p))
				q := ports(linked(free(1, 1), peer), linked(free(2, 1), n))
				checks(t, q, mayBe(q))
				for kind := range 10 {
					a := ask{kind: kind, num: n, other: m, vcpu: peer, nums: []int{n, m, peer}}
					asks(t, p, a)
					asks(t, q, a)
					asks(t, ports(free(1, 1), free(2, 1)), a)
				}
			}
		}
	}
}

// The chapter's examples.
func TestExamples(t *testing.T) {
	var p api.Ports
	does := func(a ask, n int, is bool, no api.Errno) {
		t.Helper()
		got := asks(t, p, a)
		if got.n != n || got.is != is || got.no != no {
			t.Errorf("%v of %v: %v; want %d, %t, %d", a, p, got, n, is, no)
		}
		if no == api.OK && a.kind != askPoll {
			p = got.ports
		}
	}
	does(opening(1), 1, false, api.OK)
	does(opening(2), 2, false, api.OK)
	does(sending(1), 0, false, api.ErrLink)
	does(linking(1, 2), 0, false, api.OK)
	does(linking(1, 2), 0, false, api.ErrLink)
	does(sending(1), 2, false, api.OK)
	does(sending(1), 0, false, api.OK)
	if l := event.Due(p, 2); !slices.Equal(l, []int{2}) {
		t.Errorf("Due(%v, 2): %v; want 2", p, l)
	}
	does(polling(2, 2), 0, true, api.OK)
	does(clearing(2), 0, true, api.OK)
	does(masking(2, true), 0, false, api.OK)
	does(sending(1), 0, false, api.OK)
	does(masking(2, false), 2, false, api.OK)
	does(binding(2, 3), 3, false, api.OK)
	does(closing(1), 0, false, api.OK)
	if x, there := event.Get(p, 2); x != pending(free(2, 3)) || !there {
		t.Errorf("Get(%v, 2): %v, %t; want it without a Peer", p, x, there)
	}
	does(dropping(3), 1, false, api.OK)
	if len(p.Rows) != 0 || api.ErrPorts != 260 || api.ErrLink != 261 {
		t.Errorf("left are %v", p)
	}
}
