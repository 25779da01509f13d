package topo_test

import (
	"bytes"
	"fmt"
	"math"
	"slices"
	"testing"

	"mainsheet/api"
	"mainsheet/topo"
)

// The limits, as the document says them.
const (
	maxCpus    = 8
	maxSockets = 4
	maxCores   = 8
)

// of is the topology of these seats, each a Socket and a Core.
func of(seats ...[2]int) api.Topo {
	var t api.Topo
	for _, s := range seats {
		t.Seats = append(t.Seats, api.Seat{Socket: s[0], Core: s[1]})
	}
	return t
}

// seats are all that may be.
func seats() [][2]int {
	var l [][2]int
	for socket := range maxSockets {
		for core := range maxCores {
			l = append(l, [2]int{socket, core})
		}
	}
	return l
}

// noSeats are some that may not be: with a Socket, a Core, or both, that are none.
func noSeats() [][2]int {
	var l [][2]int
	for _, no := range []int{math.MinInt, -1 << 32, -256, -1, 8, 9, 256, 1 << 32, math.MaxInt} {
		l = append(l, [2]int{no, 0}, [2]int{no, 7}, [2]int{0, no}, [2]int{3, no}, [2]int{no, no})
	}
	for socket := 4; socket < 8; socket++ {
		l = append(l, [2]int{socket, 0}, [2]int{socket, 7})
	}
	return l
}

// made are topologies of all lengths, their seats told by a short rule, so that some are near to one another and some far.
func made() []api.Topo {
	x := uint64(1)
	next := func(n int) int {
		x = x*6364136223846793005 + 1442695040888963407
		return int(x >> 33 % uint64(n))
	}
	var l []api.Topo
	for round := range 160 {
		var t api.Topo
		sockets, cores := 1+round%maxSockets, 1+next(maxCores)
		for range 1 + round%maxCpus {
			t.Seats = append(t.Seats, api.Seat{Socket: next(sockets), Core: next(cores)})
		}
		l = append(l, t)
	}
	return l
}

// topos are some that may be.
func topos() []api.Topo {
	var l []api.Topo
	for _, s := range seats() {
		l = append(l, of(s), of(s, s), of(s, [2]int{0, 0}), of([2]int{3, 7}, s), of(slices.Repeat([][2]int{s}, maxCpus)...))
	}
	for n := range maxCpus {
		t, _ := topo.Flat(n + 1)
		l = append(l, t)
	}
	for _, c := range [][3]int{{2, 1, 2}, {2, 2, 2}, {4, 2, 1}, {4, 1, 2}, {1, 8, 1}, {1, 1, 8}, {1, 4, 2}, {2, 4, 1}, {3, 1, 2}, {1, 3, 2}} {
		t, _ := topo.Regular(c[0], c[1], c[2])
		l = append(l, t)
	}
	l = append(l,
		of([2]int{0, 0}, [2]int{1, 0}, [2]int{0, 0}, [2]int{1, 0}, [2]int{0, 1}, [2]int{1, 1}, [2]int{0, 1}, [2]int{1, 1}),
		of([2]int{3, 7}, [2]int{2, 7}, [2]int{1, 7}, [2]int{0, 7}, [2]int{0, 6}, [2]int{1, 6}, [2]int{2, 6}, [2]int{3, 6}),
		of([2]int{2, 3}, [2]int{0, 3}, [2]int{2, 5}, [2]int{2, 3}, [2]int{0, 5}),
		of([2]int{3, 0}, [2]int{3, 0}, [2]int{1, 0}),
	)
	return append(l, made()...)
}

// noTopos are some that may not be: of none, of too many, with a seat that is none in the first, in a middle, in the last place.
func noTopos() []api.Topo {
	l := []api.Topo{
		{}, {Seats: []api.Seat{}}, {Seats: make([]api.Seat, 0, 4)},
		{Seats: make([]api.Seat, 9)}, {Seats: make([]api.Seat, 10)}, {Seats: make([]api.Seat, 16)}, {Seats: make([]api.Seat, 256)}, {Seats: make([]api.Seat, 257)},
		of(append(seats()[:8], [2]int{-1, 0})...),
	}
	for _, no := range noSeats() {
		l = append(l, of(no), of(no, no), of(no, [2]int{3, 7}), of([2]int{3, 7}, no), of([2]int{0, 0}, no, [2]int{1, 1}))
		for _, place := range []int{0, 3, 7} {
			l = append(l, of(slices.Replace(seats()[:8], place, place+1, no)...))
		}
	}
	return l
}

// noCpus are numbers that a topology of n pCPUs has none of.
func noCpus(n int) []int {
	l := []int{math.MinInt, -1 << 32, -256, -n - 1, -n, -1, maxCpus, 9, 31, 32, 64, 255, 256, 1 << 32, 1<<62 + 1, math.MaxInt}
	for cpu := n; cpu < maxCpus; cpu++ {
		l = append(l, cpu)
	}
	return l
}

// noSets are some that may not be: with bits that no pCPU has.
func noSets() []api.Cpus {
	var l []api.Cpus
	for _, more := range []api.Cpus{256, 512, 1 << 15, 1 << 31, math.MaxUint32 &^ 255} {
		for _, s := range []api.Cpus{0, 1, 15, 170, 255} {
			l = append(l, s|more)
		}
	}
	return l
}

// powers is the sum of the powers of two of those that it holds of, among the first n numbers.
func powers(n int, holds func(cpu int) bool) api.Cpus {
	var sum, power api.Cpus = 0, 1
	for cpu := range n {
		if holds(cpu) {
			sum += power
		}
		power *= 2
	}
	return sum
}

// far is how far two pCPUs are, as the chapter tells it: each thing that they share brings them nearer by one.
func far(t api.Topo, a, b int) int {
	d := 3
	if t.Seats[a].Socket == t.Seats[b].Socket {
		d--
		if t.Seats[a].Core == t.Seats[b].Core {
			d--
			if a == b {
				d--
			}
		}
	}
	return d
}

// nearest are those in among that t has, distance by distance.
func nearest(t api.Topo, cpu int, among api.Cpus) []int {
	var l []int
	for d := range 4 {
		for other := range t.Seats {
			if among>>other%2 == 1 && far(t, cpu, other) == d {
				l = append(l, other)
			}
		}
	}
	return l
}

// asked names a call and its arguments.
func asked(name string, args ...any) string {
	return fmt.Sprintf("%s%v", name, args)
}

// is asks for a topology that may be, and no error.
func is(t *testing.T, where string, want api.Topo) func(api.Topo, api.Errno) {
	return func(got api.Topo, no api.Errno) {
		t.Helper()
		if !slices.Equal(got.Seats, want.Seats) || no != api.OK {
			t.Errorf("%s: %v, %d; want %v, OK", where, got, no, want)
		}
	}
}

// refused asks for an error, and no topology.
func refused(t *testing.T, where string, want api.Errno) func(api.Topo, api.Errno) {
	return func(got api.Topo, no api.Errno) {
		t.Helper()
		if len(got.Seats) != 0 || no != want {
			t.Errorf("%s: %v, %d; want nothing, %d", where, got, no, want)
		}
	}
}

// dist asks for a distance, and an error.
func dist(t *testing.T, where string, want int, wantNo api.Errno) func(int, api.Errno) {
	return func(d int, no api.Errno) {
		t.Helper()
		if d != want || no != wantNo {
			t.Errorf("%s: %d, %d; want %d, %d", where, d, no, want, wantNo)
		}
	}
}

// near asks for a list, and an error.
func near(t *testing.T, where string, wantNo api.Errno, want ...int) func([]int, api.Errno) {
	return func(l []int, no api.Errno) {
		t.Helper()
		if !slices.Equal(l, want) || no != wantNo {
			t.Errorf("%s: %v, %d; want %v, %d", where, l, no, want, wantNo)
		}
	}
}

// laid asks for bytes, and an error.
func laid(t *testing.T, where string, wantNo api.Errno, want ...byte) func([]byte, api.Errno) {
	return func(b []byte, no api.Errno) {
		t.Helper()
		if !bytes.Equal(b, want) || no != wantNo {
			t.Errorf("%s: %v, %d; want %v, %d", where, b, no, want, wantNo)
		}
	}
}

// P6.1: no pCPU, one, all that there may be, one more; seats at their bounds and beyond them, in each place.
func TestCheck(t *testing.T) {
	for n := range 20 {
		want := api.OK
		if n < 1 || n > 8 {
			want = api.ErrTopo
		}
		if no := topo.Check(api.Topo{Seats: make([]api.Seat, n)}); no != want {
			t.Errorf("Check of %d pCPUs: %d; want %d", n, no, want)
		}
	}
	for n := 1; n <= 8; n++ {
		for place := range n {
			for socket := -3; socket < 12; socket++ {
				for core := -3; core < 12; core++ {
					want := api.ErrTopo
					if 0 <= socket && socket <= 3 && 0 <= core && core <= 7 {
						want = api.OK
					}
					x := api.Topo{Seats: make([]api.Seat, n)}
					x.Seats[place] = api.Seat{Socket: socket, Core: core}
					if no := topo.Check(x); no != want {
						t.Errorf("Check(%v): %d; want %d", x, no, want)
					}
				}
			}
		}
	}
	for _, x := range topos() {
		if no := topo.Check(x); no != api.OK {
			t.Errorf("Check(%v): %d; want OK", x, no)
		}
	}
	for _, x := range noTopos() {
		if no := topo.Check(x); no != api.ErrTopo {
			t.Errorf("Check(%v): %d; want ErrTopo", x, no)
		}
	}
	for _, n := range []int{100000, 1 << 16, 1<<16 + 1, 1 << 20} {
		if no := topo.Check(api.Topo{Seats: make([]api.Seat, n)}); no != api.ErrTopo {
			t.Errorf("Check of %d pCPUs: %d; want ErrTopo", n, no)
		}
	}
}

// P6.1: from one pCPU to all that there may be; none, fewer than none, one more, very many.
func TestFlat(t *testing.T) {
	is(t, "Flat(1)", of([2]int{0, 0}))(topo.Flat(1))
	is(t, "Flat(3)", of([2]int{0, 0}, [2]int{0, 1}, [2]int{0, 2}))(topo.Flat(3))
	is(t, "Flat(8)", of(seats()[:8]...))(topo.Flat(8))
	for n := 1; n <= 8; n++ {
		is(t, asked("Flat", n), of(seats()[:n]...))(topo.Flat(n))
	}
	for _, n := range []int{math.MinInt, -1 << 62, -1 << 32, -8, -1, 0, 9, 10, 64, 256, 257, 1 << 32, 1<<32 + 1, 1 << 62, math.MaxInt} {
		refused(t, asked("Flat", n), api.ErrArg)(topo.Flat(n))
	}
}

// P6.1: regular ones, written out by hand.
func TestRegularOfKnownNumbers(t *testing.T) {
	for _, c := range []struct {
		sockets, cores, threads int
		want                    api.Topo
	}{
		{1, 1, 1, of([2]int{0, 0})},
		{2, 1, 2, of([2]int{0, 0}, [2]int{0, 0}, [2]int{1, 0}, [2]int{1, 0})},
		{2, 2, 1, of([2]int{0, 0}, [2]int{0, 1}, [2]int{1, 0}, [2]int{1, 1})},
		{1, 2, 3, of([2]int{0, 0}, [2]int{0, 0}, [2]int{0, 0}, [2]int{0, 1}, [2]int{0, 1}, [2]int{0, 1})},
		{3, 2, 1, of([2]int{0, 0}, [2]int{0, 1}, [2]int{1, 0}, [2]int{1, 1}, [2]int{2, 0}, [2]int{2, 1})},
		{2, 2, 2, of([2]int{0, 0}, [2]int{0, 0}, [2]int{0, 1}, [2]int{0, 1}, [2]int{1, 0}, [2]int{1, 0}, [2]int{1, 1}, [2]int{1, 1})},
		{4, 2, 1, of([2]int{0, 0}, [2]int{0, 1}, [2]int{1, 0}, [2]int{1, 1}, [2]int{2, 0}, [2]int{2, 1}, [2]int{3, 0}, [2]int{3, 1})},
		{4, 1, 2, of([2]int{0, 0}, [2]int{0, 0}, [2]int{1, 0}, [2]int{1, 0}, [2]int{2, 0}, [2]int{2, 0}, [2]int{3, 0}, [2]int{3, 0})},
		{1, 8, 1, of(seats()[:8]...)},
		{1, 1, 8, of(slices.Repeat([][2]int{{0, 0}}, 8)...)},
		{4, 1, 1, of([2]int{0, 0}, [2]int{1, 0}, [2]int{2, 0}, [2]int{3, 0})},
	} {
		is(t, asked("Regular", c.sockets, c.cores, c.threads), c.want)(topo.Regular(c.sockets, c.cores, c.threads))
	}
}

// P6.1: all numbers below, at and above their bounds, together: those whose product is just that of all pCPUs, and more; what comes is the only one with its seats in order, and so many threads of each core.
func TestRegular(t *testing.T) {
	for sockets := -2; sockets <= 10; sockets++ {
		for cores := -2; cores <= 10; cores++ {
			for threads := -2; threads <= 10; threads++ {
				where := asked("Regular", sockets, cores, threads)
				may := 1 <= sockets && sockets <= 4 && 1 <= cores && cores <= 8 && 1 <= threads && threads <= 8 && sockets*cores*threads <= 8
				if !may {
					refused(t, where, api.ErrArg)(topo.Regular(sockets, cores, threads))
					continue
				}
				var want api.Topo
				for cpu := range sockets * cores * threads {
					want.Seats = append(want.Seats, api.Seat{Socket: cpu / threads / cores, Core: cpu / threads % cores})
				}
				is(t, where, want)(topo.Regular(sockets, cores, threads))
			}
		}
	}
}

// P6.1: numbers whose product goes round, to what would be few, or to 0; each of the three is refused though the others make it none or less.
func TestRegularOfGreatNumbers(t *testing.T) {
	few := []int{math.MinInt, -1 << 62, -1 << 32, -1, 0, 1, 2, 4, 8}
	for _, great := range []int{9, 16, 256, 257, 1 << 16, 1 << 31, 1 << 32, 1<<32 + 1, 1 << 61, 1<<61 + 1, 1 << 62, 1<<62 + 1, math.MaxInt} {
		for _, a := range append(few, great) {
			for _, b := range append(few, great) {
				refused(t, asked("Regular", great, a, b), api.ErrArg)(topo.Regular(great, a, b))
				refused(t, asked("Regular", a, great, b), api.ErrArg)(topo.Regular(a, great, b))
				refused(t, asked("Regular", a, b, great), api.ErrArg)(topo.Regular(a, b, great))
			}
		}
	}
	refused(t, "Regular(-2, -2, 2)", api.ErrArg)(topo.Regular(-2, -2, 2))
	refused(t, "Regular(-1, -1, 1)", api.ErrArg)(topo.Regular(-1, -1, 1))
	refused(t, "Regular(5, 1, 1)", api.ErrArg)(topo.Regular(5, 1, 1))
	refused(t, "Regular(8, 1, 1)", api.ErrArg)(topo.Regular(8, 1, 1))
}

// P6.1: topologies that differ in length, in one Socket, in one Core; of none; those that may not be, too, seat by seat.
func TestSame(t *testing.T) {
	l := append(topos(), noTopos()...)
	for _, a := range l {
		for _, b := range l {
			if same := topo.Same(a, b); same != slices.Equal(a.Seats, b.Seats) {
				t.Errorf("Same(%v, %v): %v", a, b, same)
			}
		}
		n := len(a.Seats)
		if !topo.Same(a, api.Topo{Seats: slices.Clone(a.Seats)}) {
			t.Errorf("Same(%v, a copy): false", a)
		}
		for _, more := range []api.Seat{{}, {Socket: 3, Core: 7}, {Socket: -1}} {
			longer := api.Topo{Seats: append(slices.Clone(a.Seats), more)}
			if topo.Same(a, longer) || topo.Same(longer, a) {
				t.Errorf("Same(%v, %v): true", a, longer)
			}
		}
		for place := range min(n, 8) {
			for _, by := range []api.Seat{{Socket: 1}, {Socket: -1}, {Core: 1}, {Core: -1}, {Socket: 1, Core: -1}} {
				other := api.Topo{Seats: slices.Clone(a.Seats)}
				other.Seats[place].Socket += by.Socket
				other.Seats[place].Core += by.Core
				if topo.Same(a, other) || topo.Same(other, a) {
					t.Errorf("Same of what differs at %d by %v from %v: true", place, by, a)
				}
			}
		}
	}
	if !topo.Same(api.Topo{}, api.Topo{Seats: []api.Seat{}}) || !topo.Same(api.Topo{}, api.Topo{}) {
		t.Error("Same of none and none: false")
	}
	if topo.Same(of([2]int{0, 1}, [2]int{1, 0}), of([2]int{1, 0}, [2]int{0, 1})) || topo.Same(of([2]int{0, 1}), of([2]int{1, 0})) {
		t.Error("Same of what was changed round: true")
	}
}

// P6.2: all pCPUs; those of each socket, those without pCPUs among them, and of numbers that no socket has.
func TestAllAndSocket(t *testing.T) {
	for n, want := range []api.Cpus{1, 3, 7, 15, 31, 63, 127, 255} {
		if s := topo.All(api.Topo{Seats: make([]api.Seat, n+1)}); s != want {
			t.Errorf("All of %d pCPUs: %d; want %d", n+1, s, want)
		}
	}
	for _, x := range topos() {
		if s := topo.All(x); s != powers(len(x.Seats), func(int) bool { return true }) {
			t.Errorf("All(%v): %d", x, s)
		}
		for _, socket := range []int{math.MinInt, -1 << 32, -256, -4, -1, 0, 1, 2, 3, 4, 5, 8, 256, 1 << 32, math.MaxInt} {
			want := powers(len(x.Seats), func(cpu int) bool { return x.Seats[cpu].Socket == socket })
			if s := topo.Socket(x, socket); s != want {
				t.Errorf("Socket(%v, %d): %d; want %d", x, socket, s, want)
			}
		}
	}
}

// P6.2: sockets whose pCPUs are written out by hand.
func TestSocketOfKnownTopologies(t *testing.T) {
	x := of([2]int{3, 0}, [2]int{0, 0}, [2]int{3, 7}, [2]int{0, 7}, [2]int{1, 0}, [2]int{3, 0})
	for socket, want := range map[int]api.Cpus{-1: 0, 0: 10, 1: 16, 2: 0, 3: 37, 4: 0, 7: 0} {
		if s := topo.Socket(x, socket); s != want {
			t.Errorf("Socket(%v, %d): %d; want %d", x, socket, s, want)
		}
	}
	if s := topo.All(x); s != 63 {
		t.Errorf("All(%v): %d; want 63", x, s)
	}
}

// P6.2: each pCPU's siblings: threads of one core, itself among them; none of a number that it has none of.
func TestSiblings(t *testing.T) {
	for _, x := range topos() {
		for cpu := range x.Seats {
			want := powers(len(x.Seats), func(other int) bool {
				return x.Seats[other].Socket == x.Seats[cpu].Socket && x.Seats[other].Core == x.Seats[cpu].Core
			})
			if s := topo.Siblings(x, cpu); s != want {
				t.Errorf("Siblings(%v, %d): %d; want %d", x, cpu, s, want)
			}
		}
		for _, no := range noCpus(len(x.Seats)) {
			if s := topo.Siblings(x, no); s != 0 {
				t.Errorf("Siblings(%v, %d): %d; want 0", x, no, s)
			}
		}
	}
}

// P6.2: siblings written out by hand: one Core number in unlike Sockets is no core, one Socket neither.
func TestSiblingsOfKnownTopologies(t *testing.T) {
	x := of([2]int{0, 2}, [2]int{1, 2}, [2]int{0, 2}, [2]int{0, 1}, [2]int{1, 2}, [2]int{2, 1}, [2]int{2, 0}, [2]int{0, 2})
	for cpu, want := range []api.Cpus{133, 18, 133, 8, 18, 32, 64, 133} {
		if s := topo.Siblings(x, cpu); s != want {
			t.Errorf("Siblings(%v, %d): %d; want %d", x, cpu, s, want)
		}
	}
	for cpu, want := range map[int]api.Cpus{-1: 0, 0: 1, 1: 2, 2: 0} {
		if s := topo.Siblings(of([2]int{1, 0}, [2]int{0, 1}), cpu); s != want {
			t.Errorf("Siblings of two, %d: %d; want %d", cpu, s, want)
		}
	}
}

// P6.2: of what may not be the empty set, whatever is asked for.
func TestSetsOfWhatMayNotBe(t *testing.T) {
	for _, x := range noTopos() {
		if s := topo.All(x); s != 0 {
			t.Errorf("All(%v): %d; want 0", x, s)
		}
		for n := -2; n < 10; n++ {
			if s := topo.Socket(x, n); s != 0 {
				t.Errorf("Socket(%v, %d): %d; want 0", x, n, s)
			}
			if s := topo.Siblings(x, n); s != 0 {
				t.Errorf("Siblings(%v, %d): %d; want 0", x, n, s)
			}
		}
		for _, n := range append(noCpus(len(x.Seats)), len(x.Seats)-1) {
			if topo.Socket(x, n) != 0 || topo.Siblings(x, n) != 0 {
				t.Errorf("of %d in %v there is a set", n, x)
			}
		}
	}
}

// P6.3: each of the four distances, written out by hand.
func TestDistOfKnownTopologies(t *testing.T) {
	x := of([2]int{0, 0}, [2]int{0, 0}, [2]int{0, 1}, [2]int{1, 0}, [2]int{1, 1}, [2]int{1, 0})
	for a, row := range [][]int{
		{0, 1, 2, 3, 3, 3},
		{1, 0, 2, 3, 3, 3},
		{2, 2, 0, 3, 3, 3},
		{3, 3, 3, 0, 2, 1},
		{3, 3, 3, 2, 0, 2},
		{3, 3, 3, 1, 2, 0},
	} {
		for b, want := range row {
			dist(t, asked("Dist", a, b), want, api.OK)(topo.Dist(x, a, b))
		}
	}
}

// P6.3: each pCPU to each; those that are none, in either place and in both.
func TestDist(t *testing.T) {
	for _, x := range topos() {
		for a := range x.Seats {
			for b := range x.Seats {
				dist(t, asked("Dist", x, a, b), far(x, a, b), api.OK)(topo.Dist(x, a, b))
			}
		}
		last := len(x.Seats) - 1
		for _, no := range noCpus(len(x.Seats)) {
			for _, cpu := range []int{0, last, no, -1, last + 1} {
				dist(t, asked("Dist", x, no, cpu), 0, api.ErrArg)(topo.Dist(x, no, cpu))
				dist(t, asked("Dist", x, cpu, no), 0, api.ErrArg)(topo.Dist(x, cpu, no))
			}
		}
	}
}

// P6.3: a topology that may not be is refused ahead of a pCPU that is none of it.
func TestDistOfWhatMayNotBe(t *testing.T) {
	for _, x := range noTopos() {
		for _, a := range []int{-1, 0, 1, len(x.Seats) - 1, len(x.Seats), math.MaxInt} {
			for _, b := range []int{-1, 0, 1, len(x.Seats) - 1, len(x.Seats), math.MinInt} {
				dist(t, asked("Dist of what may not be", a, b), 0, api.ErrTopo)(topo.Dist(x, a, b))
			}
		}
	}
}

// P6.3: lists written out by hand: of none, of some that it has none of, of all; ties by rising numbers.
func TestNearOfKnownTopologies(t *testing.T) {
	x := of([2]int{1, 0}, [2]int{0, 1}, [2]int{0, 0}, [2]int{1, 0}, [2]int{0, 1}, [2]int{0, 0}, [2]int{0, 1})
	for _, c := range []struct {
		cpu   int
		among api.Cpus
		want  []int
	}{
		{0, 127, []int{0, 3, 1, 2, 4, 5, 6}},
		{1, 127, []int{1, 4, 6, 2, 5, 0, 3}},
		{2, 127, []int{2, 5, 1, 4, 6, 0, 3}},
		{3, 127, []int{3, 0, 1, 2, 4, 5, 6}},
		{4, 127, []int{4, 1, 6, 2, 5, 0, 3}},
		{5, 127, []int{5, 2, 1, 4, 6, 0, 3}},
		{6, 127, []int{6, 1, 4, 2, 5, 0, 3}},
		{6, 255, []int{6, 1, 4, 2, 5, 0, 3}},
		{6, 63, []int{1, 4, 2, 5, 0, 3}},
		{6, 0, nil},
		{6, 128, nil},
		{6, 129, []int{0}},
		{6, 64, []int{6}},
		{0, 64, []int{6}},
		{5, 73, []int{6, 0, 3}},
		{2, 43, []int{5, 1, 0, 3}},
	} {
		near(t, asked("Near", c.cpu, c.among), api.OK, c.want...)(topo.Near(x, c.cpu, c.among))
	}
	flat, _ := topo.Flat(8)
	for cpu := range 8 {
		want := []int{cpu}
		for other := range 8 {
			if other != cpu {
				want = append(want, other)
			}
		}
		near(t, asked("Near of a flat one", cpu), api.OK, want...)(topo.Near(flat, cpu, 255))
	}
	one := of([2]int{2, 5})
	near(t, "Near of one", api.OK, 0)(topo.Near(one, 0, 1))
	near(t, "Near of one among all", api.OK, 0)(topo.Near(one, 0, 255))
	near(t, "Near of one among others", api.OK)(topo.Near(one, 0, 254))
}

// P6.3: each pCPU among each set that may be.
func TestNear(t *testing.T) {
	for _, x := range topos() {
		for cpu := range x.Seats {
			for among := range api.Cpus(256) {
				near(t, asked("Near", x, cpu, among), api.OK, nearest(x, cpu, among)...)(topo.Near(x, cpu, among))
			}
		}
	}
}

// P6.3: a pCPU that is none ahead of an among that may not be; that one of all pCPUs that there are.
func TestNearRefuses(t *testing.T) {
	for _, x := range topos() {
		for _, no := range noCpus(len(x.Seats)) {
			for _, among := range append(noSets(), 0, 1, 15, 128, 255) {
				near(t, asked("Near", x, no, among), api.ErrArg)(topo.Near(x, no, among))
			}
		}
		for cpu := range x.Seats {
			for _, among := range noSets() {
				near(t, asked("Near", x, cpu, among), api.ErrCpus)(topo.Near(x, cpu, among))
			}
		}
	}
}

// P6.3: a topology that may not be ahead of a pCPU that is none of it, and of an among that may not be.
func TestNearOfWhatMayNotBe(t *testing.T) {
	for _, x := range noTopos() {
		for _, cpu := range []int{math.MinInt, -1, 0, 1, len(x.Seats) - 1, len(x.Seats), math.MaxInt} {
			for _, among := range []api.Cpus{0, 1, 255, 256, 257, math.MaxUint32} {
				near(t, asked("Near of what may not be", cpu, among), api.ErrTopo)(topo.Near(x, cpu, among))
			}
		}
	}
}

// P6.4: bytes written out by hand: of one pCPU, of several, of all that there may be.
func TestKnownBytes(t *testing.T) {
	for _, c := range []struct {
		x    api.Topo
		want []byte
	}{
		{of([2]int{0, 0}), []byte{1, 0, 0}},
		{of([2]int{3, 7}), []byte{1, 3, 7}},
		{of([2]int{1, 2}, [2]int{3, 4}, [2]int{0, 5}), []byte{3, 1, 2, 3, 4, 0, 5}},
		{of(seats()[4:12]...), []byte{8, 0, 4, 0, 5, 0, 6, 0, 7, 1, 0, 1, 1, 1, 2, 1, 3}},
		{of(slices.Repeat([][2]int{{3, 7}}, 8)...), []byte{8, 3, 7, 3, 7, 3, 7, 3, 7, 3, 7, 3, 7, 3, 7, 3, 7}},
	} {
		laid(t, asked("Encode", c.x), api.OK, c.want...)(topo.Encode(c.x))
		is(t, asked("Decode", c.want), c.x)(topo.Decode(c.want))
	}
}

// bytesOf are a topology's, as the chapter tells them.
func bytesOf(x api.Topo) []byte {
	b := []byte{byte(len(x.Seats))}
	for _, s := range x.Seats {
		b = append(b, byte(s.Socket), byte(s.Core))
	}
	return b
}

// P6.4: all sorts; of what may not be no bytes.
func TestEncode(t *testing.T) {
	for _, x := range topos() {
		laid(t, asked("Encode", x), api.OK, bytesOf(x)...)(topo.Encode(x))
	}
	for _, x := range noTopos() {
		laid(t, asked("Encode", x), api.ErrTopo)(topo.Encode(x))
	}
}

// P6.4: no bytes; bytes that end at each place, and go on behind the end.
func TestDecodeOfOtherLengths(t *testing.T) {
	refused(t, "Decode of no bytes", api.ErrShort)(topo.Decode(nil))
	refused(t, "Decode of no bytes", api.ErrShort)(topo.Decode([]byte{}))
	refused(t, "Decode of no bytes, with room", api.ErrShort)(topo.Decode([]byte{1, 0, 0}[:0]))
	for _, x := range topos() {
		b := bytesOf(x)
		for end := range b {
			refused(t, asked("Decode", b[:end]), api.ErrShort)(topo.Decode(b[:end]))
		}
		is(t, asked("Decode", b), x)(topo.Decode(b))
		for _, more := range [][]byte{{0}, {255}, {0, 0}, {1, 1}, {0, 0, 0}, {1, 0, 0}, b, make([]byte, 100000)} {
			with := append(slices.Clone(b), more...)
			refused(t, asked("Decode with more", b, len(more)), api.ErrTopo)(topo.Decode(with))
		}
	}
}

// P6.4: each number of pCPUs that bytes may begin with, and each length: too short ahead of all that may not be; then none, and too many.
func TestDecodeOfEachNumber(t *testing.T) {
	for n := range 256 {
		for length := 1; length <= 2*n+6; length++ {
			b := make([]byte, length)
			b[0] = byte(n)
			switch {
			case length < 1+2*n:
				refused(t, asked("Decode of noughts", n, length), api.ErrShort)(topo.Decode(b))
			case length > 1+2*n, n < 1, n > 8:
				refused(t, asked("Decode of noughts", n, length), api.ErrTopo)(topo.Decode(b))
			default:
				is(t, asked("Decode of noughts", n, length), api.Topo{Seats: make([]api.Seat, n)})(topo.Decode(b))
			}
		}
	}
	for _, b := range [][]byte{{1, 4}, {1, 255}, {2, 9, 9}, {2, 9, 9, 9}, {9}, {9, 0, 0}, {255}, {255, 255}} {
		refused(t, asked("Decode", b), api.ErrShort)(topo.Decode(b))
	}
	for _, b := range [][]byte{{0}, {0, 0}, {0, 0, 0}, {0, 1, 0, 0}} {
		refused(t, asked("Decode", b), api.ErrTopo)(topo.Decode(b))
	}
}

// P6.4: each byte for a Socket and for a Core, in each place of one, two, all pCPUs.
func TestDecodeOfEachSeat(t *testing.T) {
	for _, n := range []int{1, 2, 8} {
		for place := 1; place <= 2*n; place++ {
			most := 7 // of a Core
			if place%2 == 1 {
				most = 3
			}
			for x := range 256 {
				b := make([]byte, 1+2*n)
				b[0], b[place] = byte(n), byte(x)
				if x > most {
					refused(t, asked("Decode", b), api.ErrTopo)(topo.Decode(b))
					continue
				}
				want := api.Topo{Seats: make([]api.Seat, n)}
				if most == 3 {
					want.Seats[place/2].Socket = x
				} else {
					want.Seats[place/2-1].Core = x
				}
				is(t, asked("Decode", b), want)(topo.Decode(b))
			}
		}
	}
}

// P6.5: distances go both ways; of three pCPUs none is further than the greater one of the other two.
func TestDistances(t *testing.T) {
	between := func(x api.Topo, a, b int) int {
		d, no := topo.Dist(x, a, b)
		if no != api.OK || d < 0 || d > 3 || (d == 0) != (a == b) {
			t.Errorf("Dist(%v, %d, %d): %d, %d", x, a, b, d, no)
		}
		return d
	}
	for _, x := range topos() {
		for a := range x.Seats {
			for b := range x.Seats {
				ab := between(x, a, b)
				if ba := between(x, b, a); ab != ba {
					t.Errorf("Dist(%v, %d, %d): %d; the other way %d", x, a, b, ab, ba)
				}
				for c := range x.Seats {
					if ab > max(between(x, a, c), between(x, c, b)) {
						t.Errorf("%v: %d and %d are further from one another than from %d", x, a, b, c)
					}
				}
			}
		}
	}
}

// P6.5: Sockets part all pCPUs, so do Siblings: each pCPU is in one part alone, and those are all of one kind.
func TestParts(t *testing.T) {
	for _, x := range topos() {
		var together api.Cpus
		for socket := range maxSockets {
			s := topo.Socket(x, socket)
			if s&together != 0 {
				t.Errorf("Socket(%v, %d): %d, of which others have some", x, socket, s)
			}
			together |= s
		}
		if together != topo.All(x) {
			t.Errorf("the sockets of %v have %d; All: %d", x, together, topo.All(x))
		}
		together = 0
		for a := range x.Seats {
			s := topo.Siblings(x, a)
			together |= s
			for b := range x.Seats {
				in, other := s>>b%2 == 1, topo.Siblings(x, b)
				if in && s != other || !in && s&other != 0 || a == b && !in {
					t.Errorf("%v: Siblings of %d: %d, of %d: %d", x, a, s, b, other)
				}
			}
		}
		if together != topo.All(x) {
			t.Errorf("the siblings of %v have %d; All: %d", x, together, topo.All(x))
		}
	}
}

// P6.5: Near has each one of among once, its own first, and none stands ahead of one that is nearer.
func TestNearHasEachOnce(t *testing.T) {
	for _, x := range topos() {
		all := topo.All(x)
		for cpu := range x.Seats {
			for among := range api.Cpus(256) {
				l, no := topo.Near(x, cpu, among)
				var had api.Cpus
				for i, other := range l {
					if had>>other%2 == 1 {
						t.Errorf("Near(%v, %d, %d): %v", x, cpu, among, l)
					}
					had |= 1 << other
					if i > 0 {
						d, _ := topo.Dist(x, cpu, other)
						last, _ := topo.Dist(x, cpu, l[i-1])
						if d < last || d == last && other <= l[i-1] {
							t.Errorf("Near(%v, %d, %d): %v", x, cpu, among, l)
						}
					}
				}
				if had != among&all || no != api.OK || among>>cpu%2 == 1 && l[0] != cpu {
					t.Errorf("Near(%v, %d, %d): %v, %d", x, cpu, among, l, no)
				}
			}
		}
	}
}

// P6.5: Decode of Encode is the topology, Encode of Decode the bytes; all topologies of two pCPUs among them.
func TestBytesLeadBack(t *testing.T) {
	l := topos()
	for _, one := range seats() {
		for _, other := range seats() {
			l = append(l, of(one, other))
		}
	}
	for _, x := range l {
		b, no := topo.Encode(x)
		if no != api.OK {
			t.Errorf("Encode(%v): %d", x, no)
		}
		back, no := topo.Decode(b)
		if no != api.OK || !topo.Same(x, back) {
			t.Errorf("Decode of Encode(%v): %v, %d", x, back, no)
		}
	}
	for head := range 10 {
		for socket := range 5 {
			for core := range 9 {
				b := append([]byte{byte(head)}, bytes.Repeat([]byte{byte(socket), byte(core)}, head)...)
				if x, no := topo.Decode(b); no == api.OK {
					laid(t, asked("Encode of Decode", b), api.OK, b...)(topo.Encode(x))
				}
			}
		}
	}
}

// R3: no call changes what it is handed, nor what stands behind its end.
func TestNothingIsChanged(t *testing.T) {
	for _, x := range append(topos(), noTopos()...) {
		n := len(x.Seats)
		room := append(slices.Clone(x.Seats), api.Seat{Socket: 77, Core: 78}, api.Seat{Socket: -5, Core: 1})
		was := slices.Clone(room)
		h := api.Topo{Seats: room[:n]}
		topo.Check(h)
		topo.All(h)
		topo.Encode(h)
		topo.Same(h, h)
		for cpu := -1; cpu <= 8; cpu++ {
			topo.Socket(h, cpu)
			topo.Siblings(h, cpu)
			topo.Dist(h, cpu, 0)
			topo.Near(h, cpu, 255)
			topo.Near(h, cpu, math.MaxUint32)
		}
		if !slices.Equal(room, was) {
			t.Errorf("%v was changed to %v", was, room)
		}
	}
	for _, b := range [][]byte{{}, {0}, {1, 0}, {2, 0, 1, 3, 7}, {1, 0, 0, 9}, {1, 4, 0}, {9, 0, 0}} {
		room := append(slices.Clone(b), 1, 2, 3)
		was := slices.Clone(room)
		topo.Decode(room[:len(b)])
		if !bytes.Equal(room, was) {
			t.Errorf("%v was changed to %v", was, room)
		}
	}
}

// R3: what stands behind the end of what is handed in does not count.
func TestWhatStandsBehindDoesNotCount(t *testing.T) {
	x := of([2]int{0, 0}, [2]int{1, 0}, [2]int{0, 0}, [2]int{9, 9})
	h := api.Topo{Seats: x.Seats[:2]}
	if no := topo.Check(h); no != api.OK || topo.All(h) != 3 || topo.Socket(h, 0) != 1 || topo.Siblings(h, 0) != 1 || topo.Siblings(h, 2) != 0 {
		t.Errorf("Check: %d, All: %d, Socket: %d, Siblings: %d", no, topo.All(h), topo.Socket(h, 0), topo.Siblings(h, 0))
	}
	dist(t, "Dist to one behind", 0, api.ErrArg)(topo.Dist(h, 0, 2))
	near(t, "Near, those behind among", api.OK, 1, 0)(topo.Near(h, 1, 255))
	laid(t, "Encode with some behind", api.OK, 2, 0, 0, 1, 0)(topo.Encode(h))
	is(t, "Decode with some behind", of([2]int{0, 0}))(topo.Decode([]byte{1, 0, 0, 1, 0}[:3]))
	refused(t, "Decode with the rest behind", api.ErrShort)(topo.Decode([]byte{2, 0, 0, 1, 0}[:3]))
}

// R3: what is answered is new memory: it is nobody else's, neither another answer's nor what was handed in.
func TestAnswersAreNewMemory(t *testing.T) {
	twice := func(where string, make func() (api.Topo, api.Errno)) {
		one, _ := make()
		other, _ := make()
		was := slices.Clone(other.Seats)
		for i := range one.Seats {
			one.Seats[i] = api.Seat{Socket: -1, Core: -1}
		}
		_ = append(one.Seats, api.Seat{Socket: 5})
		again, _ := make()
		if !slices.Equal(other.Seats, was) || !slices.Equal(again.Seats, was) || len(was) == 0 {
			t.Errorf("%s: %v, and again %v; want %v", where, other, again, was)
		}
	}
	b := []byte{2, 0, 1, 3, 7}
	twice("Flat", func() (api.Topo, api.Errno) { return topo.Flat(4) })
	twice("Regular", func() (api.Topo, api.Errno) { return topo.Regular(2, 2, 2) })
	twice("Decode", func() (api.Topo, api.Errno) { return topo.Decode(b) })

	x, _ := topo.Decode(b)
	clear(b)
	is(t, "Decode of what was changed afterwards", of([2]int{0, 1}, [2]int{3, 7}))(x, api.OK)

	x, _ = topo.Flat(3)
	laidOnce, _ := topo.Encode(x)
	l, _ := topo.Near(x, 1, 7)
	clear(laidOnce)
	clear(l)
	laid(t, "Encode again", api.OK, 3, 0, 0, 0, 1, 0, 2)(topo.Encode(x))
	near(t, "Near again", api.OK, 1, 0, 2)(topo.Near(x, 1, 7))
}

// The chapter's examples.
func TestExamples(t *testing.T) {
	r, no := topo.Regular(2, 1, 2)
	is(t, "Regular(2, 1, 2)", of([2]int{0, 0}, [2]int{0, 0}, [2]int{1, 0}, [2]int{1, 0}))(r, no)
	dist(t, "Dist(0, 1)", 1, api.OK)(topo.Dist(r, 0, 1))
	dist(t, "Dist(0, 2)", 3, api.OK)(topo.Dist(r, 0, 2))
	dist(t, "Dist(3, 3)", 0, api.OK)(topo.Dist(r, 3, 3))
	dist(t, "Dist(0, 4)", 0, api.ErrArg)(topo.Dist(r, 0, 4))
	near(t, "Near(2, all)", api.OK, 2, 3, 0, 1)(topo.Near(r, 2, 15))
	near(t, "Near(0, 3 and 1)", api.OK, 1, 3)(topo.Near(r, 0, 10))
	if topo.Socket(r, 1) != 12 || topo.Siblings(r, 0) != 3 || topo.All(r) != 15 {
		t.Errorf("Socket: %d, Siblings: %d, All: %d; want 12, 3, 15", topo.Socket(r, 1), topo.Siblings(r, 0), topo.All(r))
	}
	laid(t, "Encode", api.OK, 4, 0, 0, 0, 0, 1, 0, 1, 0)(topo.Encode(r))
	refused(t, "Regular(2, 2, 3)", api.ErrArg)(topo.Regular(2, 2, 3))
}
