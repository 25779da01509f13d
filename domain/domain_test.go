package domain_test

import (
	"math"
	"slices"
	"strconv"
	"testing"

	"mainsheet/api"
	"mainsheet/domain"
)

// The limits, as the document says them.
const (
	maxDomains = 8
	maxVcpus   = 16
	maxEach    = 8
	maxWeight  = 65535
	maxCap     = 800
	maxPools   = 4
)

// of is the mask of that Hard and that Soft.
func of(hard, soft api.Cpus) api.Mask {
	return api.Mask{Hard: hard, Soft: soft}
}

// dom is the domain of these numbers.
func dom(id, weight, limit, pool int) api.Domain {
	return api.Domain{Id: id, Weight: weight, Cap: limit, Pool: pool}
}

// vcpu is the vCPU of that Id, of that domain, that may have the pCPU 0.
func vcpu(id, domain int) api.Vcpu {
	return api.Vcpu{Id: id, Domain: domain, Mask: of(1, 0)}
}

// rowOf are domains of these Ids.
func rowOf(ids ...int) []api.Domain {
	var l []api.Domain
	for _, id := range ids {
		l = append(l, dom(id, 100+id, id, id%2))
	}
	return l
}

// vcpusOf are vCPUs of one domain, of these Ids.
func vcpusOf(domain int, ids ...int) []api.Vcpu {
	var l []api.Vcpu
	for _, id := range ids {
		l = append(l, vcpu(id, domain))
	}
	return l
}

// guests are those of these domains and these vCPUs.
func guests(domains []api.Domain, vcpus ...api.Vcpu) api.Guests {
	return api.Guests{Domains: domains, Vcpus: vcpus}
}

// world are guests, told another way: what there is of each Id, and a zero where there is nothing.
type world struct {
	domains [maxDomains + 1]api.Domain
	vcpus   [maxVcpus + 1]api.Vcpu
}

// made are the guests.
func (w world) made() api.Guests {
	var g api.Guests
	for _, d := range w.domains {
		if d.Id != 0 {
			g.Domains = append(g.Domains, d)
		}
	}
	for _, v := range w.vcpus {
		if v.Id != 0 {
			g.Vcpus = append(g.Vcpus, v)
		}
	}
	return g
}

// has tells whether there is a domain of that Id.
func (w world) has(id int) bool {
	return id >= 1 && id <= maxDomains && w.domains[id].Id != 0
}

// hasVcpu tells whether there is a vCPU of that Id.
func (w world) hasVcpu(id int) bool {
	return id >= 1 && id <= maxVcpus && w.vcpus[id].Id != 0
}

// members are the Ids of the vCPUs whose domain is so.
func (w world) members(so func(d api.Domain) bool) []int {
	var l []int
	for id := 1; id <= maxVcpus; id++ {
		if w.hasVcpu(id) && so(w.domains[w.vcpus[id].Domain]) {
			l = append(l, id)
		}
	}
	return l
}

// each are the Ids of the domain's vCPUs.
func (w world) each(id int) []int {
	return w.members(func(d api.Domain) bool { return d.Id == id })
}

// weights is the sum of the Weights of the pool's domains that have vCPUs.
func (w world) weights(pool int) int {
	sum := 0
	for id, d := range w.domains {
		if len(w.each(id)) > 0 && d.Pool == pool {
			sum += d.Weight
		}
	}
	return sum
}

// free is the least Id that no vCPU has; 0, if all are taken.
func (w world) free() int {
	for id := 1; id <= maxVcpus; id++ {
		if !w.hasVcpu(id) {
			return id
		}
	}
	return 0
}

// create is what Create makes of them, or its error.
func (w world) create(d api.Domain) (world, api.Errno) {
	switch {
	case !mayBe(d):
		return world{}, api.ErrArg
	case w.has(d.Id):
		return world{}, api.ErrThere
	}
	w.domains[d.Id] = d
	return w, api.OK
}

// destroy is what Destroy makes of them, or its error.
func (w world) destroy(id int) (world, api.Errno) {
	switch {
	case !w.has(id):
		return world{}, api.ErrNone
	case len(w.each(id)) > 0:
		return world{}, api.ErrBusy
	}
	w.domains[id] = api.Domain{}
	return w, api.OK
}

// change is what Change makes of them, or its error.
func (w world) change(d api.Domain) (world, api.Errno) {
	switch {
	case !mayBe(d):
		return world{}, api.ErrArg
	case !w.has(d.Id):
		return world{}, api.ErrNone
	}
	w.domains[d.Id] = d
	return w, api.OK
}

// add is what Add makes of them, with the Id, or its error.
func (w world) add(id int, m api.Mask) (world, int, api.Errno) {
	free := w.free()
	switch {
	case !w.has(id):
		return world{}, 0, api.ErrNone
	case !maskMayBe(m):
		return world{}, 0, api.ErrMask
	case free == 0 || len(w.each(id)) >= maxEach:
		return world{}, 0, api.ErrFull
	}
	w.vcpus[free] = api.Vcpu{Id: free, Domain: id, Mask: m}
	return w, free, api.OK
}

// drop is what Drop makes of them, or its error.
func (w world) drop(id int) (world, api.Errno) {
	if !w.hasVcpu(id) {
		return world{}, api.ErrNone
	}
	w.vcpus[id] = api.Vcpu{}
	return w, api.OK
}

// remask is what Remask makes of them, or its error.
func (w world) remask(id int, m api.Mask) (world, api.Errno) {
	switch {
	case !w.hasVcpu(id):
		return world{}, api.ErrNone
	case !maskMayBe(m):
		return world{}, api.ErrMask
	}
	w.vcpus[id].Mask = m
	return w, api.OK
}

// mayBe tells whether d may be, as the chapter says it.
func mayBe(d api.Domain) bool {
	id, weight := 1 <= d.Id && d.Id <= maxDomains, 1 <= d.Weight && d.Weight <= maxWeight
	limit, pool := 0 <= d.Cap && d.Cap <= maxCap, 0 <= d.Pool && d.Pool <= maxPools-1
	return id && weight && limit && pool
}

// maskMayBe tells whether m may be.
func maskMayBe(m api.Mask) bool {
	return m.Hard >= 1 && m.Hard <= 255 && m.Soft <= 255
}

// guestsMayBe tells whether g may be, as the chapter says it, row by row.
func guestsMayBe(g api.Guests) bool {
	may, ids, has, last := true, map[int]int{}, map[int]int{}, 0
	for _, d := range g.Domains {
		may = may && mayBe(d) && last < d.Id
		last = d.Id
		ids[d.Id] = 1
	}
	last = 0
	for _, v := range g.Vcpus {
		has[v.Domain]++
		may = may && last < v.Id && v.Id <= maxVcpus && ids[v.Domain] == 1 && maskMayBe(v.Mask) && has[v.Domain] <= maxEach
		last = v.Id
	}
	return may
}

// chance tells numbers below n by a short rule, the same whenever it is asked anew.
func chance() func(n int) int {
	x := uint64(9)
	return func(n int) int {
		x = x*6364136223846793005 + 1442695040888963407
		return int(x >> 33 % uint64(n))
	}
}

// someDomain is one that may be.
func someDomain(next func(int) int, id int) api.Domain {
	weights := []int{1, 2, 256, 1000, maxWeight - 1, maxWeight}
	return dom(id, weights[next(len(weights))], next(maxCap+1), next(maxPools))
}

// someMask is one that may be.
func someMask(next func(int) int) api.Mask {
	return of(api.Cpus(1+next(255)), api.Cpus(next(256)))
}

// someWorld is one of few rows, of many, or of something in between.
func someWorld(next func(int) int) world {
	var w world
	often, oftenVcpu := 1+next(10), next(11)
	for id := 1; id <= maxDomains; id++ {
		if next(10) < often {
			w.domains[id] = someDomain(next, id)
		}
	}
	for id := 1; id <= maxVcpus; id++ {
		owner := 1 + next(maxDomains)
		if next(10) < oftenVcpu && w.has(owner) && len(w.each(owner)) < maxEach {
			w.vcpus[id] = api.Vcpu{Id: id, Domain: owner, Mask: someMask(next)}
		}
	}
	return w
}

// worlds are some: those at the edges, and many others.
func worlds() []world {
	var one, full, most, empty world
	one.domains[2], one.vcpus[9] = dom(2, 256, 0, 0), vcpu(9, 2)
	for id := 1; id <= maxDomains; id++ {
		full.domains[id], empty.domains[id] = dom(id, id, maxCap, id%maxPools), dom(id, maxWeight, 0, maxPools-1)
	}
	most.domains[3], most.domains[maxDomains] = dom(3, 1, 1, 1), dom(maxDomains, maxWeight, 1, 1)
	for id := 1; id <= maxVcpus; id++ {
		full.vcpus[id], most.vcpus[id] = vcpu(id, 1+id%maxDomains), vcpu(id, 3+id%2*5)
	}
	l, next := []world{{}, one, full, most, empty}, chance()
	for range 200 {
		l = append(l, someWorld(next))
	}
	return l
}

// noDomains are some that may not be, most of them of that Id: each number one below the least, one above the greatest, and far beyond.
func noDomains(id int) []api.Domain {
	l := []api.Domain{{}, {Id: id}, {Weight: 1}, dom(0, 0, -1, -1), dom(9, 65536, 801, 4)}
	for _, far := range []int{math.MinInt, math.MinInt + 1, -1 << 32, -256, -1, 1 << 31, 1<<32 + 1, 1 << 62, math.MaxInt} {
		l = append(l, dom(far, 1, 0, 0), dom(id, far, 0, 0), dom(id, 1, far, 0), dom(id, 1, 0, far))
	}
	return append(l,
		dom(0, 1, 0, 0), dom(9, 1, 0, 0), dom(-1, 1, 0, 0),
		dom(id, 0, 0, 0), dom(id, 65536, 0, 0), dom(id, -1, 800, 3),
		dom(id, 1, -1, 0), dom(id, 1, 801, 0), dom(id, 65535, 801, 3),
		dom(id, 1, 0, -1), dom(id, 1, 0, 4), dom(id, 65535, 800, 4))
}

// edgeDomains are some that may be, of that Id, each number at its bounds.
func edgeDomains(id int) []api.Domain {
	var l []api.Domain
	for _, weight := range []int{1, 2, 256, maxWeight - 1, maxWeight} {
		for _, limit := range []int{0, 1, 100, maxCap - 1, maxCap} {
			for pool := range maxPools {
				l = append(l, dom(id, weight, limit, pool))
			}
		}
	}
	return l
}

// noMasks are some that may not be: whose Hard is empty, or that have bits that no pCPU has.
func noMasks() []api.Mask {
	return []api.Mask{{}, of(0, 1), of(0, 255), of(256, 0), of(257, 0), of(1, 256), of(1, 257), of(255, 256), of(511, 255), of(0, 256), of(1<<31, 1), of(1, 1<<31), of(math.MaxUint32, 0), of(1, math.MaxUint32)}
}

// edgeMasks are some that may be, those at the edges among them.
func edgeMasks() []api.Mask {
	return []api.Mask{of(1, 0), of(1, 1), of(1, 255), of(255, 0), of(255, 255), of(128, 1), of(128, 128), of(3, 12), of(170, 85)}
}

// noGuests are some that may not be; the fault is in one row, or between two of them.
func noGuests() []api.Guests {
	var l []api.Guests
	for _, d := range noDomains(5) {
		l = append(l, guests([]api.Domain{d}), guests(append(rowOf(1, 2), d)), guests(append([]api.Domain{d}, rowOf(6, 8)...)), guests(slices.Insert(rowOf(2, 8), 1, d), vcpu(1, 2), vcpu(2, 8)))
	}
	for _, ids := range [][]int{{1, 1}, {8, 8}, {2, 1}, {8, 1}, {8, 7}, {1, 3, 2}, {2, 1, 3}, {1, 2, 2}, {1, 1, 2}, {3, 2, 1}, {1, 2, 1}, {1, 2, 3, 4, 5, 6, 7, 8, 8}, {1, 1, 2, 3, 4, 5, 6, 7, 8}, {8, 7, 6, 5, 4, 3, 2, 1}, {1, 2, 3, 4, 5, 6, 8, 7}, {1, 2, 3, 4, 5, 6, 7, 8, 9}, {0, 1, 2}} {
		l = append(l, guests(rowOf(ids...)), guests(rowOf(ids...), vcpu(1, 1)))
	}
	for _, ids := range [][]int{{0}, {-1}, {17}, {18}, {math.MinInt}, {math.MaxInt}, {1 << 32}, {1<<32 + 1}, {0, 1}, {1, 17}, {16, 17}, {1, 1}, {16, 16}, {2, 1}, {16, 1}, {16, 15}, {1, 3, 2}, {2, 1, 3}, {1, 2, 2}, {1, 1, 2}, {-1, 1}, {1, math.MaxInt}} {
		l = append(l, guests(rowOf(4), vcpusOf(4, ids...)...))
	}
	for _, owner := range []int{0, -1, 1, 3, 5, 7, 9, 260, math.MinInt, math.MaxInt} { // not there
		l = append(l, guests(nil, vcpu(1, owner)), guests(rowOf(2, 4, 6, 8), vcpu(1, owner)), guests(rowOf(2, 4, 6, 8), vcpu(1, 2), vcpu(2, owner), vcpu(3, 8)), guests(rowOf(2, 4, 6, 8), vcpu(1, 2), vcpu(16, owner)))
	}
	for _, m := range noMasks() {
		l = append(l, guests(rowOf(1), api.Vcpu{Id: 1, Domain: 1, Mask: m}), guests(rowOf(1), vcpu(1, 1), api.Vcpu{Id: 2, Domain: 1, Mask: m}, vcpu(3, 1)), guests(rowOf(1), vcpu(1, 1), api.Vcpu{Id: 16, Domain: 1, Mask: m}))
	}
	return append(l, tooMany()...)
}

// tooMany are guests one domain of which has more vCPUs than it may, or that are far too many.
func tooMany() []api.Guests {
	nine := vcpusOf(2, 1, 2, 3, 4, 5, 6, 7, 8, 9)
	late := append(vcpusOf(1, 1, 3, 5, 7), vcpusOf(2, 8, 9, 10, 11, 12, 13, 14, 15, 16)...)
	all := append(vcpusOf(2, 1, 2, 3, 4, 5, 6, 7), append(vcpusOf(1, 8, 9, 10, 11, 12, 13, 14), vcpusOf(2, 15, 16)...)...)
	l := []api.Guests{guests(rowOf(2), nine...), guests(rowOf(1, 2, 3), nine...), guests(rowOf(1, 2), late...), guests(rowOf(1, 2), all...)}
	for _, n := range []int{17, 256, 257, 65537, 1000000} {
		zeros, rises := make([]api.Domain, n), make([]api.Vcpu, n)
		for i := range rises {
			rises[i] = vcpu(i+1, 1)
		}
		l = append(l, guests(zeros), guests(slices.Repeat(rowOf(1), n)), guests(rowOf(1), rises...), guests(rowOf(1), make([]api.Vcpu, n)...), guests(zeros, rises...))
	}
	return l
}

// numbers are those of domains, vCPUs and pools, those just beyond, and very great and very small ones.
func numbers() []int {
	l := []int{math.MinInt, math.MinInt + 1, -1 << 32, -256, -2, -1, 31, 32, 64, 255, 256, 257, 1 << 31, 1<<32 + 1, 1<<32 + 2, 1 << 62, math.MaxInt}
	for n := range maxVcpus + 3 {
		l = append(l, n)
	}
	return l
}

// tell is a short text of guests: of few rows all, of many how many they are.
func tell(g api.Guests) string {
	if len(g.Domains)+len(g.Vcpus) > 40 {
		return strconv.Itoa(len(g.Domains)) + " domains, " + strconv.Itoa(len(g.Vcpus)) + " vCPUs"
	}
	s := "{"
	for _, d := range g.Domains {
		s += " d" + strconv.Itoa(d.Id) + ":" + strconv.Itoa(d.Weight) + "," + strconv.Itoa(d.Cap) + "," + strconv.Itoa(d.Pool)
	}
	for _, v := range g.Vcpus {
		s += " v" + strconv.Itoa(v.Id) + ":" + strconv.Itoa(v.Domain) + "," + strconv.Itoa(int(v.Mask.Hard)) + "," + strconv.Itoa(int(v.Mask.Soft))
	}
	return s + " }"
}

// alike tells whether both have the same rows.
func alike(a, b api.Guests) bool {
	return slices.Equal(a.Domains, b.Domains) && slices.Equal(a.Vcpus, b.Vcpus)
}

// becomes asks for guests, and an error.
func becomes(t *testing.T, where string, was, want api.Guests, wantNo api.Errno) func(api.Guests, api.Errno) {
	return func(g api.Guests, no api.Errno) {
		t.Helper()
		if !alike(g, want) || no != wantNo {
			t.Errorf("%s of %s: %s, %d; want %s, %d", where, tell(was), tell(g), no, tell(want), wantNo)
		}
	}
}

// adds asks Add for guests, an Id and an error.
func adds(t *testing.T, g api.Guests, id int, m api.Mask, want api.Guests, wantId int, wantNo api.Errno) {
	t.Helper()
	got, n, no := domain.Add(g, id, m)
	if !alike(got, want) || n != wantId || no != wantNo {
		t.Errorf("Add(%s, %d, %v): %s, %d, %d; want %s, %d, %d", tell(g), id, m, tell(got), n, no, tell(want), wantId, wantNo)
	}
}

// neither asks Create and Change for an error that both have.
func neither(t *testing.T, g api.Guests, d api.Domain, want api.Errno) {
	t.Helper()
	becomes(t, "Create", g, api.Guests{}, want)(domain.Create(g, d))
	becomes(t, "Change", g, api.Guests{}, want)(domain.Change(g, d))
}

// checks asks Check for an error.
func checks(t *testing.T, g api.Guests, want api.Errno) {
	t.Helper()
	if no := domain.Check(g); no != want {
		t.Errorf("Check(%s): %d; want %d", tell(g), no, want)
	}
}

// same asks Same, both ways.
func same(t *testing.T, a, b api.Guests, want bool) {
	t.Helper()
	if one, other := domain.Same(a, b), domain.Same(b, a); one != want || other != want {
		t.Errorf("Same(%s, %s): %v, and the other way %v; want %v", tell(a), tell(b), one, other, want)
	}
}

// lists asks Of and In for Ids.
func lists(t *testing.T, where string, g api.Guests, n int, got, want []int) {
	t.Helper()
	if !slices.Equal(got, want) {
		t.Errorf("%s(%s, %d): %v; want %v", where, tell(g), n, got, want)
	}
}

// rates asks Rate.
func rates(t *testing.T, g api.Guests, id, wantWeight, wantCount int, wantThere bool) {
	t.Helper()
	weight, count, there := domain.Rate(g, id)
	if weight != wantWeight || count != wantCount || there != wantThere {
		t.Errorf("Rate(%s, %d): %d, %d, %v; want %d, %d, %v", tell(g), id, weight, count, there, wantWeight, wantCount, wantThere)
	}
}

// weighs asks Weights.
func weighs(t *testing.T, g api.Guests, pool, want int) {
	t.Helper()
	if sum := domain.Weights(g, pool); sum != want {
		t.Errorf("Weights(%s, %d): %d; want %d", tell(g), pool, sum, want)
	}
}

// finds asks Domain and Vcpu of one Id.
func finds(t *testing.T, g api.Guests, id int, wantDomain api.Domain, wantVcpu api.Vcpu) {
	t.Helper()
	if d, there := domain.Domain(g, id); d != wantDomain || there != (wantDomain.Id != 0) {
		t.Errorf("Domain(%s, %d): %v, %v; want %v", tell(g), id, d, there, wantDomain)
	}
	if v, there := domain.Vcpu(g, id); v != wantVcpu || there != (wantVcpu.Id != 0) {
		t.Errorf("Vcpu(%s, %d): %v, %v; want %v", tell(g), id, v, there, wantVcpu)
	}
}

// P9.1: no guests at all; domains without vCPUs; each number at both bounds; all Ids that there are; as many vCPUs as may be.
func TestCheck(t *testing.T) {
	checks(t, api.Guests{}, api.OK)
	checks(t, api.Guests{Domains: []api.Domain{}, Vcpus: []api.Vcpu{}}, api.OK)
	for id := 1; id <= maxDomains; id++ {
		for _, d := range edgeDomains(id) {
			checks(t, guests([]api.Domain{d}), api.OK)
			checks(t, guests([]api.Domain{d}, vcpu(1, id), vcpu(16, id)), api.OK)
		}
	}
	for _, ids := range [][]int{{1}, {8}, {1, 8}, {2, 3}, {7, 8}, {1, 3, 5, 7}, {1, 2, 3, 4, 5, 6, 7, 8}} {
		checks(t, guests(rowOf(ids...)), api.OK)
	}
	for _, ids := range [][]int{{1}, {16}, {1, 16}, {2, 3}, {15, 16}, {1, 2, 3, 4, 5, 6, 7, 8}, {9, 10, 11, 12, 13, 14, 15, 16}, {2, 4, 6, 8, 10, 12, 14, 16}} {
		checks(t, guests(rowOf(4), vcpusOf(4, ids...)...), api.OK)
	}
	for _, m := range edgeMasks() {
		checks(t, guests(rowOf(1), api.Vcpu{Id: 1, Domain: 1, Mask: m}, vcpu(2, 1)), api.OK)
	}
	checks(t, guests(rowOf(1, 8), append(vcpusOf(8, 1, 2, 3, 4, 5, 6, 7, 8), vcpusOf(1, 9, 10, 11, 12, 13, 14, 15, 16)...)...), api.OK)
	for _, w := range worlds() {
		checks(t, w.made(), api.OK)
	}
}

// P9.1: a number out of its bounds, Ids that fall, Ids twice, a domain that is not there, a mask that may not be, one vCPU too many of a domain.
func TestCheckRefuses(t *testing.T) {
	for _, g := range noGuests() {
		checks(t, g, api.ErrGuests)
	}
}

// P9.1: guests of which one number, or one row, was made another one.
func TestCheckOfWhatWasMadeAnother(t *testing.T) {
	next, may, no := chance(), 0, 0
	ints := []int{-1, 0, 1, 2, 3, 4, 5, 7, 8, 9, 15, 16, 17, 800, 801, 65535, 65536}
	for range 60000 {
		g := someWorld(next).made()
		n := ints[next(len(ints))]
		if len(g.Domains) > 0 && next(2) == 0 {
			d := &g.Domains[next(len(g.Domains))]
			*[]*int{&d.Id, &d.Weight, &d.Cap, &d.Pool}[next(4)] = n
		}
		if len(g.Vcpus) > 0 && next(2) == 0 {
			v := &g.Vcpus[next(len(g.Vcpus))]
			*[]*int{&v.Id, &v.Domain}[next(2)] = n
			if next(3) == 0 {
				v.Mask = of(api.Cpus(next(300)), api.Cpus(next(300)))
			}
		}
		want := api.ErrGuests
		if guestsMayBe(g) {
			want = api.OK
			may++
		} else {
			no++
		}
		checks(t, g, want)
	}
	if may < 1000 || no < 1000 {
		t.Errorf("only %d that may be, and %d that may not", may, no)
	}
}

// P9.1: guests that differ in one number of one row, in how many they are, in nothing.
func TestSame(t *testing.T) {
	g := func() api.Guests {
		return guests([]api.Domain{dom(1, 10, 20, 1), dom(3, 10, 20, 1)}, api.Vcpu{Id: 4, Domain: 1, Mask: of(3, 2)}, api.Vcpu{Id: 7, Domain: 3, Mask: of(3, 2)})
	}
	same(t, g(), g(), true)
	for place := range 2 {
		for _, differ := range []func(d *api.Domain, v *api.Vcpu){
			func(d *api.Domain, v *api.Vcpu) { d.Id++ },
			func(d *api.Domain, v *api.Vcpu) { d.Weight++ },
			func(d *api.Domain, v *api.Vcpu) { d.Cap++ },
			func(d *api.Domain, v *api.Vcpu) { d.Pool++ },
			func(d *api.Domain, v *api.Vcpu) { v.Id++ },
			func(d *api.Domain, v *api.Vcpu) { v.Domain++ },
			func(d *api.Domain, v *api.Vcpu) { v.Domain = 4 - v.Domain },
			func(d *api.Domain, v *api.Vcpu) { v.Mask.Hard++ },
			func(d *api.Domain, v *api.Vcpu) { v.Mask.Soft++ },
		} {
			h := g()
			differ(&h.Domains[place], &h.Vcpus[place])
			same(t, g(), h, false)
		}
		fewer, less := g(), g()
		fewer.Domains = slices.Delete(fewer.Domains, place, place+1)
		less.Vcpus = slices.Delete(less.Vcpus, place, place+1)
		same(t, g(), fewer, false)
		same(t, g(), less, false)
	}
	same(t, g(), api.Guests{}, false)
	same(t, g(), guests(g().Domains), false)
	same(t, g(), guests(nil, g().Vcpus...), false)
	same(t, api.Guests{}, api.Guests{Domains: []api.Domain{}, Vcpus: make([]api.Vcpu, 0, 3)}, true)
	same(t, guests(rowOf(1)), api.Guests{Domains: rowOf(1), Vcpus: []api.Vcpu{}}, true)
}

// P9.1: guests that may not be are held against each other row by row, too.
func TestSameOfWhatMayNotBe(t *testing.T) {
	l := noGuests()
	for i, g := range l {
		same(t, g, g, true)
		same(t, g, api.Guests{Domains: slices.Clone(g.Domains), Vcpus: slices.Clone(g.Vcpus)}, true)
		same(t, g, api.Guests{}, false)
		same(t, g, l[(i+1)%len(l)], alike(g, l[(i+1)%len(l)]))
	}
	same(t, guests(rowOf(1, 2)), guests(rowOf(2, 1)), false)
	same(t, guests(rowOf(1), vcpu(2, 1), vcpu(1, 1)), guests(rowOf(1), vcpu(1, 1), vcpu(2, 1)), false)
}

// P9.1: of each Id that is there, and of those that are not.
func TestDomainAndVcpu(t *testing.T) {
	for _, w := range worlds() {
		g := w.made()
		for _, id := range numbers() {
			var d api.Domain
			var v api.Vcpu
			if w.has(id) {
				d = w.domains[id]
			}
			if w.hasVcpu(id) {
				v = w.vcpus[id]
			}
			finds(t, g, id, d, v)
		}
	}
}

// P9.1, P9.4: of guests that may not be there is nothing.
func TestNothingOfWhatMayNotBe(t *testing.T) {
	for _, g := range noGuests() {
		for _, n := range numbers() {
			finds(t, g, n, api.Domain{}, api.Vcpu{})
			lists(t, "Of", g, n, domain.Of(g, n), nil)
			lists(t, "In", g, n, domain.In(g, n), nil)
			rates(t, g, n, 0, 0, false)
			weighs(t, g, n, 0)
		}
	}
}

// P9.2, P9.3: guests that may not be, ahead of all else: of arguments that would be done, and of those that have another error.
func TestGuestsThatMayNotBe(t *testing.T) {
	for _, g := range noGuests() {
		for _, id := range []int{-1, 0, 1, 2, 4, 5, 8, 9, 16, 17} {
			for _, d := range []api.Domain{{}, dom(id, 1, 0, 0), dom(id, 0, 0, 0)} {
				neither(t, g, d, api.ErrGuests)
			}
			becomes(t, "Destroy", g, api.Guests{}, api.ErrGuests)(domain.Destroy(g, id))
			becomes(t, "Drop", g, api.Guests{}, api.ErrGuests)(domain.Drop(g, id))
			for _, m := range []api.Mask{of(1, 0), of(0, 1), of(256, 0)} {
				adds(t, g, id, m, api.Guests{}, 0, api.ErrGuests)
				becomes(t, "Remask", g, api.Guests{}, api.ErrGuests)(domain.Remask(g, id, m))
			}
		}
	}
}

// P9.2: a domain that may not be, ahead of an Id that is taken, or that nobody has.
func TestDomainsThatMayNotBe(t *testing.T) {
	for _, w := range worlds()[:40] {
		for id := 1; id <= maxDomains; id++ {
			for _, d := range noDomains(id) {
				neither(t, w.made(), d, api.ErrArg)
			}
		}
	}
}

// P9.2: a domain ahead of all others, between two, behind all, where there is none; and each that may be.
func TestCreate(t *testing.T) {
	for id := 1; id <= maxDomains; id++ {
		for _, d := range edgeDomains(id) {
			becomes(t, "Create", api.Guests{}, guests([]api.Domain{d}), api.OK)(domain.Create(api.Guests{}, d))
		}
	}
	for _, c := range []struct {
		ids  []int
		id   int
		want []int
	}{
		{[]int{2}, 1, []int{1, 2}}, {[]int{2}, 3, []int{2, 3}}, {[]int{2, 8}, 1, []int{1, 2, 8}}, {[]int{2, 8}, 3, []int{2, 3, 8}}, {[]int{2, 8}, 7, []int{2, 7, 8}}, {[]int{1, 7}, 8, []int{1, 7, 8}},
		{[]int{2, 3, 4, 5, 6, 7, 8}, 1, []int{1, 2, 3, 4, 5, 6, 7, 8}}, {[]int{1, 2, 3, 4, 6, 7, 8}, 5, []int{1, 2, 3, 4, 5, 6, 7, 8}}, {[]int{1, 2, 3, 4, 5, 6, 7}, 8, []int{1, 2, 3, 4, 5, 6, 7, 8}},
	} {
		l := vcpusOf(c.ids[0], 2, 5, 16)
		g := guests(rowOf(c.ids...), l...)
		becomes(t, "Create", g, guests(rowOf(c.want...), l...), api.OK)(domain.Create(g, rowOf(c.id)[0]))
		becomes(t, "Create", g, api.Guests{}, api.ErrThere)(domain.Create(g, rowOf(c.ids[0])[0]))
	}
}

// P9.2: an Id that is taken, by a domain that is the same, or another one, with vCPUs or without.
func TestCreateOfWhatIsThere(t *testing.T) {
	for _, w := range worlds() {
		for id := 1; id <= maxDomains; id++ {
			if w.has(id) {
				becomes(t, "Create", w.made(), api.Guests{}, api.ErrThere)(domain.Create(w.made(), w.domains[id]))
				becomes(t, "Create", w.made(), api.Guests{}, api.ErrThere)(domain.Create(w.made(), dom(id, 77, 7, 2)))
			}
		}
	}
}

// P9.2: a domain that is not there, none of all and of some; one that has vCPUs; the first one, one between, the last one.
func TestDestroy(t *testing.T) {
	for _, w := range worlds() {
		g := w.made()
		for _, id := range numbers() {
			want, no := w.destroy(id)
			becomes(t, "Destroy "+strconv.Itoa(id), g, want.made(), no)(domain.Destroy(g, id))
		}
	}
	g := guests(rowOf(2, 4, 6), vcpu(1, 4), vcpu(16, 6))
	becomes(t, "Destroy 2", g, guests(rowOf(4, 6), g.Vcpus...), api.OK)(domain.Destroy(g, 2))
	for id, no := range map[int]api.Errno{4: api.ErrBusy, 6: api.ErrBusy, 1: api.ErrNone, 3: api.ErrNone, 8: api.ErrNone, 16: api.ErrNone} {
		becomes(t, "Destroy "+strconv.Itoa(id), g, api.Guests{}, no)(domain.Destroy(g, id))
	}
	g = guests(rowOf(2, 4, 6))
	becomes(t, "Destroy 2", g, guests(rowOf(4, 6)), api.OK)(domain.Destroy(g, 2))
	becomes(t, "Destroy 4", g, guests(rowOf(2, 6)), api.OK)(domain.Destroy(g, 4))
	becomes(t, "Destroy 6", g, guests(rowOf(2, 4)), api.OK)(domain.Destroy(g, 6))
	becomes(t, "Destroy 2", guests(rowOf(2)), api.Guests{}, api.OK)(domain.Destroy(guests(rowOf(2)), 2))
	becomes(t, "Destroy 2", api.Guests{}, api.Guests{}, api.ErrNone)(domain.Destroy(api.Guests{}, 2))
}

// P9.2: a domain that is not there; each that is, to each that may be; its vCPUs and the others stay.
func TestChange(t *testing.T) {
	for _, w := range worlds()[:40] {
		g := w.made()
		for id := 1; id <= maxDomains; id++ {
			for _, d := range edgeDomains(id) {
				want, no := w.change(d)
				becomes(t, "Change "+strconv.Itoa(id), g, want.made(), no)(domain.Change(g, d))
			}
		}
	}
	l := vcpusOf(3, 1, 2, 9)
	g := guests([]api.Domain{dom(1, 5, 6, 1), dom(3, 7, 8, 2), dom(8, 9, 0, 3)}, l...)
	becomes(t, "Change", g, guests([]api.Domain{dom(1, 5, 6, 1), dom(3, 70, 80, 0), dom(8, 9, 0, 3)}, l...), api.OK)(domain.Change(g, dom(3, 70, 80, 0)))
	becomes(t, "Change", g, guests([]api.Domain{dom(1, 5, 6, 1), dom(3, 7, 8, 2), dom(8, 1, 800, 0)}, l...), api.OK)(domain.Change(g, dom(8, 1, 800, 0)))
	becomes(t, "Change", g, api.Guests{}, api.ErrNone)(domain.Change(g, dom(2, 70, 80, 0)))
	becomes(t, "Change", g, api.Guests{}, api.ErrNone)(domain.Change(g, dom(7, 70, 80, 0)))
	becomes(t, "Change", api.Guests{}, api.Guests{}, api.ErrNone)(domain.Change(api.Guests{}, dom(1, 1, 0, 0)))
}

// P9.3: a domain that is not there, a mask that may not be, guests and a domain that are full; and each of these errors ahead of those behind it.
func TestAddRefuses(t *testing.T) {
	eight := vcpusOf(2, 1, 2, 3, 4, 5, 6, 7, 8)
	full := guests(rowOf(2, 4, 6), append(slices.Clone(eight), vcpusOf(4, 9, 10, 11, 12, 13, 14, 15, 16)...)...)
	spread := guests(rowOf(2, 4, 6), append(vcpusOf(2, 1, 2, 3, 4, 5, 6, 7), append(vcpusOf(6, 8, 9), vcpusOf(4, 10, 11, 12, 13, 14, 15, 16)...)...)...) // no domain is full
	each := guests(rowOf(2, 4), eight...)
	late := guests(rowOf(2, 4), vcpusOf(2, 9, 10, 11, 12, 13, 14, 15, 16)...)
	for _, c := range []struct {
		g  api.Guests
		id int
		no api.Errno
	}{
		{full, 2, api.ErrFull}, {full, 4, api.ErrFull}, {full, 6, api.ErrFull},
		{spread, 2, api.ErrFull}, {spread, 4, api.ErrFull}, {spread, 6, api.ErrFull},
		{each, 2, api.ErrFull}, {late, 2, api.ErrFull},
		{full, 3, api.ErrNone}, {spread, 8, api.ErrNone}, {each, 1, api.ErrNone}, {late, 3, api.ErrNone}, {late, 9, api.ErrNone}, {late, 0, api.ErrNone}, {full, -1, api.ErrNone},
		{api.Guests{}, 1, api.ErrNone}, {guests(rowOf(1)), 2, api.ErrNone},
	} {
		adds(t, c.g, c.id, of(1, 0), api.Guests{}, 0, c.no)
		want := api.ErrMask
		if c.no == api.ErrNone {
			want = api.ErrNone
		}
		for _, m := range noMasks() {
			adds(t, c.g, c.id, m, api.Guests{}, 0, want)
		}
	}
	for _, m := range noMasks() {
		adds(t, guests(rowOf(1)), 1, m, api.Guests{}, 0, api.ErrMask)
	}
}

// P9.3: the least free Id, where the gap is at the beginning, in the middle, at the end; several gaps; the last room of a domain, and of all.
func TestAdd(t *testing.T) {
	for _, c := range []struct {
		ids  []int
		id   int
		want []int
	}{
		{nil, 1, []int{1}}, {[]int{2}, 1, []int{1, 2}}, {[]int{16}, 1, []int{1, 16}}, {[]int{2, 3, 4}, 1, []int{1, 2, 3, 4}},
		{[]int{1, 3}, 2, []int{1, 2, 3}}, {[]int{1, 2, 4, 5}, 3, []int{1, 2, 3, 4, 5}}, {[]int{1, 16}, 2, []int{1, 2, 16}}, {[]int{1, 2, 3, 5, 7, 16}, 4, []int{1, 2, 3, 4, 5, 7, 16}},
		{[]int{1}, 2, []int{1, 2}}, {[]int{1, 2, 3}, 4, []int{1, 2, 3, 4}}, {[]int{1, 2, 3, 4, 5, 6, 7}, 8, []int{1, 2, 3, 4, 5, 6, 7, 8}},
		{[]int{2, 4, 6}, 1, []int{1, 2, 4, 6}}, {[]int{1, 2, 4, 6}, 3, []int{1, 2, 3, 4, 6}},
	} {
		g := guests(rowOf(3, 5), vcpusOf(5, c.ids...)...)
		for _, m := range edgeMasks() {
			want := vcpusOf(5, c.want...)
			want[slices.Index(c.want, c.id)] = api.Vcpu{Id: c.id, Domain: 3, Mask: m}
			adds(t, g, 3, m, guests(rowOf(3, 5), want...), c.id, api.OK)
		}
		adds(t, g, 5, of(1, 0), guests(rowOf(3, 5), vcpusOf(5, c.want...)...), c.id, api.OK)
	}
}

// P9.3: each way in which one vCPU of all that there can be is not there: that one's Id is free.
func TestAddTheLastOne(t *testing.T) {
	for id := 1; id <= maxVcpus; id++ {
		var w world
		w.domains[1], w.domains[2], w.domains[8] = dom(1, 1, 0, 0), dom(2, 1, 0, 0), dom(8, 5, 0, 3)
		for v := 1; v <= maxVcpus; v++ {
			w.vcpus[v] = vcpu(v, 1+v%2)
		}
		w.vcpus[id] = api.Vcpu{}
		for _, owner := range []int{1 + id%2, 2 - id%2, 8} {
			want, n, no := w.add(owner, of(5, 6))
			if (no == api.OK) != (owner != 2-id%2) || n != 0 && n != id {
				t.Errorf("the vCPU of %d that is added is %d, %d", owner, n, no)
			}
			adds(t, w.made(), owner, of(5, 6), want.made(), n, no)
		}
	}
}

// P9.3: a vCPU that is not there; the first one, one between, the last one; its domain stays.
func TestDrop(t *testing.T) {
	for _, w := range worlds() {
		g := w.made()
		for _, id := range numbers() {
			want, no := w.drop(id)
			becomes(t, "Drop "+strconv.Itoa(id), g, want.made(), no)(domain.Drop(g, id))
		}
	}
	g := guests(rowOf(1, 8), vcpu(1, 8), vcpu(5, 1), vcpu(16, 8))
	becomes(t, "Drop 1", g, guests(rowOf(1, 8), vcpu(5, 1), vcpu(16, 8)), api.OK)(domain.Drop(g, 1))
	becomes(t, "Drop 5", g, guests(rowOf(1, 8), vcpu(1, 8), vcpu(16, 8)), api.OK)(domain.Drop(g, 5))
	becomes(t, "Drop 16", g, guests(rowOf(1, 8), vcpu(1, 8), vcpu(5, 1)), api.OK)(domain.Drop(g, 16))
	for _, id := range []int{0, 2, 4, 6, 8, 15, 17} {
		becomes(t, "Drop "+strconv.Itoa(id), g, api.Guests{}, api.ErrNone)(domain.Drop(g, id))
	}
}

// P9.3: a vCPU that is not there, ahead of a mask that may not be; each mask that may be, of each that is there.
func TestRemask(t *testing.T) {
	for _, w := range worlds()[:60] {
		g := w.made()
		for _, id := range numbers() {
			for _, m := range append(noMasks(), edgeMasks()...) {
				want, no := w.remask(id, m)
				becomes(t, "Remask "+strconv.Itoa(id), g, want.made(), no)(domain.Remask(g, id, m))
			}
		}
	}
	g := guests(rowOf(1), vcpu(1, 1), vcpu(5, 1))
	becomes(t, "Remask 5", g, guests(rowOf(1), vcpu(1, 1), api.Vcpu{Id: 5, Domain: 1, Mask: of(6, 9)}), api.OK)(domain.Remask(g, 5, of(6, 9)))
	becomes(t, "Remask 2", g, api.Guests{}, api.ErrNone)(domain.Remask(g, 2, of(0, 9)))
	becomes(t, "Remask 5", g, api.Guests{}, api.ErrMask)(domain.Remask(g, 5, of(0, 9)))
	becomes(t, "Remask 5", g, api.Guests{}, api.ErrMask)(domain.Remask(g, 5, of(1, 256)))
}

// P9.4: of domains with no vCPU, with one, with several; of pools with no domain, and with domains that have none.
func TestListsRatesAndWeightsByHand(t *testing.T) {
	g := guests([]api.Domain{dom(1, 10, 0, 2), dom(3, 200, 0, 0), dom(4, 3000, 0, 2), dom(7, 40000, 0, 1)},
		vcpu(2, 3), vcpu(3, 4), vcpu(5, 1), vcpu(6, 4), vcpu(16, 4))
	for id, want := range map[int][]int{1: {5}, 2: nil, 3: {2}, 4: {3, 6, 16}, 7: nil, 0: nil, 8: nil, 16: nil, -1: nil} {
		lists(t, "Of", g, id, domain.Of(g, id), want)
	}
	for pool, want := range map[int][]int{0: {2}, 1: nil, 2: {3, 5, 6, 16}, 3: nil, 4: nil, -1: nil} {
		lists(t, "In", g, pool, domain.In(g, pool), want)
	}
	for pool, want := range map[int]int{0: 200, 1: 0, 2: 3010, 3: 0, 4: 0, -1: 0} {
		weighs(t, g, pool, want)
	}
	rates(t, g, 2, 200, 1, true)
	rates(t, g, 3, 3000, 3, true)
	rates(t, g, 5, 10, 1, true)
	rates(t, g, 6, 3000, 3, true)
	rates(t, g, 16, 3000, 3, true)
	for _, id := range []int{0, 1, 4, 7, 15, 17, -1} {
		rates(t, g, id, 0, 0, false)
	}
	var w world
	for id := 1; id <= maxDomains; id++ {
		w.domains[id], w.vcpus[2*id] = dom(id, maxWeight, 0, 3), vcpu(2*id, id)
	}
	weighs(t, w.made(), 3, maxDomains*maxWeight)
	weighs(t, w.made(), 0, 0)
}

// P9.4: of many guests, all numbers.
func TestListsRatesAndWeights(t *testing.T) {
	for _, w := range append(worlds(), world{}) {
		g := w.made()
		for _, n := range numbers() {
			lists(t, "Of", g, n, domain.Of(g, n), w.each(n))
			lists(t, "In", g, n, domain.In(g, n), w.members(func(d api.Domain) bool { return d.Pool == n }))
			weighs(t, g, n, w.weights(n))
			if w.hasVcpu(n) {
				owner := w.vcpus[n].Domain
				rates(t, g, n, w.domains[owner].Weight, len(w.each(owner)), true)
			} else {
				rates(t, g, n, 0, 0, false)
			}
		}
	}
}

// P9.5: what comes of what, by long rows of changes, may be; and is what it is by another way.
func TestWhatComesOfIt(t *testing.T) {
	next := chance()
	done := map[string]int{}
	for range 300 {
		w := world{}
		for range 120 {
			g := w.made()
			id, v, m, d := 1+next(maxDomains), next(maxVcpus+2), someMask(next), someDomain(next, 1+next(maxDomains))
			if next(10) == 0 {
				m.Hard, d.Weight = 0, 0
			}
			var got api.Guests
			var after world
			var n, wantN int
			var no, want api.Errno
			name := []string{"Create", "Add", "Add", "Add", "Change", "Remask", "Drop", "Destroy"}[next(8)]
			switch name {
			case "Create":
				got, no = domain.Create(g, d)
				after, want = w.create(d)
			case "Change":
				got, no = domain.Change(g, d)
				after, want = w.change(d)
			case "Destroy":
				got, no = domain.Destroy(g, id)
				after, want = w.destroy(id)
			case "Add":
				got, n, no = domain.Add(g, id, m)
				after, wantN, want = w.add(id, m)
			case "Drop":
				got, no = domain.Drop(g, v)
				after, want = w.drop(v)
			case "Remask":
				got, no = domain.Remask(g, v, m)
				after, want = w.remask(v, m)
			}
			becomes(t, name, g, after.made(), want)(got, no)
			if n != wantN {
				t.Errorf("%s of %s: %d; want %d", name, tell(g), n, wantN)
			}
			if no == api.OK {
				done[name]++
				checks(t, got, api.OK)
				w = after
			} else {
				done[name+" refused"]++
			}
		}
	}
	if len(done) != 12 {
		t.Errorf("not all was done, and refused: %v", done)
	}
}

// P9.5: each vCPU is of one domain, and in one pool; the rates of a domain's vCPUs are together its Weight.
func TestEachIsOfOneDomain(t *testing.T) {
	for _, w := range worlds() {
		g := w.made()
		of, in, rate := map[int]int{}, map[int]int{}, map[int]int{}
		for id := 1; id <= maxDomains; id++ {
			for _, v := range domain.Of(g, id) {
				of[v]++
				weight, count, _ := domain.Rate(g, v)
				if count != len(domain.Of(g, id)) {
					t.Errorf("Rate(%s, %d): over %d", tell(g), v, count)
				}
				rate[id] += weight // each one over count, which is the same for all
			}
			if d, _ := domain.Domain(g, id); rate[id] != d.Weight*len(domain.Of(g, id)) {
				t.Errorf("%s: the rates of %d are together %d over %d", tell(g), id, rate[id], len(domain.Of(g, id)))
			}
		}
		for pool := range maxPools {
			for _, v := range domain.In(g, pool) {
				in[v]++
			}
		}
		for _, v := range g.Vcpus {
			if of[v.Id] != 1 || in[v.Id] != 1 {
				t.Errorf("%s: %d is of %d domains, in %d pools", tell(g), v.Id, of[v.Id], in[v.Id])
			}
		}
		if len(of) != len(g.Vcpus) || len(in) != len(g.Vcpus) {
			t.Errorf("%s: %d vCPUs are of domains, %d in pools", tell(g), len(of), len(in))
		}
	}
}

// P9.5: what was added and is dropped, created and destroyed, changed and changed back, leads back.
func TestWhatLeadsBack(t *testing.T) {
	next := chance()
	for _, w := range worlds() {
		g := w.made()
		for id := 1; id <= maxDomains; id++ {
			if h, n, no := domain.Add(g, id, someMask(next)); no == api.OK {
				becomes(t, "Drop of what Add adds", g, g, api.OK)(domain.Drop(h, n))
			}
			d := someDomain(next, id)
			if h, no := domain.Create(g, d); no == api.OK {
				becomes(t, "Destroy of what Create makes", g, g, api.OK)(domain.Destroy(h, id))
			}
			was, _ := domain.Domain(g, id)
			if h, no := domain.Change(g, d); no == api.OK {
				becomes(t, "Change back", g, g, api.OK)(domain.Change(h, was))
			}
		}
		for _, v := range g.Vcpus {
			h, _ := domain.Remask(g, v.Id, someMask(next))
			becomes(t, "Remask back", g, g, api.OK)(domain.Remask(h, v.Id, v.Mask))
		}
	}
}

// roomy are the same guests, with others in the room behind the ends of their lists.
func roomy(g api.Guests) (api.Guests, func() api.Guests) {
	l := append(slices.Clone(g.Domains), rowOf(3, 8, 1)...)
	v := append(slices.Clone(g.Vcpus), vcpusOf(3, 5, 16, 1)...)
	all := func() api.Guests {
		return api.Guests{Domains: l, Vcpus: v}
	}
	return api.Guests{Domains: l[:len(g.Domains)], Vcpus: v[:len(g.Vcpus)]}, all
}

// callAll calls all that there is, with many numbers.
func callAll(g api.Guests) {
	domain.Check(g)
	domain.Same(g, g)
	for id := range maxVcpus + 2 {
		for _, weight := range []int{0, 9} {
			domain.Create(g, dom(id, weight, 1, 2))
			domain.Change(g, dom(id, weight, 1, 2))
		}
		for _, m := range []api.Mask{of(0, 0), of(5, 4)} {
			domain.Add(g, id, m)
			domain.Remask(g, id, m)
		}
		domain.Destroy(g, id)
		domain.Drop(g, id)
		domain.Domain(g, id)
		domain.Vcpu(g, id)
		domain.Of(g, id)
		domain.In(g, id)
		domain.Rate(g, id)
		domain.Weights(g, id)
	}
}

// R3: no call changes what it is handed, nor what stands behind its end.
func TestNothingIsChanged(t *testing.T) {
	l := noGuests()
	for _, w := range worlds() {
		l = append(l, w.made())
	}
	for _, g := range l {
		if len(g.Domains)+len(g.Vcpus) > 1000 {
			continue
		}
		h, all := roomy(g)
		was := api.Guests{Domains: slices.Clone(all().Domains), Vcpus: slices.Clone(all().Vcpus)}
		callAll(h)
		if !alike(all(), was) {
			t.Errorf("%s was changed to %s", tell(was), tell(all()))
		}
	}
}

// R3: what stands behind the end of what is handed in does not count.
func TestWhatStandsBehindDoesNotCount(t *testing.T) {
	for _, w := range worlds()[:60] {
		g := w.made()
		h, _ := roomy(g)
		checks(t, h, api.OK)
		same(t, g, h, true)
		for id := 1; id <= maxDomains; id++ {
			d := dom(id, 5, 6, 3)
			want, no := w.create(d)
			becomes(t, "Create", h, want.made(), no)(domain.Create(h, d))
			want, no = w.destroy(id)
			becomes(t, "Destroy", h, want.made(), no)(domain.Destroy(h, id))
			want, n, no := w.add(id, of(3, 1))
			adds(t, h, id, of(3, 1), want.made(), n, no)
			lists(t, "Of", h, id, domain.Of(h, id), w.each(id))
		}
	}
}

// R3: what is answered is new memory: it is nobody else's, neither another answer's nor what was handed in.
func TestAnswersAreNewMemory(t *testing.T) {
	g, all := roomy(guests(rowOf(2, 4, 6), vcpu(2, 2), vcpu(3, 4), vcpu(9, 2)))
	before := api.Guests{Domains: slices.Clone(all().Domains), Vcpus: slices.Clone(all().Vcpus)}
	for where, ask := range map[string]func() (api.Guests, api.Errno){
		"Create":  func() (api.Guests, api.Errno) { return domain.Create(g, dom(7, 1, 0, 0)) },
		"Destroy": func() (api.Guests, api.Errno) { return domain.Destroy(g, 6) },
		"Change":  func() (api.Guests, api.Errno) { return domain.Change(g, dom(2, 1, 0, 0)) },
		"Add":     func() (api.Guests, api.Errno) { h, _, no := domain.Add(g, 4, of(1, 0)); return h, no },
		"Drop":    func() (api.Guests, api.Errno) { return domain.Drop(g, 9) },
		"Remask":  func() (api.Guests, api.Errno) { return domain.Remask(g, 9, of(4, 4)) },
	} {
		one, no := ask()
		other, _ := ask()
		was := api.Guests{Domains: slices.Clone(other.Domains), Vcpus: slices.Clone(other.Vcpus)}
		clear(one.Domains[:cap(one.Domains)])
		clear(one.Vcpus[:cap(one.Vcpus)])
		again, _ := ask()
		if no != api.OK || len(was.Domains) == 0 || !alike(other, was) || !alike(again, was) || !alike(all(), before) {
			t.Errorf("%s: %s, and again %s; want %s; of %s", where, tell(other), tell(again), tell(was), tell(all()))
		}
	}
	for where, ask := range map[string]func() []int{
		"Of": func() []int { return domain.Of(g, 2) },
		"In": func() []int { return domain.In(g, 0) },
	} {
		one, other := ask(), ask()
		clear(one[:cap(one)])
		if len(other) == 0 || slices.Contains(other, 0) || !slices.Equal(other, ask()) {
			t.Errorf("%s: %v, and again %v", where, other, ask())
		}
	}
}

// R3: what is handed in is not kept.
func TestNothingIsKept(t *testing.T) {
	g := guests(rowOf(2, 4), vcpu(2, 2), vcpu(9, 4))
	h, _, _ := domain.Add(g, 4, of(1, 0))
	x, _ := domain.Create(g, rowOf(3)[0])
	clear(g.Domains)
	clear(g.Vcpus)
	if !alike(h, guests(rowOf(2, 4), vcpu(1, 4), vcpu(2, 2), vcpu(9, 4))) || !alike(x, guests(rowOf(2, 3, 4), vcpu(2, 2), vcpu(9, 4))) {
		t.Errorf("what was answered is now %s, %s", tell(h), tell(x))
	}
}

// The chapter's examples.
func TestExamples(t *testing.T) {
	two := dom(2, 256, 0, 0)
	g, no := domain.Create(api.Guests{}, two)
	becomes(t, "Create", api.Guests{}, guests([]api.Domain{two}), api.OK)(g, no)
	becomes(t, "Create", g, api.Guests{}, api.ErrThere)(domain.Create(g, two))
	becomes(t, "Create", g, api.Guests{}, api.ErrArg)(domain.Create(g, dom(9, 256, 0, 0)))
	becomes(t, "Create", g, api.Guests{}, api.ErrArg)(domain.Create(g, dom(3, 0, 0, 0)))
	weighs(t, g, 0, 0)

	one := guests([]api.Domain{two}, vcpu(1, 2))
	both := guests([]api.Domain{two}, vcpu(1, 2), vcpu(2, 2))
	adds(t, g, 2, of(1, 0), one, 1, api.OK)
	weighs(t, one, 0, 256)
	adds(t, one, 2, of(1, 0), both, 2, api.OK)
	rates(t, both, 2, 256, 2, true)

	becomes(t, "Destroy", both, api.Guests{}, api.ErrBusy)(domain.Destroy(both, 2))
	left := guests([]api.Domain{two}, vcpu(2, 2))
	becomes(t, "Drop", both, left, api.OK)(domain.Drop(both, 1))
	adds(t, left, 2, of(3, 0), guests([]api.Domain{two}, api.Vcpu{Id: 1, Domain: 2, Mask: of(3, 0)}, vcpu(2, 2)), 1, api.OK)
}
