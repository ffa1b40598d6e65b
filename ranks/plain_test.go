package ranks_test

import (
	"math"
	"slices"
	"testing"

	"braidwork/api"
	"braidwork/ranks"
)

// most is the greatest of lives and counts.
const most = uint64(1) << 50

// top is the greatest of bases; of it, and of what is above it, no rank is told.
const top = uint64(1) << 40

// beyond are numbers above the greatest count, those among them that are right when only some of their bits are seen.
var beyond = []uint64{
	most + 1, most + 2, most + 5, 2 * most, 1<<53 + 1, 1<<62 + 3, 1 << 63, 1<<63 + 4,
	math.MaxUint64 - most, math.MaxUint64 - 1, math.MaxUint64,
}

// beyondTop are numbers above the greatest base, likewise.
var beyondTop = append([]uint64{top + 1, top + 2, top + 15, top + 16, top + 17, 2 * top, 2*top + 3, 1 << 48, most}, beyond...)

// great are lives and counts of all sizes, those among them that a small float would not hold.
var great = []uint64{
	1, 2, 3, 255, 256, 1<<24 - 1, 1 << 24, 1<<24 + 1, 1<<31 - 1, 1<<31 + 1, 1<<32 - 1, 1 << 32, 1<<32 + 1,
	1<<40 - 1, 1 << 40, 1<<40 + 1, 1<<49 - 1, 1 << 49, 1<<49 + 1, most - 3, most - 2, most - 1, most,
}

// bases are some of all sizes, round all edges.
var bases = []uint64{
	0, 1, 2, 7, 15, 16, 17, 100, 255, 256, 1<<24 - 3, 1<<24 + 1, 1<<31 - 5, 1<<32 - 16, 1<<32 - 15, 1<<32 - 1, 1 << 32, 1<<32 + 9,
	1<<39 - 1, 1<<39 + 1, 987654321012, top - 100, top - 18, top - 17, top - 16, top - 15, top - 14, top - 3, top - 2, top - 1, top,
}

// telling is a life, a count, a base and ranks.
type telling struct {
	life, count, base uint64
	l                 []api.Rank
}

// pairs is ranks, each a generation and how many rows it has.
func pairs(numbers ...uint64) []api.Rank {
	var l []api.Rank
	for i := 0; i+1 < len(numbers); i += 2 {
		l = append(l, api.Rank{Gen: numbers[i], Rank: int(numbers[i+1])})
	}
	return l
}

// mayBe tells by the chapter's words whether the telling may be.
func (m telling) mayBe() bool {
	if m.life < 1 || m.life > most || m.count < 1 || m.count > most || m.base > top {
		return false
	}
	for i, r := range m.l {
		switch {
		case i > 0 && r.Gen <= m.l[i-1].Gen, r.Gen < m.base, r.Gen-m.base >= 16, r.Gen >= top:
			return false
		case r.Rank <= 0, r.Rank > 255:
			return false
		}
	}
	return true
}

// isLater tells whether m is later than n.
func (m telling) isLater(n telling) bool {
	if m.life == n.life {
		return m.count > n.count
	}
	return m.life > n.life
}

// clone is the same in memory of its own.
func (m telling) clone() telling {
	m.l = slices.Clone(m.l)
	return m
}

// plainTold is a Told by the chapter's words, to be held against the program: all that was taken, the last one behind.
type plainTold struct{ taken []telling }

func (p *plainTold) take(m telling) api.Errno {
	if !m.mayBe() {
		return api.ErrArg
	}
	for _, n := range p.taken {
		if !m.isLater(n) {
			return api.ErrEpoch
		}
	}
	p.taken = append(p.taken, m.clone())
	return api.OK
}

func (p *plainTold) known() bool { return len(p.taken) > 0 }

// last is what was told last, or all 0.
func (p *plainTold) last() telling {
	if !p.known() {
		return telling{}
	}
	return p.taken[len(p.taken)-1]
}

func (p *plainTold) rank(gen uint64) int {
	for _, r := range p.last().l {
		if r.Gen == gen {
			return r.Rank
		}
	}
	return 0
}

func (p *plainTold) wants(gen uint64, own, width int) bool {
	if !p.known() || width > 16 {
		return false
	}
	for i := range width {
		if n := p.last().base + uint64(i); n == gen && n < top {
			return own > p.rank(gen)
		}
	}
	return false
}

// is holds an error against the one that it has to be.
func is(t *testing.T, what string, e, want api.Errno) {
	t.Helper()
	if e != want {
		t.Fatalf("%s: error %d, not %d", what, e, want)
	}
}

// told is a Told, and the plain one of which the same was asked.
type told struct {
	t *ranks.Told
	p *plainTold
}

// begun is a new one.
func begun(t *testing.T) told {
	t.Helper()
	x := told{ranks.New(), &plainTold{}}
	x.looks(t)
	return x
}

// having is a new one that took m.
func having(t *testing.T, m telling) told {
	t.Helper()
	x := begun(t)
	x.takes(t, m, api.OK)
	return x
}

// asked are the generations that a telling is asked of: those round its base and round the ends of all windows, those that
// are the same as one of its own when only some of their bits are seen, and the greatest ones.
func (m telling) asked() []uint64 {
	all := []uint64{0, 1, top - 1, top, top + 1, most, 1 << 63, math.MaxUint64}
	for i := range uint64(20) {
		all = append(all, m.base+i-2) // below 0 these are numbers among the greatest
	}
	for _, r := range m.l {
		g := r.Gen
		all = append(all, g+1<<32, g+top, g+1<<53, g+1<<63, g^1<<39, uint64(uint32(g)), uint64(uint8(g)), -g)
	}
	return all
}

// looks asks whether all that is told is as of the plain one.
func (x told) looks(t *testing.T) {
	t.Helper()
	x.tells(t)
	last := x.p.last()
	for _, gen := range last.asked() {
		rank := x.p.rank(gen)
		if got := x.t.Rank(gen); got != rank {
			t.Fatalf("Rank(%d) of %+v: %d, not %d", gen, last, got, rank)
		}
		for _, width := range []int{0, 1, 4, 15, 16, 17} {
			for _, own := range []int{rank - 1, rank, rank + 1} {
				x.wants(t, gen, own, width, x.p.wants(gen, own, width))
			}
		}
	}
	x.counts(t)
	x.tells(t)
}

// tells asks for Known, Life, Base and Ranks.
func (x told) tells(t *testing.T) {
	t.Helper()
	last := x.p.last()
	if known, life, base := x.t.Known(), x.t.Life(), x.t.Base(); known != x.p.known() || life != last.life || base != last.base {
		t.Fatalf("Known, Life, Base: %v, %d, %d, not as of %+v", known, life, base, last)
	}
	if l := x.t.Ranks(); !slices.Equal(l, last.l) {
		t.Fatalf("Ranks: %v, not as of %+v", l, last)
	}
}

// counts asks, of copies, for the count that was told, which no call tells: whether what comes is later hangs on it.
func (x told) counts(t *testing.T) {
	t.Helper()
	if !x.p.known() {
		return
	}
	last := x.p.last()
	is(t, "Take of the same number", x.t.Copy().Take(last.life, last.count, 0, nil), api.ErrEpoch)
	if last.count < most {
		is(t, "Take of the next count", x.t.Copy().Take(last.life, last.count+1, 0, nil), api.OK)
	}
}

// wants asks for that answer.
func (x told) wants(t *testing.T, gen uint64, own, width int, want bool) {
	t.Helper()
	if got := x.t.Wants(gen, own, width); got != want {
		t.Fatalf("Wants(%d, %d, %d) of %+v: %v", gen, own, width, x.p.last(), got)
	}
}

// take asks both, which have to answer the same and to be the same behind it; what was given is as it was.
func (x told) take(t *testing.T, m telling) api.Errno {
	t.Helper()
	ahead, given := x.p.last(), m.clone()
	e, want := x.t.Take(m.life, m.count, m.base, m.l), x.p.take(m)
	if e != want {
		t.Fatalf("Take of %+v behind %+v: error %d, not %d", m, ahead, e, want)
	}
	if !slices.Equal(m.l, given.l) {
		t.Fatalf("Take of %+v wrote to what was given: %v", given, m.l)
	}
	x.tells(t)
	return e
}

// takes asks for that error, and all that is told.
func (x told) takes(t *testing.T, m telling, want api.Errno) {
	t.Helper()
	if e := x.take(t, m); e != want {
		t.Fatalf("Take of %+v: error %d, not %d", m, e, want)
	}
	x.looks(t)
}

// copied is a copy of both.
func (x told) copied() told {
	return told{x.t.Copy(), &plainTold{slices.Clone(x.p.taken)}}
}

// spoil writes to all ranks.
func spoil(l []api.Rank) {
	for i := range l {
		l[i] = api.Rank{Gen: l[i].Gen ^ 5, Rank: l[i].Rank + 9}
	}
}

// some makes numbers, always the same ones of one seed.
type some uint64

func seeded(seed int) *some {
	x := some(seed)*104729 + 11
	return &x
}

func (x *some) below(n int) int {
	*x = *x*6364136223846793005 + 1442695040888963407
	return int(uint64(*x)>>33) % n
}

// number is one of a few, now and then one of any size, or one that may not be.
func (x *some) number() uint64 {
	switch x.below(16) {
	case 0:
		return beyond[x.below(len(beyond))]
	case 1:
		return great[x.below(len(great))]
	case 2:
		return 0
	}
	return uint64(1 + x.below(6))
}

// list is ranks that a telling of that base may have.
func (x *some) list(base uint64) []api.Rank {
	var l []api.Rank
	for gen := base; gen < base+16 && gen < top; gen++ {
		if x.below(3) == 0 {
			l = append(l, api.Rank{Gen: gen, Rank: 1 + x.below(255)})
		}
	}
	return l
}

// telling is any one; not all of them may be.
func (x *some) telling() telling {
	m := telling{life: x.number(), count: x.number(), base: uint64(x.below(40))}
	if x.below(4) == 0 {
		m.base = bases[x.below(len(bases))]
	}
	m.l = x.list(m.base)
	if len(m.l) > 0 && x.below(8) == 0 {
		at := x.below(len(m.l))
		switch x.below(4) {
		case 0:
			m.l[at].Rank = []int{0, 256, -1}[x.below(3)]
		case 1:
			m.l[at].Gen = m.base + 16 + uint64(x.below(3))
		case 2:
			m.l[at].Gen = m.base - 1 - uint64(x.below(3))
		case 3:
			m.l = append(m.l, m.l[at])
		}
	}
	if x.below(24) == 0 {
		m.base = beyondTop[x.below(len(beyondTop))]
	}
	return m
}

// shuffled are those tellings in any order.
func (x *some) shuffled(tellings []telling) []telling {
	tellings = slices.Clone(tellings)
	for i := range tellings {
		j := i + x.below(len(tellings)-i)
		tellings[i], tellings[j] = tellings[j], tellings[i]
	}
	return tellings
}
