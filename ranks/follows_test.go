package ranks_test

import (
	"slices"
	"sync"
	"testing"

	"braidwork/api"
	"braidwork/ranks"
)

// orders goes through all orders of those tellings.
func orders(tellings []telling, do func(order []telling)) {
	var lay func(order, left []telling)
	lay = func(order, left []telling) {
		if len(left) == 0 {
			do(order)
		}
		for i, m := range left {
			lay(append(slices.Clone(order), m), slices.Delete(slices.Clone(left), i, i+1))
		}
	}
	lay(nil, tellings)
}

// latest is the one of those tellings than which none is later.
func latest(tellings []telling) telling {
	for _, m := range tellings {
		if !slices.ContainsFunc(tellings, func(n telling) bool { return n.isLater(m) }) {
			return m
		}
	}
	return telling{}
}

// hasTold asks whether that is what was told last.
func hasTold(t *testing.T, x *ranks.Told, m telling) {
	t.Helper()
	if !x.Known() || x.Life() != m.life || x.Base() != m.base || !slices.Equal(x.Ranks(), m.l) {
		t.Fatalf("%d, %d, %v, not as of %+v", x.Life(), x.Base(), x.Ranks(), m)
	}
	is(t, "Take of its number", x.Take(m.life, m.count, 0, nil), api.ErrEpoch)
}

// sets are tellings of unlike numbers: close by, of lives and counts that do not rise together, and of all sizes.
func sets() [][]telling {
	var all [][]telling
	for _, numbers := range [][]uint64{
		{1, 1, 1, 2, 1, 3, 1, 4, 1, 5, 1, 6},
		{1, 3, 2, 2, 3, 1, 1, 4, 2, 5, 3, 2},
		{1, most, 2, 1, 2, most, 3, 1, most, 1, most, most},
		{1 << 24, 1<<24 + 1, 1<<24 + 1, 1 << 24, 1<<32 + 1, 1 << 32, 1 << 32, 1<<32 + 1, 1<<49 + 1, 1, most - 1, most - 1},
	} {
		var set []telling
		for i := 0; i < len(numbers); i += 2 {
			m := telling{life: numbers[i], count: numbers[i+1], base: uint64(90 - 11*i%60)}
			m.l = seeded(i + len(all)).list(m.base)
			set = append(set, m)
		}
		all = append(all, set)
	}
	return all
}

func TestLatestOfEachOrder(t *testing.T) { // P18.4: whatever the order, it is the latest one; likewise of those that came so far
	for _, set := range sets() {
		orders(set, func(order []telling) {
			x := ranks.New()
			for i, m := range order {
				last, want := latest(order[:i+1]), api.ErrEpoch
				if last.life == m.life && last.count == m.count {
					want = api.OK
				}
				is(t, "Take", x.Take(m.life, m.count, m.base, m.l), want)
				hasTold(t, x, last)
			}
			hasTold(t, x, latest(set))
		})
	}
}

func TestLatestOfThoseThatComeOften(t *testing.T) { // P18.4: each comes once, twice, or many times
	for seed := range 3000 {
		some := seeded(seed)
		set := sets()[seed%len(sets())]
		set = set[:1+some.below(len(set))]
		often := slices.Clone(set)
		for range some.below(20) {
			often = append(often, set[some.below(len(set))])
		}
		x := ranks.New()
		for _, m := range some.shuffled(often) {
			x.Take(m.life, m.count, m.base, m.l)
		}
		hasTold(t, x, latest(set))
	}
}

func TestLatestAmongOnesThatMayNotBe(t *testing.T) { // P18.4, P18.5: later ones that may not be don't count
	for seed := range 2000 {
		some, taken := seeded(seed+5000), []telling(nil)
		x := begun(t)
		for range 30 {
			m := some.telling()
			if m.mayBe() && !slices.ContainsFunc(taken, func(n telling) bool { return n.life == m.life && n.count == m.count }) {
				taken = append(taken, m.clone())
			}
			x.take(t, m)
			spoil(m.l)
		}
		x.looks(t)
		if len(taken) > 0 {
			hasTold(t, x.t, latest(taken))
		}
	}
}

// answers are what a Told tells of generations from 0 on and close to the end, without Takes.
type answers struct {
	known      bool
	life, base uint64
	l          []api.Rank
	rank       [80]int
	wants      [80]bool
}

func answersOf(x *ranks.Told) answers {
	a := answers{known: x.Known(), life: x.Life(), base: x.Base(), l: x.Ranks()}
	for i := range uint64(80) {
		gen := i
		if i >= 60 {
			gen = top + i - 75
		}
		a.rank[i] = x.Rank(gen)
		a.wants[i] = x.Wants(gen, 3, 7)
	}
	return a
}

func (a answers) same(b answers) bool {
	return a.known == b.known && a.life == b.life && a.base == b.base && slices.Equal(a.l, b.l) && a.rank == b.rank && a.wants == b.wants
}

func TestRefusedChangesNothing(t *testing.T) { // P18.5: every answer is as it was, and what comes behind it is too
	refused, taken := 0, 0
	for seed := range 600 {
		some := seeded(seed + 9000)
		x := begun(t)
		// clean is told only what is not refused.
		clean := ranks.New()
		for range 40 {
			m := some.telling()
			was := answersOf(x.t)
			if e := x.take(t, m); e != api.OK {
				refused++
				if !was.same(answersOf(x.t)) {
					t.Fatalf("%+v is refused, and changes %+v to %+v", m, was, answersOf(x.t))
				}
			} else {
				taken++
				is(t, "Take of what the other one took", clean.Take(m.life, m.count, m.base, m.l), api.OK)
			}
			if !answersOf(clean).same(answersOf(x.t)) {
				t.Fatalf("%+v, and without what was refused %+v", answersOf(x.t), answersOf(clean))
			}
		}
		x.looks(t)
	}
	if refused < 5000 || taken < 1000 {
		t.Fatal("too few:", refused, taken)
	}
}

func TestEachRefused(t *testing.T) { // P18.5: each sort of a telling that is refused, and the next one goes well
	wrong := []telling{
		{0, 8, 5, nil}, {3, 0, 5, nil}, {most + 1, 8, 5, nil}, {4, most + 1, 5, nil}, {4, 8, top + 1, nil},
		{4, 8, 5, pairs(4, 1)}, {4, 8, 5, pairs(21, 1)}, {4, 8, 5, pairs(7, 0)}, {4, 8, 5, pairs(7, 256)},
		{4, 8, 5, pairs(7, 1, 7, 1)}, {4, 8, 5, pairs(8, 1, 7, 1)}, {4, 8, 5, pairs(5, 9, 6, 9, 7, 9, 21, 1)},
		{4, 8, top, pairs(top, 1)}, {4, 8, top - 1, pairs(top-1, 1, top, 1)},
		{3, 7, 6, pairs(6, 2)}, {3, 6, 6, pairs(6, 2)}, {2, 9, 6, pairs(6, 2)},
	}
	for _, m := range wrong {
		x := told5(t)
		was := answersOf(x.t)
		for range 2 {
			if e := x.take(t, m); e == api.OK {
				t.Fatalf("%+v is taken", m)
			}
			if !was.same(answersOf(x.t)) {
				t.Fatalf("%+v changes %+v to %+v", m, was, answersOf(x.t))
			}
		}
		x.looks(t)
		x.takes(t, telling{3, 8, 6, pairs(6, 3)}, api.OK)
		y := begun(t)
		if !m.mayBe() {
			y.takes(t, m, api.ErrArg)
			y.takes(t, telling{1, 1, 0, pairs(0, 1)}, api.OK)
		}
	}
}

func TestEachStandsApart(t *testing.T) { // each keeps what it was told, and no other
	var all []told
	for range 6 {
		all = append(all, begun(t))
	}
	some := seeded(77)
	for range 3000 {
		at := some.below(6)
		switch some.below(12) {
		case 0:
			all[at] = all[some.below(6)].copied()
		case 1:
			all[at] = begun(t)
		default:
			all[at].take(t, some.telling())
		}
		for _, x := range all {
			x.tells(t)
		}
	}
	for _, x := range all {
		x.looks(t)
	}
}

func TestWhateverGoroutinesThereAre(t *testing.T) { // R7: questions alone change nothing, whoever asks; and each may have one of its own
	shared := told5(t)
	want := answersOf(shared.t)
	run := func(seed int) []answers {
		some, own := seeded(seed), ranks.New()
		var told []answers
		for range 60 {
			m := some.telling()
			own.Take(m.life, m.count, m.base, m.l)
			told = append(told, answersOf(own))
		}
		return told
	}
	at := make([][]answers, 16)
	wrong := make([]bool, 16)
	var all sync.WaitGroup
	for i := range at {
		all.Go(func() {
			at[i] = run(i % 3)
			for range 50 {
				wrong[i] = wrong[i] || !want.same(answersOf(shared.t)) || !want.same(answersOf(shared.t.Copy()))
			}
		})
	}
	all.Wait()
	for i, told := range at {
		if wrong[i] || !slices.EqualFunc(told, run(i%3), answers.same) {
			t.Fatal(i)
		}
	}
}
