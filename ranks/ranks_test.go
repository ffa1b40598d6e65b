package ranks_test

import (
	"math"
	"slices"
	"testing"

	"braidwork/api"
	"braidwork/ranks"
)

func TestExamples(t *testing.T) { // the chapter's examples
	x := ranks.New()
	if x.Known() {
		t.Fatal("New: something is known")
	}
	is(t, "Take", x.Take(1, 5, 3, []api.Rank{{Gen: 3, Rank: 2}}), api.OK)
	if x.Base() != 3 || x.Rank(3) != 2 || x.Rank(4) != 0 {
		t.Fatal(x.Base(), x.Rank(3), x.Rank(4))
	}
	is(t, "Take of a lesser count", x.Take(1, 4, 9, nil), api.ErrEpoch)
	is(t, "Take of the same number", x.Take(1, 5, 9, nil), api.ErrEpoch)
	is(t, "Take of a greater life", x.Take(2, 1, 0, nil), api.OK)
	if x.Base() != 0 {
		t.Fatal(x.Base())
	}
	if !x.Wants(1, 1, 4) || x.Wants(1, 0, 4) || x.Wants(4, 1, 4) {
		t.Fatal(x.Wants(1, 1, 4), x.Wants(1, 0, 4), x.Wants(4, 1, 4))
	}
}

// isEmpty asks for what is told where nothing was.
func isEmpty(t *testing.T, x *ranks.Told) {
	t.Helper()
	if x.Known() || x.Life() != 0 || x.Base() != 0 || len(x.Ranks()) != 0 {
		t.Fatal(x.Known(), x.Life(), x.Base(), x.Ranks())
	}
	for _, gen := range append([]uint64{0, 1, 15, 16, top - 1, top}, beyondTop...) {
		if x.Rank(gen) != 0 {
			t.Fatal(gen, x.Rank(gen))
		}
		for _, width := range []int{math.MinInt, -1, 0, 1, 4, 16, 17, math.MaxInt} {
			for _, own := range []int{math.MinInt, -1, 0, 1, 255, math.MaxInt} {
				if x.Wants(gen, own, width) {
					t.Fatal(gen, own, width)
				}
			}
		}
	}
}

func TestNew(t *testing.T) { // P18.1, P18.3: nothing was told
	for range 3 { // each lives apart
		x := ranks.New()
		isEmpty(t, x)
		isEmpty(t, x.Copy())
		is(t, "Take", x.Take(1, 1, 0, pairs(0, 1)), api.OK)
	}
}

func TestNone(t *testing.T) { // P18.1, P18.2: ErrNil ahead of all else, and 0, none, false
	for _, x := range []*ranks.Told{nil, {}, new(ranks.Told)} {
		for range 2 { // nothing that was asked makes it any
			isEmpty(t, x)
			for _, life := range append([]uint64{0, 1, most}, beyond...) {
				for _, base := range append([]uint64{0, 5, top}, beyondTop...) {
					for _, l := range [][]api.Rank{nil, {}, pairs(base, 1), pairs(9, 0), pairs(2, 1, 1, 1)} {
						is(t, "Take", x.Take(life, 1, base, l), api.ErrNil)
						is(t, "Take", x.Take(1, life, base, l), api.ErrNil)
					}
				}
			}
			if x.Copy() != nil {
				t.Fatal("a copy of none")
			}
		}
	}
}

func TestTellsWhatWasTold(t *testing.T) { // P18.1: with lives, counts, bases and ranks of all sizes
	some := seeded(3)
	for _, base := range bases {
		for i, life := range great {
			having(t, telling{life, great[(5*i+2)%len(great)], base, some.list(base)})
		}
	}
}

func TestEachRank(t *testing.T) { // P18.1: each generation and each rank by itself, and all of them
	for rank := 1; rank <= 255; rank++ {
		gen := uint64(7 + rank%16)
		x := having(t, telling{1, 1, 7, []api.Rank{{Gen: gen, Rank: rank}}})
		if x.t.Rank(gen) != rank || !x.t.Wants(gen, rank+1, 16) || x.t.Wants(gen, rank, 16) {
			t.Fatal(gen, rank, x.t.Rank(gen))
		}
	}
	for _, base := range bases {
		var all []api.Rank
		for i := range uint64(16) {
			if gen := base + i; gen < top {
				all = append(all, api.Rank{Gen: gen, Rank: int(255 - 16*i)})
				having(t, telling{2, 3, base, all[i:]})
			}
		}
		having(t, telling{2, 3, base, all})
	}
}

func TestEachPattern(t *testing.T) { // P18.1: all sets of generations of a window, of a base within and at the end
	for _, base := range []uint64{3, top - 16, top - 11} {
		for set := range 1 << 16 {
			m := telling{life: 1, count: 1, base: base}
			for i := range uint64(16) {
				if set>>i&1 != 0 {
					m.l = append(m.l, api.Rank{Gen: base + i, Rank: 1 + (set+int(i))%255})
				}
			}
			x := told{ranks.New(), &plainTold{}}
			if e := x.take(t, m); e == api.OK && base+16 > top && set>>(top-base) != 0 {
				t.Fatalf("%+v", m)
			}
			for i := range uint64(18) {
				if gen := base + i - 1; x.t.Rank(gen) != x.p.rank(gen) {
					t.Fatalf("Rank(%d) of %+v: %d", gen, m, x.t.Rank(gen))
				}
			}
		}
	}
}

// told5 took a telling of life 3 and count 7, base 5, of generations 5, 6 and 9.
func told5(t *testing.T) told {
	t.Helper()
	return having(t, telling{3, 7, 5, pairs(5, 1, 6, 255, 9, 4)})
}

func TestTakeOfNumbersThatMayNotBe(t *testing.T) { // P18.2: ErrArg, ahead of ErrEpoch
	for _, x := range []told{begun(t), told5(t)} {
		for _, other := range []uint64{0, 1, 3, 7, 8, most, most + 1} {
			for _, wrong := range append([]uint64{0}, beyond...) {
				x.takes(t, telling{wrong, other, 5, nil}, api.ErrArg)
				x.takes(t, telling{other, wrong, 5, nil}, api.ErrArg)
				x.takes(t, telling{other, wrong, 5, pairs(5, 1)}, api.ErrArg)
			}
			if other == 0 || other > most {
				continue
			}
			for _, wrong := range beyondTop {
				x.takes(t, telling{other, other, wrong, nil}, api.ErrArg)
				x.takes(t, telling{other, other, wrong, pairs(wrong, 1)}, api.ErrArg)
				x.takes(t, telling{other, other, wrong, pairs(5, 1)}, api.ErrArg)
			}
		}
	}
}

func TestTakeAtTheEnds(t *testing.T) { // P18.2: 1 and 2^50 of lives and counts, a base of 2^40
	for _, life := range []uint64{1, 2, most - 1, most} {
		for _, count := range []uint64{1, 2, most - 1, most} {
			for _, base := range []uint64{0, top - 1, top} {
				having(t, telling{life, count, base, nil})
			}
			having(t, telling{life, count, 0, pairs(0, 1)})
			having(t, telling{life, count, top - 1, pairs(top-1, 255)})
			having(t, telling{life, count, top - 16, pairs(top-16, 9, top-1, 255)})
			begun(t).takes(t, telling{life, count, top, pairs(top, 1)}, api.ErrArg)
			begun(t).takes(t, telling{life, count, top, pairs(top-1, 1)}, api.ErrArg)
			begun(t).takes(t, telling{life, count, top - 1, pairs(top-1, 1, top, 1)}, api.ErrArg)
		}
	}
}

// edgeGens are generations round the ends of a telling of that base, and those that are right when some bits are seen.
func edgeGens(base uint64) []uint64 {
	gens := []uint64{0, 1, top - 1, top, top + 1, base - 2, base - 1, base, base + 1, base + 2, base + 14, base + 15, base + 16, base + 17}
	gens = append(gens, base+1<<32, base+top, base+1<<53, base+1<<63, base^1<<39, math.MaxUint64-1, math.MaxUint64)
	slices.Sort(gens)
	return slices.Compact(gens)
}

func TestTakeOfEachGeneration(t *testing.T) { // P18.2: below the base, in it, beyond it, and where no generation is
	for _, base := range bases {
		for _, gen := range edgeGens(base) {
			for _, m := range []telling{{1, 9, base, pairs(gen, 1)}, {3, 7, base, pairs(gen, 255)}, {3, 8, base, pairs(gen, 7)}} {
				isIn := gen >= base && gen-base <= 15 && gen <= top-1
				if isIn != m.mayBe() {
					t.Fatalf("%+v", m)
				}
				begun(t).take(t, m)
				x := told5(t)
				if e := x.take(t, m); (e == api.ErrArg) == isIn {
					t.Fatalf("%+v: error %d", m, e)
				}
			}
		}
	}
}

func TestTakeOfGenerationsInARow(t *testing.T) { // P18.2: each two and three that rise, stand twice, or fall
	for _, base := range []uint64{0, 1, 7, 1<<32 - 8, top - 17, top - 16, top - 15, top - 2, top} {
		gens, refused, taken := edgeGens(base), 0, 0
		count := func(e api.Errno) {
			if e == api.ErrArg {
				refused++
			} else {
				taken++
			}
		}
		for _, a := range gens {
			for _, b := range gens {
				count(told5(t).take(t, telling{3, 8, base, pairs(a, 1, b, 2)}))
				for _, c := range gens {
					x := told{ranks.New(), &plainTold{}}
					count(x.take(t, telling{3, 8, base, pairs(a, 1, b, 2, c, 3)}))
				}
			}
		}
		if refused == 0 || taken == 0 && base < top-2 {
			t.Fatal(base, refused, taken)
		}
	}
}

func TestTakeOfEachRank(t *testing.T) { // P18.2: 1 to 255 alone, wherever it stands
	wrong := []int{0, -1, -2, -255, -256, math.MinInt32, math.MinInt + 7, math.MinInt, 256, 257, 258, 511, 512, 65536, 65537, 1<<32 + 1, 1<<62 + 3, math.MaxInt}
	for _, rank := range append([]int{1, 2, 127, 128, 254, 255}, wrong...) {
		want := api.OK
		if slices.Contains(wrong, rank) {
			want = api.ErrArg
		}
		for at := range 4 {
			m := telling{4, 1, 20, pairs(20, 3, 21, 4, 34, 5, 35, 6)}
			m.l[at].Rank = rank
			begun(t).takes(t, m, want)
			told5(t).takes(t, m, want)
			m.life = 2
			if want == api.OK {
				told5(t).takes(t, m, api.ErrEpoch)
			} else {
				told5(t).takes(t, m, api.ErrArg)
			}
		}
	}
}

func TestTakeOfManyRanks(t *testing.T) { // P18.2: no more than a window has may rise
	for n := range 40 {
		m := telling{life: 1, count: 1, base: 3}
		for i := range n {
			m.l = append(m.l, api.Rank{Gen: uint64(3 + i), Rank: 1})
		}
		want := api.OK
		if n > 16 {
			want = api.ErrArg
		}
		begun(t).takes(t, m, want)
	}
	same := slices.Repeat(pairs(3, 1), 1<<20)
	begun(t).takes(t, telling{1, 1, 3, same}, api.ErrArg)
}

func TestTakeOfNoRanks(t *testing.T) { // P18.2: a list of none, of either sort, leaves none
	for _, l := range [][]api.Rank{nil, {}, pairs(5, 1)[:0]} {
		x := told5(t)
		x.takes(t, telling{3, 8, 5, l}, api.OK)
		if len(x.t.Ranks()) != 0 || x.t.Rank(5) != 0 || !x.t.Known() {
			t.Fatal(x.t.Ranks())
		}
		begun(t).takes(t, telling{1, 1, 0, l}, api.OK)
	}
}

func TestLaterAlone(t *testing.T) { // P18.2: a greater life, or the same one and a greater count
	for _, c := range []struct {
		life, count uint64
		want        api.Errno
	}{
		{3, 7, api.ErrEpoch}, {3, 6, api.ErrEpoch}, {3, 1, api.ErrEpoch},
		{2, 7, api.ErrEpoch}, {2, 8, api.ErrEpoch}, {1, most, api.ErrEpoch}, {2, most, api.ErrEpoch},
		{3, 8, api.OK}, {3, most, api.OK}, {4, 1, api.OK}, {4, 6, api.OK}, {4, 7, api.OK}, {most, 1, api.OK}, {4, most, api.OK},
	} {
		for _, m := range []telling{{c.life, c.count, 9, pairs(11, 2)}, {c.life, c.count, 5, nil}, {c.life, c.count, 5, pairs(5, 1, 6, 255, 9, 4)}} {
			x := told5(t)
			x.takes(t, m, c.want)
			x.takes(t, m, api.ErrEpoch)
		}
	}
}

func TestLaterOfEachTwo(t *testing.T) { // P18.2: numbers of all sizes, close by and far off
	for i, a := range great {
		for j, b := range great {
			want, other := api.ErrEpoch, api.ErrEpoch
			if j > i {
				want = api.OK
			}
			x := having(t, telling{5, a, 1, pairs(2, 3)})
			is(t, "Take of the life", x.take(t, telling{5, b, 2, nil}), want)
			x = having(t, telling{a, 5, 1, pairs(2, 3)})
			if j > i {
				other = api.OK
			}
			is(t, "Take of another life and a greater count", x.copied().take(t, telling{b, 4, 2, nil}), other)
			if j >= i {
				other = api.OK
			}
			is(t, "Take of another life and a lesser count", x.copied().take(t, telling{b, 6, 2, nil}), other)
		}
	}
}

func TestEachTakeOfSmallNumbers(t *testing.T) { // P18.2: all rows of three tellings of small lives and counts
	var all []telling
	for life := range uint64(4) {
		for count := range uint64(4) {
			base := 4*life + count
			all = append(all, telling{life, count, base, pairs(base, 1+life, base+1+count, 1+count)})
		}
	}
	for _, a := range all {
		for _, b := range all {
			x := begun(t)
			x.take(t, a)
			x.take(t, b)
			for _, c := range all {
				x.copied().takes(t, c, x.copied().p.take(c))
			}
		}
	}
}

func TestGivenIsNotKept(t *testing.T) { // P18.2: apart from what was given, which may be written to
	l := make([]api.Rank, 0, 16)
	l = append(l, pairs(5, 1, 6, 2, 9, 3)...)
	x := begun(t)
	x.takes(t, telling{1, 1, 5, l}, api.OK)
	spoil(l)
	x.looks(t)
	clear(l[:cap(l)])
	x.looks(t)
	l = append(l[:0], pairs(7, 8, 8, 9)...)
	x.looks(t)
	x.takes(t, telling{1, 2, 5, l}, api.OK)
	spoil(l)
	x.looks(t)
	l[0] = api.Rank{Gen: 0, Rank: -1}
	x.takes(t, telling{1, 3, 5, l}, api.ErrArg)
	spoil(l)
	x.looks(t)
}

func TestToldMayBeWrittenTo(t *testing.T) { // P18.1: Ranks tells new memory
	x := told5(t)
	first, second := x.t.Ranks(), x.t.Ranks()
	spoil(first)
	_ = append(first[:1], pairs(70, 80, 90, 100)...)
	if !slices.Equal(second, pairs(5, 1, 6, 255, 9, 4)) {
		t.Fatal(second)
	}
	x.looks(t)
	copied := x.copied()
	spoil(copied.t.Ranks())
	copied.looks(t)
	x.looks(t)
	// What was told goes back as a telling, and is still not kept.
	x.takes(t, telling{3, 8, 5, second}, api.OK)
	spoil(second)
	x.looks(t)
}

func TestCopy(t *testing.T) { // P18.1: it has the same, and lives apart on either side
	for _, begin := range []func(*testing.T) told{begun, told5} {
		x := begin(t)
		y := x.copied()
		z := y.copied()
		y.looks(t)
		x.takes(t, telling{4, 1, 30, pairs(30, 7, 45, 8)}, api.OK)
		y.looks(t)
		z.looks(t)
		z.takes(t, telling{4, 1, 40, pairs(41, 3)}, api.OK)
		y.takes(t, telling{3, 8, 6, pairs(6, 1, 7, 2, 8, 3, 9, 4)}, api.OK)
		x.looks(t)
		z.looks(t)
		x.takes(t, telling{4, 1, 1, nil}, api.ErrEpoch)
		x.takes(t, telling{4, 2, 31, pairs(31, 1)}, api.OK)
		y.looks(t)
		z.looks(t)
	}
}

func TestWants(t *testing.T) { // P18.3: each window, round its ends, and each number of rows of one's own
	owns := []int{math.MinInt, math.MinInt32, -256, -1, 0, 1, 2, 3, 4, 5, 254, 255, 256, 257, 65536, 1<<32 + 1, math.MaxInt}
	widths := []int{math.MinInt, -1<<32 + 4, -17, -16, -1, 17, 18, 20, 32, 255, 256, 260, 1 << 16, 1<<32 + 4, 1 << 40, 1<<62 + 5, math.MaxInt}
	for width := range 17 {
		widths = append(widths, width)
	}
	for _, base := range bases {
		m := telling{life: 1, count: 1, base: base}
		for i, rank := range []int{4, 0, 1, 255, 0, 0, 2, 0, 254, 0, 0, 0, 0, 0, 3, 3} {
			if gen := base + uint64(i); rank > 0 && gen < top {
				m.l = append(m.l, api.Rank{Gen: gen, Rank: rank})
			}
		}
		x := having(t, m)
		for _, width := range widths {
			gens := append([]uint64{base - 1, base - 2, top - 1, top, top + 1}, edgeGens(base)...)
			for i := range uint64(19) {
				gens = append(gens, base+i)
			}
			for _, gen := range gens {
				for _, own := range owns {
					x.wants(t, gen, own, width, x.p.wants(gen, own, width))
				}
			}
		}
		x.tells(t)
	}
}

func TestWantsInWords(t *testing.T) { // P18.3: the edges, one by one
	x := having(t, telling{1, 1, 10, pairs(10, 2, 13, 255)})
	for _, c := range []struct {
		gen        uint64
		own, width int
		want       bool
	}{
		{9, 255, 4, false}, {10, 3, 4, true}, {10, 2, 4, false}, {10, 1, 4, false}, {10, 0, 4, false}, {10, -1, 4, false},
		{11, 1, 4, true}, {11, 0, 4, false}, {11, -1, 4, false},
		{13, 255, 4, false}, {13, 256, 4, true}, {13, 256, 3, false}, {12, 1, 3, true}, {14, 1, 4, false}, {14, 1, 5, true},
		{10, 3, 1, true}, {11, 1, 1, false}, {10, 3, 0, false}, {10, 3, -1, false}, {10, 3, 16, true}, {10, 3, 17, false},
		{25, 1, 16, true}, {26, 1, 16, false}, {26, 1, 17, false}, {math.MaxUint64, 1, 16, false}, {top, 1, 16, false},
	} {
		x.wants(t, c.gen, c.own, c.width, c.want)
	}
	x = having(t, telling{1, 1, top - 2, pairs(top-1, 1)})
	x.wants(t, top-2, 1, 16, true)
	x.wants(t, top-1, 2, 16, true)
	x.wants(t, top-1, 2, 2, true)
	x.wants(t, top-1, 2, 1, false)
	x.wants(t, top-1, 1, 16, false)
	x.wants(t, top, 1, 16, false)
	x.wants(t, top+1, 1, 16, false)
	x = having(t, telling{1, 1, top, nil})
	x.wants(t, top, 1, 16, false)
	x.wants(t, top-1, 1, 16, false)
	x.wants(t, top+1, 1, 16, false)
}
