package relay_test

import (
	"bytes"
	"math"
	"slices"
	"sync"
	"testing"

	"braidwork/api"
	"braidwork/relay"
	"braidwork/span"
)

// isSent asks of what a relay tells whether it is true, and whether what was taken makes it.
func isSent(t *testing.T, told api.Row, symbols [][]byte, taken [][]byte) {
	t.Helper()
	if want := right(symbols, told.Coefs); !same(told, want) {
		t.Fatalf("%.60x is not true: %.60x", told, want)
	}
	if lead(told.Coefs) < 0 {
		t.Fatal("noughts are sent")
	}
	if has, e := span.Has(taken, told.Coefs); !has || e != api.OK {
		t.Fatalf("%.60x is not made of what was taken: error %d", told.Coefs, e)
	}
}

func TestItRecodesWhatItHas(t *testing.T) { // P14.5: over relays one behind the other, of which each takes what the one ahead sends
	const relays = 4
	for i, x := range sizes {
		some := seeded(i)
		symbols := make([][][]byte, x.width)
		for gen := range symbols {
			symbols[gen] = some.symbols(x.g, x.s)
		}
		var hops [relays]both
		var taken [relays][][][]byte
		for at := range hops {
			hops[at], taken[at] = begin(t, x), make([][][]byte, x.width)
		}
		for round := range 6 * x.g {
			for gen := range uint64(x.width) {
				next := right(symbols[gen], some.bytes(x.g))
				for at, b := range hops {
					if _, e := b.r.Take(gen, next); e != api.OK {
						t.Fatal(e)
					}
					taken[at][gen] = append(taken[at][gen], next.Coefs)
					told, e := b.r.Send(gen, uint64(round), some.bytes(some.below(x.g+2)))
					if e == api.ErrNone && b.r.Rank(gen) == 0 {
						break
					}
					is(t, "Send", e, api.OK)
					isSent(t, told, symbols[gen], taken[at][gen])
					next = told
				}
			}
		}
		for gen := range uint64(x.width) {
			for at, b := range hops {
				rows := b.r.Rows(gen)
				for _, r := range rows {
					isSent(t, r, symbols[gen], taken[at][gen])
				}
				if solved, e := b.r.Solve(gen); e == api.OK && !sameAll(solved, symbols[gen]) || (e == api.OK) != (len(rows) == x.g) {
					t.Fatalf("Solve(%d): %.60x, error %d", gen, solved, e)
				}
			}
		}
	}
}

func TestGenerationsDoNotStandInEachOthersWay(t *testing.T) { // P14.6: each is as in a relay that has it alone
	for i, x := range sizes {
		some := seeded(i)
		base := uint64(some.below(50))
		all := at(t, x, base).r
		alone := make([]*relay.Relay, x.width)
		for n := range alone {
			alone[n] = at(t, x, base).r
		}
		for range 3 * x.g * x.width {
			n := some.below(x.width)
			gen, r := base+uint64(n), some.row(x.g, x.s)
			isNew, e := all.Take(gen, r)
			want, wantErr := alone[n].Take(gen, r)
			if isNew != want || e != wantErr {
				t.Fatalf("Take(%d): %v, error %d, not %v, error %d", gen, isNew, e, want, wantErr)
			}
			var ranks []api.Rank
			for n, one := range alone {
				gen := base + uint64(n)
				if !sameRows(all.Rows(gen), one.Rows(gen)) || all.Rank(gen) != one.Rank(gen) {
					t.Fatalf("%d: %.60x, not %.60x", gen, all.Rows(gen), one.Rows(gen))
				}
				by := some.bytes(some.below(x.g + 2))
				told, e := all.Send(gen, 5, by)
				if want, wantErr := one.Send(gen, 5, by); !same(told, want) || e != wantErr {
					t.Fatalf("Send(%d): %.60x, error %d, not %.60x, error %d", gen, told, e, want, wantErr)
				}
				ranks = append(ranks, one.Ranks()...)
			}
			if !slices.Equal(all.Ranks(), ranks) {
				t.Fatalf("Ranks: %d, not %d", all.Ranks(), ranks)
			}
		}
	}
}

func TestNoMoreThanTheOneAhead(t *testing.T) { // P14.6
	for i, x := range sizes {
		some := seeded(i)
		ahead, behind := begin(t, x), begin(t, x)
		for range 5 * x.g {
			gen := uint64(some.below(x.width))
			ahead.take(t, gen, some.row(x.g, x.s))
			if told, e := ahead.r.Send(gen, uint64(some.below(9)), some.bytes(some.below(x.g+1))); e == api.OK {
				behind.take(t, gen, told)
			}
			if behind.r.Rank(gen) > ahead.r.Rank(gen) {
				t.Fatal(gen, behind.r.Rank(gen), ahead.r.Rank(gen))
			}
		}
	}
}

func TestByTurns(t *testing.T) { // P14.6: as many sends as the one ahead has rows are enough to have as much
	for i, x := range sizes {
		some := seeded(i)
		symbols := some.symbols(x.g, x.s)
		ahead := begin(t, x)
		gen := uint64(x.width - 1)
		for rank := 1; rank <= x.g; rank++ {
			for ahead.r.Rank(gen) < rank {
				ahead.take(t, gen, right(symbols, some.bytes(x.g)))
			}
			for _, sent := range []uint64{0, 1, 2, uint64(rank) - 1, uint64(rank), 1 << 40, 1<<63 + 1, math.MaxUint64 - 255} {
				behind := begin(t, x)
				for n := range uint64(rank) {
					told, e := ahead.r.Send(gen, sent+n, [][]byte{nil, {0}, make([]byte, 300)}[n%3])
					if isNew, f := behind.take(t, gen, told); e != api.OK || f != api.OK || !isNew {
						t.Fatal(rank, sent, n, isNew, e, f)
					}
				}
				if !sameRows(behind.r.Rows(gen), ahead.r.Rows(gen)) {
					t.Fatal("not as much", rank, sent)
				}
			}
		}
	}
}

func TestWhatStays(t *testing.T) { // P14.7: a Move takes away what is outside and nothing else; never more than the width's bases, of g rows each
	for i, x := range sizes {
		for _, start := range []uint64{0, 1 << 33, top - 30} {
			some := seeded(i)
			b := at(t, x, start)
			for range 60 {
				b.takeOnes(t, byte(some.below(256)))
				gen := b.p.base + uint64(some.below(x.width))
				b.take(t, gen, some.row(x.g, x.s))
				rows := map[uint64][]api.Row{}
				for _, rank := range b.r.Ranks() {
					rows[rank.Gen] = b.r.Rows(rank.Gen)
				}
				if len(rows) > x.width {
					t.Fatal(len(rows), x.width)
				}
				b.move(t, min(b.p.base+uint64(some.below(x.width+2)), top))
				if some.below(5) == 0 {
					b.move(t, b.p.base-min(b.p.base, uint64(some.below(x.width+2))))
				}
				for gen, was := range rows {
					now := b.r.Rows(gen)
					if len(was) > x.g || len(now) > 0 && !sameRows(was, now) || len(now) > 0 && !b.r.In(gen) {
						t.Fatal(gen, was, now)
					}
				}
			}
		}
	}
}

func TestMoveTakesNothingElse(t *testing.T) { // P14.7
	for i, x := range sizes {
		for _, base := range []uint64{20, 1 << 36, top - 40} {
			for to := base - 18; to <= base+18; to++ {
				b := at(t, x, base)
				b.fill(t, seeded(i))
				before := map[uint64][]api.Row{}
				for n := range uint64(x.width) {
					before[base+n] = b.r.Rows(base + n)
				}
				is(t, "Move", b.r.Move(to), api.OK)
				for n := range uint64(x.width) {
					want := before[to+n] // none of those that were not in it
					if got := b.r.Rows(to + n); !sameRows(got, want) {
						t.Fatalf("%d, from %d to %d: %.60x, not %.60x", to+n, base, to, got, want)
					}
				}
			}
		}
	}
}

func TestGreatestNumbers(t *testing.T) { // P14.2 to P14.4, P14.7: of MaxG rows, and of MaxS bytes
	some := seeded(3)
	symbols := some.symbols(255, 2)
	r := at(t, size{255, 2, 16}, top-16).r
	for range 258 {
		if _, e := r.Take(top-1, right(symbols, some.bytes(255))); e != api.OK {
			t.Fatal(e)
		}
	}
	if solved, e := r.Solve(top - 1); !sameAll(solved, symbols) || e != api.OK || r.Rank(top-1) != 255 {
		t.Fatal(e, r.Rank(top-1))
	}
	for _, by := range [][]byte{nil, {9}, some.bytes(255), some.bytes(400), make([]byte, 255)} {
		for _, sent := range []uint64{0, 254, 255, 1<<63 + 254, math.MaxUint64} {
			told, e := r.Send(top-1, sent, by)
			coefs := make([]byte, 255)
			if copy(coefs, by); lead(coefs) < 0 {
				coefs[rest(sent, 255)] = 1
			}
			if !same(told, right(symbols, coefs)) || e != api.OK {
				t.Fatal(sent, e)
			}
		}
	}
	wide := begin(t, size{255, 65535, 1})
	wide.take(t, 0, unit(255, 65535, 254, 9))
	wide.take(t, 0, some.row(255, 65535))
	wide.send(t, 0, 1, nil)
	wide.send(t, 0, 0, []byte{3, 4})
}

// spoil writes over all bytes of a list, up to its capacity.
func spoil(b []byte) {
	b = b[:cap(b)]
	for i := range b {
		b[i] ^= 0xa5
	}
}

func spoilRows(l ...api.Row) {
	l = l[:cap(l)]
	for i := range l {
		spoil(l[i].Coefs)
		spoil(l[i].Payload)
		l[i] = api.Row{}
	}
}

func TestToldIsApart(t *testing.T) { // R3: writing to what is told shows neither in the relay nor in another answer
	for i, x := range sizes {
		some := seeded(i)
		b := at(t, x, 4)
		gen := 4 + uint64(x.width/2)
		for range 2*x.g + 2 {
			b.take(t, gen, some.row(x.g, x.s))
			if b.r.Rank(gen) == 0 {
				continue
			}
			by := some.bytes(b.r.Rank(gen))
			sent, e := b.r.Send(gen, 1, by)
			is(t, "Send", e, api.OK)
			turn, _ := b.r.Send(gen, 0, nil)
			kept, keptTurn, rows, symbols, ranks := cloned(sent), cloned(turn), b.r.Rows(gen), b.plainSymbols(gen), b.r.Ranks()
			solved, _ := b.r.Solve(gen)
			for range 2 {
				other, _ := b.r.Send(gen, 1, by)
				again, _ := b.r.Send(gen, 0, nil)
				spoilRows(other, again)
				spoilRows(b.r.Rows(gen)...)
				spoilRows(b.r.Copy().Rows(gen)...)
				otherSolved, _ := b.r.Solve(gen)
				for at := range otherSolved {
					spoil(otherSolved[at])
				}
				clear(otherSolved[:cap(otherSolved)])
				otherRanks := b.r.Ranks()
				clear(otherRanks[:cap(otherRanks)])
				b.looks(t)
			}
			if !same(sent, kept) || !same(turn, keptTurn) || !sameRows(rows, b.p.rows[gen]) || !sameAll(solved, symbols) || !slices.Equal(ranks, b.p.ranks()) {
				t.Fatal("what was told before is another one")
			}
			b.send(t, gen, 1, by)
			b.solve(t, gen)
		}
	}
}

// plainSymbols are those that the plain relay solves, none of a generation of a lesser rank.
func (b both) plainSymbols(gen uint64) [][]byte {
	symbols, _ := b.p.solve(gen)
	return symbols
}

func TestPartsOfWhatIsToldAreApart(t *testing.T) { // R3: no two lists of one answer share memory
	for i, x := range sizes {
		some := seeded(i)
		b := begin(t, x)
		for b.r.Rank(0) < x.g {
			b.take(t, 0, some.row(x.g, x.s))
			if b.r.Rank(0) == 0 {
				continue
			}
			var lists [][]byte
			for _, r := range b.r.Rows(0) {
				lists = append(lists, r.Coefs, r.Payload)
			}
			sent, _ := b.r.Send(0, 0, nil)
			solved, _ := b.r.Solve(0)
			lists = slices.Concat(lists, [][]byte{sent.Coefs, sent.Payload}, solved)
			for at := range lists {
				before := make([][]byte, len(lists))
				for n := range lists {
					before[n] = bytes.Clone(lists[n])
				}
				spoil(lists[at])
				before[at] = lists[at]
				if !sameAll(lists, before) {
					t.Fatal("lists share memory")
				}
			}
			b.looks(t)
		}
	}
}

func TestToldStays(t *testing.T) { // R3: what was told does not change with what comes behind
	b := at(t, size{3, 2, 2}, 1)
	b.take(t, 2, row([]byte{1, 2, 3}, []byte{4, 5}))
	rows, ranks := b.r.Rows(2), b.r.Ranks()
	sent, _ := b.r.Send(2, 0, nil)
	b.take(t, 2, row([]byte{0, 1, 9}, []byte{6, 7}))
	b.take(t, 2, row([]byte{5, 0, 1}, []byte{8, 9}))
	solved, _ := b.r.Solve(2)
	want := b.plainSymbols(2)
	b.move(t, 2)
	b.take(t, 3, row([]byte{7, 7, 7}, []byte{7, 7}))
	b.clear(t)
	b.take(t, 2, row([]byte{9, 9, 9}, []byte{9, 9}))
	first := row([]byte{1, 2, 3}, []byte{4, 5})
	if !sameRows(rows, []api.Row{first}) || !same(sent, first) || !slices.Equal(ranks, []api.Rank{{Gen: 2, Rank: 1}}) || !sameAll(solved, want) {
		t.Fatal("what was told is another one")
	}
}

func TestGivenIsApart(t *testing.T) { // R3: what is given is never written to, and writing to it later shows nowhere
	for i, x := range sizes {
		b := at(t, x, 2)
		some := seeded(i)
		for n := range 3 * x.g {
			memory := some.bytes(2*x.g + x.s + 8)
			kept := bytes.Clone(memory)
			given := row(memory[:x.g], memory[x.g:x.g+x.s])
			if n == 0 {
				copy(memory, unit(x.g, 0, 0, 0).Coefs) // what stands as it came may be kept by mistake
				copy(kept, memory)
			}
			by := memory[x.g+x.s : 2*x.g+x.s]
			gen := 2 + uint64(n%x.width)
			b.take(t, gen, given)
			if b.r.Rank(gen) == 0 {
				continue
			}
			drawn := by[:min(len(by), b.r.Rank(gen))]
			told, _ := b.send(t, gen, 3, drawn)
			want := cloned(told)
			if !bytes.Equal(memory, kept) {
				t.Fatal("what was given was written to")
			}
			spoil(memory)
			b.looks(t)
			if !same(told, want) {
				t.Fatal("what was told is not apart from what was given")
			}
		}
	}
}

func TestTwoRelaysStandApart(t *testing.T) { // R3: by turns, and of the same rows
	for i, x := range sizes {
		some := seeded(i)
		one, other := begin(t, x), begin(t, x)
		for range 40 {
			r, gen := some.row(x.g, x.s), uint64(some.below(x.width))
			one.take(t, gen, r)
			if some.below(2) == 0 {
				other.take(t, gen, r)
			}
			if told, e := one.r.Send(one.p.base, 2, nil); e == api.OK {
				other.take(t, one.p.base, told)
			}
			other.step(t, some)
			one.looks(t)
			one.step(t, some)
			other.looks(t)
		}
	}
}

func TestAskedAtOnce(t *testing.T) { // R7: asking changes nothing, whoever asks beside
	b := at(t, size{9, 5, 6}, 10)
	b.fill(t, seeded(8))
	var group sync.WaitGroup
	wrong := make([]int, 8)
	for worker := range wrong {
		group.Add(1)
		go func() {
			defer group.Done()
			some := seeded(worker)
			for range 200 {
				gen, by := 9+uint64(some.below(8)), some.bytes(some.below(11))
				told, e := b.r.Send(gen, uint64(worker), by)
				want, wantErr := b.p.send(gen, uint64(worker), by)
				c := b.r.Copy()
				c.Move(12)
				c.Clear()
				if e != wantErr || !same(told, want) || !sameRows(b.r.Rows(gen), b.p.rows[gen]) || !slices.Equal(b.r.Ranks(), b.p.ranks()) {
					wrong[worker]++
				}
			}
		}()
	}
	group.Wait()
	if !slices.Equal(wrong, make([]int, 8)) {
		t.Error(wrong)
	}
	b.looks(t)
}
