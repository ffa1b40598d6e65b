package sink_test

import (
	"bytes"
	"slices"
	"sync"
	"testing"

	"braidwork/api"
	"braidwork/source"
)

// step is one call of any kind.
func (h held) step(t *testing.T, x *some) {
	t.Helper()
	gen := h.b.Base() + uint64(x.below(6))
	switch x.below(14) {
	case 0:
		h.b.Move(min(h.p.delivered, top))
	case 1:
		h.b.Move(min(h.b.Base()+uint64(x.below(2)), top))
	case 2:
		h.total(t, h.p.delivered+uint64(x.below(4))-1)
	case 3, 4, 5, 6:
		h.release(t)
	case 7:
		if x.below(6) == 0 {
			h.b.Clear()
		}
	default:
		if h.symbols[gen] == nil {
			h.lay(gen, laidOf(x.chunk(h.p.g, h.p.s), h.p.g, h.p.s))
			if x.below(25) == 0 {
				h.symbols[gen][h.p.g-1][h.p.s-1] ^= 1
				h.symbols[gen][0][0] ^= byte(x.below(2))
			}
		}
		for range x.below(h.p.g + 2) {
			h.b.Take(gen, right(h.symbols[gen], x.bytes(h.p.g)))
		}
	}
}

func TestLongRowsOfCalls(t *testing.T) { // P15.1 to P15.3
	for i, x := range sizes {
		for n, start := range []uint64{0, 14, 1 << 32, top - 9} {
			for seed := range 8 {
				some := seeded(100*i + 10*n + seed)
				h := begin(t, x, start, start)
				for range 150 {
					h.step(t, some)
				}
			}
		}
	}
}

// stream is one that some pieces were submitted to, flushed between or not, and closed; and its chunks, by hand.
func (x *some) stream(t *testing.T, g, s int) (*source.Source, [][]byte) {
	t.Helper()
	from, e := source.New(g, s)
	is(t, "source.New", e, api.OK)
	var chunks [][]byte
	var open []byte
	room := g*s - 4
	for range 3 + x.below(12) {
		piece := x.bytes(x.below(2*room + 2))
		is(t, "source.Submit", from.Submit(piece, top), api.OK)
		for open = append(open, piece...); len(open) >= room; open = open[room:] {
			chunks = append(chunks, bytes.Clone(open[:room]))
		}
		if x.below(3) == 0 {
			is(t, "source.Flush", from.Flush(), api.OK)
			if len(open) > 0 {
				chunks, open = append(chunks, open), nil
			}
		}
	}
	is(t, "source.Close", from.Close(), api.OK)
	if len(open) > 0 {
		chunks = append(chunks, open)
	}
	if from.Gens() != uint64(len(chunks)) {
		t.Fatal(from.Gens(), len(chunks))
	}
	return from, chunks
}

// carried takes rows of a source into the sink's relay in any order until all is delivered, and tells what was, in order.
// It asks at each step that just those were released that could be.
func carried(t *testing.T, x size, h held, from *source.Source, some *some, hasMoves bool) [][]byte {
	t.Helper()
	for gen := range from.Gens() {
		symbols, _ := from.Symbols(gen)
		h.lay(gen, symbols)
	}
	var delivered [][]byte
	for step := 0; !h.k.Done(); step++ {
		if step > 100000 {
			t.Fatal("it does not get there:", h.k.Delivered(), from.Gens())
		}
		gen := h.b.Base() + uint64(some.below(x.width))
		r, e := from.Row(gen, some.bytes(x.g))
		if some.below(2) == 0 {
			r, e = from.Send(gen, uint64(some.below(2*x.g)), some.bytes(x.g))
		}
		if e == api.OK {
			_, e = h.b.Take(gen, r)
			is(t, "relay.Take", e, api.OK)
		}
		if some.below(5) > 0 {
			continue
		}
		ahead := h.k.Delivered()
		told, e := h.release(t)
		is(t, "Release", e, api.OK)
		delivered = append(delivered, told...)
		for n := range uint64(len(told)) {
			if h.b.Rank(ahead+n) != x.g {
				t.Fatal("released of rank", h.b.Rank(ahead+n))
			}
		}
		if next := h.k.Delivered(); h.b.In(next) && h.b.Rank(next) == x.g {
			t.Fatal("not released:", next)
		}
		if next := h.k.Delivered(); hasMoves && some.below(2) == 0 || !h.b.In(next) {
			is(t, "relay.Move", h.b.Move(next), api.OK)
		}
	}
	return delivered
}

func TestInOrderOnce(t *testing.T) { // P15.4: rows of a source's generations in any order, with the relay moved on in between or not
	for i, x := range sizes {
		for seed := range 6 {
			some := seeded(10*i + seed)
			from, chunks := some.stream(t, x.g, x.s)
			first := uint64(some.below(len(chunks) + 1))
			h := begin(t, x, first, first)
			is(t, "Total", h.total(t, from.Gens()), api.OK)
			delivered := carried(t, x, h, from, some, seed%2 == 0)
			if !sameAll(delivered, chunks[first:]) {
				t.Fatalf("%d from %d on: %.60q, not %.60q", x, first, delivered, chunks[first:])
			}
			if stream := from.Stream(); !bytes.Equal(slices.Concat(delivered...), stream[len(slices.Concat(chunks[:first]...)):]) {
				t.Fatal("what is released is not the stream's end")
			}
		}
	}
}

func TestInOrderOverSeveralRelays(t *testing.T) { // P15.4: a relay that is another one goes on where the one ahead ended
	for i, x := range sizes {
		some := seeded(i)
		from, chunks := some.stream(t, x.g, x.s)
		h := begin(t, x, 0, 0)
		for gen := range from.Gens() {
			symbols, _ := from.Symbols(gen)
			h.lay(gen, symbols)
		}
		var delivered [][]byte
		for h.k.Delivered() < from.Gens() {
			next := h.k.Delivered()
			h.b = relayOf(t, x, next-min(next, uint64(some.below(x.width))))
			for gen := h.b.Base(); h.b.In(gen) && gen < from.Gens(); gen++ {
				if gen == next || some.below(3) > 0 {
					h.rows(t, gen, x.g)
				}
			}
			told, e := h.release(t)
			is(t, "Release", e, api.OK)
			delivered = append(delivered, told...)
		}
		if !sameAll(delivered, chunks) {
			t.Fatalf("%.60q, not %.60q", delivered, chunks)
		}
	}
}

// spoil writes over all bytes of a list, up to its capacity.
func spoil(b []byte) {
	b = b[:cap(b)]
	for i := range b {
		b[i] ^= 0xa5
	}
}

// filled is a sink over a relay all of whose generations are whole, and their chunks.
func filled(t *testing.T, x size, start uint64, some *some) (held, [][]byte) {
	t.Helper()
	h := begin(t, x, start, start)
	var chunks [][]byte
	for n := range uint64(x.width) {
		chunks = append(chunks, h.chunk(t, start+n, some.chunk(x.g, x.s)))
	}
	return h, chunks
}

func TestToldIsApart(t *testing.T) { // R3: writing to it shows neither in the relay, nor in the sink, nor in another answer
	for i, x := range sizes {
		h, chunks := filled(t, x, 4, seeded(i))
		want := clones(chunks)
		before := h.b.Copy()
		other := over(t, x.g, x.s, 4, h.b)
		other.symbols = h.symbols
		told, _ := h.release(t)
		kept, _ := other.release(t)
		for at := range told {
			spoil(told[at])
			for n := at + 1; n < len(told); n++ {
				if !bytes.Equal(told[n], want[n]) {
					t.Fatal("two chunks of one answer share memory")
				}
			}
		}
		clear(told[:cap(told)])
		if !sameAll(kept, want) {
			t.Fatal("two answers share memory")
		}
		sameRelay(t, h.b, before)
		h.looks(t)
		h.releases(t)
		third := over(t, x.g, x.s, 4, h.b)
		third.symbols = h.symbols
		third.releases(t, want...)
	}
}

func TestToldBesideAnErrorIsApart(t *testing.T) { // R3
	h := begin(t, size{2, 3, 4}, 0, 0)
	h.chunk(t, 0, []byte("ab"))
	h.chunk(t, 1, []byte("c"))
	h.whole(t, 2, symbolsOf([]byte{9}, 2, 3))
	told, e := h.release(t)
	is(t, "Release", e, api.ErrForm)
	spoil(told[0])
	if !bytes.Equal(told[1], []byte("c")) {
		t.Error("two chunks of one answer share memory")
	}
	clear(told[:cap(told)])
	h.breaks(t)
}

func TestToldStays(t *testing.T) { // R3: what was told does not change with what comes behind
	h, chunks := filled(t, size{3, 4, 3}, 5, seeded(2))
	want := clones(chunks)
	told, _ := h.release(t)
	h.b.Clear()
	h.chunk(t, 5, []byte("zzzz"))
	h.b.Move(8)
	h.releases(t, h.chunk(t, 8, []byte("later")))
	h.whole(t, 9, symbolsOf([]byte{1}, 3, 4))
	h.breaks(t)
	if !sameAll(told, want) {
		t.Errorf("%q, not %q", told, want)
	}
}

func TestTwoSinksStandApart(t *testing.T) { // R3: over one relay, by turns; one broken, one told a total, one further on
	h := begin(t, size{2, 3, 8}, 0, 0)
	ahead := over(t, 2, 3, 2, h.b)
	other := over(t, 2, 3, 0, h.b)
	ahead.symbols, other.symbols = h.symbols, h.symbols
	all := []held{h, ahead, other}
	look := func() {
		t.Helper()
		for _, one := range all {
			one.looks(t)
		}
	}
	h.chunk(t, 0, []byte("a"))
	h.chunk(t, 2, []byte("c"))
	ahead.releases(t, []byte("c"))
	look()
	h.releases(t, []byte("a"))
	look()
	h.total(t, 4)
	look()
	ahead.total(t, 5)
	look()
	h.whole(t, 3, symbolsOf([]byte{0, 0, 1}, 2, 3))
	ahead.breaks(t)
	look()
	h.chunk(t, 1, []byte("b"))
	other.breaks(t, []byte("a"), []byte("b"), []byte("c"))
	look()
	h.breaks(t, []byte("b"), []byte("c"))
	look()
}

func TestAskedAtOnce(t *testing.T) { // R7: sinks over one relay, whatever goroutines there are
	h, chunks := filled(t, size{5, 7, 9}, 3, seeded(4))
	var group sync.WaitGroup
	sinks, wrong := make([]held, 8), make([]int, 8)
	for worker := range sinks {
		sinks[worker] = over(t, 5, 7, 3+uint64(worker), h.b)
		group.Add(1)
		go func() {
			defer group.Done()
			k := sinks[worker].k
			if told, e := k.Release(h.b); !sameAll(told, chunks[worker:]) || e != api.OK {
				wrong[worker]++
			}
			if told, e := k.Release(h.b); len(told) != 0 || e != api.OK || k.Total(12) != api.OK || !k.Done() {
				wrong[worker]++
			}
		}()
	}
	group.Wait()
	if !slices.Equal(wrong, make([]int, 8)) {
		t.Error(wrong)
	}
}
