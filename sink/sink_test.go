package sink_test

import (
	"bytes"
	"math"
	"slices"
	"testing"

	"braidwork/api"
	"braidwork/relay"
	"braidwork/sink"
)

func TestExamples(t *testing.T) { // P15.1 to P15.3
	b, e := relay.New(2, 3, 4)
	is(t, "relay.New", e, api.OK)
	for _, c := range []struct {
		gen            uint64
		coefs, payload []byte
	}{{0, []byte{1, 0}, []byte{0, 0, 0}}, {0, []byte{0, 1}, []byte{1, 'a', 0}}, {1, []byte{1, 0}, []byte{0, 0, 0}}} {
		if isNew, e := b.Take(c.gen, api.Row{Coefs: c.coefs, Payload: c.payload}); !isNew || e != api.OK {
			t.Fatal(isNew, e)
		}
	}
	k, e := sink.New(2, 3, 0)
	is(t, "New(2, 3, 0)", e, api.OK)
	if told, e := k.Release(b); !sameAll(told, [][]byte{[]byte("a")}) || e != api.OK {
		t.Errorf("Release: %q, error %d", told, e)
	}
	if told, e := k.Release(b); len(told) != 0 || e != api.OK {
		t.Errorf("Release again: %q, error %d", told, e)
	}
	if got := k.Delivered(); got != 1 {
		t.Error("Delivered:", got)
	}
	is(t, "Total(1)", k.Total(1), api.OK)
	if !k.Done() {
		t.Error("it is not done")
	}
	is(t, "Total(2)", k.Total(2), api.ErrThere)
	is(t, "Total(0)", k.Total(0), api.ErrArg)
}

func TestNew(t *testing.T) { // P15.1: both ends of each bound, and wrong numbers
	numbers := []int{
		0, 1, 2, 3, 4, 5, 6, 254, 255, 256, 257, 65534, 65535, 65536, 65537, 1 << 32, 1<<32 + 5, 1 << 62, math.MaxInt,
		-1, -2, -3, -5, -255, -65535, -1 << 32, 5 - 1<<32, math.MinInt + 1, math.MinInt,
	}
	for _, g := range numbers {
		for _, s := range numbers {
			mayBe := g >= 1 && g <= 255 && s >= 1 && s <= 65535 && g*s > 4
			for _, delivered := range slices.Concat(starts, beyond) {
				if mayBe && delivered <= top {
					over(t, g, s, delivered, nil).looks(t)
				} else if k, e := sink.New(g, s, delivered); k != nil || e != api.ErrArg {
					t.Fatalf("New(%d, %d, %d): %v, error %d, not ErrArg", g, s, delivered, k != nil, e)
				}
			}
		}
	}
}

func TestWhichGenerationsMayBe(t *testing.T) { // P15.1: by hand
	for _, c := range []struct {
		g, s  int
		mayBe bool
	}{
		{1, 4, false}, {1, 5, true}, {2, 2, false}, {2, 3, true}, {3, 1, false}, {4, 1, false}, {5, 1, true},
		{1, 65535, true}, {1, 65536, false}, {255, 1, true}, {256, 1, false}, {255, 65535, true}, {256, 65535, false}, {255, 65536, false},
		{0, 5, false}, {5, 0, false}, {-1, -5, false}, {-5, -1, false},
	} {
		k, e := sink.New(c.g, c.s, 0)
		if (k != nil) != c.mayBe || (e == api.OK) != c.mayBe {
			t.Errorf("New(%d, %d, 0): %v, error %d", c.g, c.s, k != nil, e)
		}
	}
}

func TestANewSink(t *testing.T) { // P15.1: it has delivered as many as it was told, and nothing else is known of it
	for _, delivered := range starts {
		k, e := sink.New(2, 3, delivered)
		is(t, "New", e, api.OK)
		total, isTold := k.Known()
		if k.Delivered() != delivered || total != 0 || isTold || k.Done() || k.Broken() {
			t.Error(delivered, k.Delivered(), total, isTold, k.Done(), k.Broken())
		}
	}
}

func TestDone(t *testing.T) { // P15.1: with fewer delivered than there are, just as many, more
	h := begin(t, size{2, 3, 4}, 5, 5)
	for _, c := range []struct {
		gen  uint64
		done bool
	}{{5, false}, {6, true}, {7, false}} {
		h.releases(t, h.chunk(t, c.gen, []byte("xy")))
		if c.gen == 5 {
			is(t, "Total(7)", h.total(t, 7), api.OK)
		}
		if total, isTold := h.k.Known(); total != 7 || !isTold || h.k.Done() != c.done {
			t.Fatalf("delivered %d: Known %d, %v, Done %v", h.k.Delivered(), total, isTold, h.k.Done())
		}
	}
	for _, delivered := range starts {
		h := begin(t, size{2, 3, 1}, delivered, 0)
		if h.k.Done() {
			t.Error("done without a total:", delivered)
		}
		h.total(t, delivered)
		if total, isTold := h.k.Known(); total != delivered || !isTold || !h.k.Done() {
			t.Error(delivered, total, isTold, h.k.Done())
		}
	}
}

// isNone asks for all calls of no sink, none of which may change that.
func isNone(t *testing.T, k *sink.Sink) {
	t.Helper()
	full := begin(t, size{2, 3, 4}, 0, 0)
	full.chunk(t, 0, []byte("ab"))
	bad := begin(t, size{1, 5, 4}, 0, 0)
	bad.whole(t, 0, symbolsOf(nil, 1, 5))
	for range 2 {
		for _, b := range []*relay.Relay{nil, {}, full.b, bad.b, relayOf(t, size{2, 3, 4}, 0)} {
			if told, e := k.Release(b); len(told) != 0 || e != api.ErrNil {
				t.Fatalf("Release: %q, error %d, not ErrNil", told, e)
			}
		}
		for _, n := range slices.Concat(starts, beyond) {
			is(t, "Total", k.Total(n), api.ErrNil)
		}
		total, isTold := k.Known()
		if k.Delivered() != 0 || total != 0 || isTold || k.Done() || k.Broken() {
			t.Fatal(k.Delivered(), total, isTold, k.Done(), k.Broken())
		}
	}
}

func TestNoSink(t *testing.T) { // P15.1 to P15.3: ErrNil ahead of all else
	isNone(t, nil)
	isNone(t, &sink.Sink{})
	isNone(t, new(sink.Sink))
	wrong, _ := sink.New(2, 2, 0)
	isNone(t, wrong)
	wrong, _ = sink.New(2, 3, top+1)
	isNone(t, wrong)
}

// broken is a sink that met symbols that are no chunk's.
func broken(t *testing.T, delivered uint64) held {
	t.Helper()
	h := begin(t, size{2, 3, 4}, delivered, delivered)
	h.whole(t, delivered, symbolsOf([]byte{0, 0, 0, 0, 'a'}, 2, 3))
	h.breaks(t)
	return h
}

func TestReleaseOfNoRelay(t *testing.T) { // P15.2: ErrNil, also of a broken sink; it changes nothing
	fresh, done, bad := begin(t, size{2, 3, 4}, 3, 3), begin(t, size{2, 3, 4}, top, top), broken(t, 7)
	done.total(t, top)
	for _, h := range []held{fresh, done, bad} {
		for range 2 {
			if told, e := h.k.Release(nil); len(told) != 0 || e != api.ErrNil {
				t.Fatalf("Release(nil): %q, error %d, not ErrNil", told, e)
			}
			h.looks(t)
		}
	}
	fresh.releases(t, fresh.chunk(t, 3, []byte("ab")))
}

func TestReleaseOfARelayThatNothingMade(t *testing.T) { // P15.2: it is not nil, and solves nothing
	h := begin(t, size{2, 3, 4}, 0, 0)
	if told, e := h.k.Release(&relay.Relay{}); len(told) != 0 || e != api.OK {
		t.Errorf("Release: %q, error %d", told, e)
	}
	h.looks(t)
	bad := broken(t, 0)
	if told, e := bad.k.Release(&relay.Relay{}); len(told) != 0 || e != api.ErrForm {
		t.Errorf("Release, broken: %q, error %d, not ErrForm", told, e)
	}
	bad.looks(t)
}

func TestReleaseAtEachRank(t *testing.T) { // P15.2: of no rows, of fewer than g, of just g, and rows that are not new between
	for i, x := range sizes {
		for _, delivered := range starts[:len(starts)-1] {
			some := seeded(i)
			h := begin(t, x, delivered, delivered)
			chunk := some.chunk(x.g, x.s)
			h.lay(delivered, laidOf(chunk, x.g, x.s))
			for rank := range x.g {
				h.releases(t)
				h.take(t, delivered, make([]byte, x.g))
				h.releases(t)
				coefs := some.bytes(x.g)
				clear(coefs[rank+1:])
				coefs[rank] = byte(rank) + 1
				h.take(t, delivered, coefs)
				if got := h.b.Rank(delivered); got != rank+1 {
					t.Fatal(got, rank)
				}
				if rank+1 < x.g {
					h.take(t, delivered, coefs)
				}
			}
			h.releases(t, chunk)
			h.releases(t)
			h.take(t, delivered, some.bytes(x.g))
			h.releases(t)
		}
	}
}

func TestReleaseOutsideTheWindow(t *testing.T) { // P15.2: the next generation is ahead of the window, its first, its last, behind it
	for width := uint64(1); width <= 16; width++ {
		for _, base := range []uint64{0, 1, 16, 17, 1 << 32, top - 20, top - 16, top - 1} {
			whole := begin(t, size{2, 3, int(width)}, 0, base)
			for gen := base; gen < min(base+width, top); gen++ {
				whole.chunk(t, gen, []byte{byte(gen), 1})
			}
			asked := []uint64{0, base, base + 1, base + width/2, base + width - 1, base + width, base + width + 1, base + 2*width, base + width<<32, top}
			for _, delivered := range append(asked, base-min(base, 1), base-min(base, width)) {
				if delivered > top {
					continue
				}
				h := over(t, 2, 3, delivered, whole.b)
				h.symbols = whole.symbols
				told, _ := h.release(t)
				want := uint64(0)
				if delivered >= base && delivered < base+width {
					want = min(base+width, top) - delivered
				}
				if uint64(len(told)) != want {
					t.Fatalf("%d, %d from %d on: %q", delivered, width, base, told)
				}
				for n, chunk := range told {
					if !bytes.Equal(chunk, []byte{byte(delivered + uint64(n)), 1}) {
						t.Fatalf("%d, %d from %d on: %q", delivered, width, base, told)
					}
				}
				h.releases(t)
			}
		}
	}
}

func TestReleaseOfSeveral(t *testing.T) { // P15.2: whichever are whole, and wherever the next one is
	const width = 6
	for _, base := range []uint64{0, 4, 1 << 33, top - 9} {
		for start := range uint64(width) {
			for whole := range 1 << width {
				h := begin(t, size{3, 2, width}, base+start, base)
				var want [][]byte
				for n := range uint64(width) {
					chunk := []byte{byte(n), byte(whole)}[:1+n%2]
					if whole>>n&1 == 1 {
						h.chunk(t, base+n, chunk)
					} else {
						h.lay(base+n, laidOf(chunk, 3, 2))
						h.rows(t, base+n, int(n)%3)
					}
					if n >= start && whole>>start&(1<<(n-start+1)-1) == 1<<(n-start+1)-1 {
						want = append(want, chunk)
					}
				}
				h.releases(t, want...)
				if got := h.k.Delivered(); got != base+start+uint64(len(want)) {
					t.Fatal(got, base, start, want)
				}
				h.releases(t)
			}
		}
	}
}

func TestReleaseOfWhatWasMissing(t *testing.T) { // P15.2: one that comes later lets those behind it go
	h := begin(t, size{2, 3, 4}, 8, 8)
	h.chunk(t, 9, []byte("b"))
	h.chunk(t, 10, []byte("cd"))
	h.releases(t)
	h.releases(t)
	h.chunk(t, 8, []byte("aa"))
	h.releases(t, []byte("aa"), []byte("b"), []byte("cd"))
	h.releases(t)
	h.chunk(t, 11, []byte("e"))
	is(t, "Move", h.b.Move(11), api.OK)
	h.releases(t, []byte("e"))
	h.chunk(t, 13, []byte("g"))
	h.releases(t)
	is(t, "Move", h.b.Move(13), api.OK) // 12 is lost: nothing can come any more
	h.releases(t)
	is(t, "Move", h.b.Move(9), api.OK)
	h.chunk(t, 12, []byte("f"))
	h.releases(t, []byte("f")) // 13 is not in the window
	if got := h.k.Delivered(); got != 13 {
		t.Error("Delivered:", got)
	}
}

func TestReleaseAlsoBeyondTheTotal(t *testing.T) { // P15.2 hangs on what the relay has alone
	h := begin(t, size{2, 3, 4}, 0, 0)
	h.total(t, 1)
	h.releases(t, h.chunk(t, 0, []byte("a")), h.chunk(t, 1, []byte("b")))
	if h.k.Done() {
		t.Error("done with more than there are")
	}
	is(t, "Total(1)", h.total(t, 1), api.ErrArg)
	is(t, "Total(2)", h.total(t, 2), api.ErrThere)
}

// noChunks are symbols of g and s that are no chunk's, as they are laid.
func noChunks(g, s int) map[string][]byte {
	room := g*s - 4
	number := func(n uint32) []byte { return []byte{byte(n >> 24), byte(n >> 16), byte(n >> 8), byte(n)} }
	last := append(number(uint32(room)), make([]byte, room)...)
	last[3]--
	last[len(last)-1] = 1
	l := map[string][]byte{
		"noughts":              nil,
		"no bytes, then some":  append(number(0), 'x'),
		"one more than room":   append(number(uint32(room)+1), bytes.Repeat([]byte{'x'}, room)...),
		"with the header":      append(number(uint32(g*s)), bytes.Repeat([]byte{'x'}, room)...),
		"the greatest number":  number(math.MaxUint32),
		"a number with a sign": number(1 << 31),
		"room and 2^24":        number(uint32(room) | 1<<24),
		"the number turned":    {1, 0, 0, 0},
	}
	if room > 1 {
		l["the last byte is behind the chunk"] = last
		l["one byte is behind the chunk"] = append(number(1), 'x', 'y')
	}
	return l
}

func TestSymbolsOfNoChunk(t *testing.T) { // P15.2: first of all, and behind some that are a chunk's; what stands behind is not looked at
	for i, x := range sizes {
		for what, laid := range noChunks(x.g, x.s) {
			for ahead := range x.width {
				for _, delivered := range []uint64{0, 9, top - uint64(x.width)} {
					some := seeded(i)
					h := begin(t, x, delivered, delivered)
					var want [][]byte
					for n := range x.width {
						gen := delivered + uint64(n)
						if n == ahead {
							h.whole(t, gen, symbolsOf(laid, x.g, x.s))
						} else if chunk := h.chunk(t, gen, some.chunk(x.g, x.s)); n < ahead {
							want = append(want, chunk)
						}
					}
					h.breaks(t, want...)
					if got := h.k.Delivered(); got != delivered+uint64(ahead) {
						t.Fatalf("%s: Delivered %d, not %d", what, got, delivered+uint64(ahead))
					}
				}
			}
		}
	}
}

func TestSymbolsOfNoChunkBehindARelease(t *testing.T) { // P15.2: what was released ahead of it stays; until its turn comes nothing is broken
	h := begin(t, size{2, 3, 4}, 0, 0)
	h.whole(t, 2, symbolsOf([]byte{0, 0, 0, 3, 1, 2}, 2, 3))
	h.releases(t)
	h.releases(t, h.chunk(t, 0, []byte("a")))
	h.lay(1, laidOf([]byte("b"), 2, 3))
	h.rows(t, 1, 1)
	h.releases(t)
	h.rows(t, 1, 2)
	h.breaks(t, []byte("b"))
	if got := h.k.Delivered(); got != 2 {
		t.Error("Delivered:", got)
	}
}

func TestBrokenStays(t *testing.T) { // P15.2: whatever the relay has, and whichever it is
	for _, x := range sizes {
		for _, delivered := range []uint64{0, 6, top - 1} {
			h := begin(t, x, delivered, delivered)
			h.whole(t, delivered, symbolsOf(nil, x.g, x.s))
			h.breaks(t)
			h.b.Clear()
			h.breaks(t)
			h.chunk(t, delivered, []byte{5})
			h.breaks(t)
			is(t, "Move", h.b.Move(delivered+1), api.OK)
			h.breaks(t)
			h.b = relayOf(t, x, delivered)
			h.breaks(t)
			h.chunk(t, delivered, []byte{6})
			h.breaks(t)
			h.b = relayOf(t, size{9, 9, 9}, delivered)
			h.breaks(t)
			if h.k.Delivered() != delivered {
				t.Fatal(h.k.Delivered(), delivered)
			}
			another := over(t, x.g, x.s, delivered, relayOf(t, x, delivered))
			another.releases(t, another.chunk(t, delivered, []byte{7}))
		}
	}
}

func TestARelayOfOtherSizes(t *testing.T) { // P15.2: what it solves is no chunk's; what it can't solve breaks nothing
	others := []size{{1, 1, 1}, {1, 4, 2}, {2, 3, 4}, {3, 2, 4}, {1, 6, 4}, {6, 1, 4}, {2, 4, 4}, {3, 3, 4}, {1, 3, 4}, {2, 2, 4}, {255, 1, 2}, {1, 65535, 1}}
	for _, x := range others {
		for _, y := range others {
			if x == y || x.g*x.s <= 4 {
				continue
			}
			h := over(t, x.g, x.s, 3, relayOf(t, y, 3))
			h.releases(t)
			h.lay(3, symbolsOf([]byte{0, 0, 0, 1, 'x'}[:min(5, y.g*y.s)], y.g, y.s))
			h.rows(t, 3, y.g-1)
			h.releases(t)
			h.rows(t, 3, y.g)
			h.breaks(t)
			if got := h.k.Delivered(); got != 3 {
				t.Fatal("Delivered:", got)
			}
		}
	}
	h := begin(t, size{2, 3, 4}, 0, 0)
	h.releases(t, h.chunk(t, 0, []byte("ab")))
	h.b = relayOf(t, size{3, 2, 4}, 1)
	h.whole(t, 1, laidOf([]byte("c"), 3, 2))
	h.breaks(t)
}

func TestAtTheEndOfAllGenerations(t *testing.T) { // P15.2: nothing beyond is released
	for width := 1; width <= 16; width++ {
		for last := uint64(1); last <= 17; last++ {
			h := begin(t, size{2, 3, width}, top-last, top-min(last, uint64(width)))
			var want [][]byte
			for gen := h.b.Base(); gen < top; gen++ {
				if chunk := h.chunk(t, gen, []byte{byte(gen), byte(last)}); last <= uint64(width) {
					want = append(want, chunk)
				}
			}
			h.releases(t, want...)
			h.releases(t)
			if got := h.k.Delivered(); (got == top) != (last <= uint64(width)) {
				t.Fatal(width, last, got)
			}
			is(t, "Total(MaxGen)", h.total(t, top), api.OK)
			if h.k.Done() != (h.k.Delivered() == top) {
				t.Fatal(h.k.Done(), h.k.Delivered())
			}
		}
	}
	for _, base := range []uint64{0, top - 4, top - 1, top} {
		h := begin(t, size{2, 3, 4}, top, base)
		for gen := base; gen < min(base+4, top); gen++ {
			h.chunk(t, gen, []byte("z"))
		}
		h.releases(t)
		if got := h.k.Delivered(); got != top {
			t.Fatal(base, got)
		}
	}
}

func TestGreatestSizes(t *testing.T) { // P15.1, P15.2: chunks of one byte and of all that there is room for
	for _, x := range []size{{255, 1, 16}, {1, 65535, 16}, {2, 65535, 2}, {255, 2, 1}, {5, 1, 16}, {1, 5, 16}} {
		h := begin(t, x, 0, 0)
		var want [][]byte
		for gen := range uint64(x.width) {
			chunk := bytes.Repeat([]byte{byte(gen) + 1}, x.g*x.s-4)
			if gen%3 == 1 {
				chunk = chunk[:1]
			}
			want = append(want, h.chunk(t, gen, chunk))
		}
		h.releases(t, want...)
		h.releases(t)
	}
	h := begin(t, size{255, 65535, 1}, 0, 0)
	h.lay(0, laidOf(seeded(1).bytes(255*65535-4), 255, 65535))
	for at := range 255 {
		h.releases(t)
		if _, e := h.b.Take(0, api.Row{Coefs: unit(255, at, 1), Payload: h.symbols[0][at]}); e != api.OK {
			t.Fatal(e)
		}
	}
	if told, _ := h.release(t); len(told) != 1 || len(told[0]) != 255*65535-4 {
		t.Error("not one chunk of all that there is room for")
	}
}

func TestTotal(t *testing.T) { // P15.3: fewer than were delivered, just as many, more, MaxGen, one more
	for _, delivered := range starts {
		asked := slices.Concat(starts, beyond, []uint64{delivered, delivered + 1, delivered - 1, delivered + 1<<63})
		for _, n := range asked {
			h := begin(t, size{2, 3, 4}, delivered, delivered)
			want := api.OK
			if n < delivered || n > top {
				want = api.ErrArg
			}
			is(t, "Total", h.total(t, n), want)
			for _, other := range asked {
				again := h.total(t, other)
				if want == api.OK && other == n {
					is(t, "Total again", again, api.OK)
				}
				if want == api.ErrArg && again == api.OK {
					break
				}
			}
		}
	}
}

func TestTotalByHand(t *testing.T) { // P15.3
	h := begin(t, size{2, 3, 4}, 4, 4)
	for _, c := range []struct {
		n     uint64
		want  api.Errno
		total uint64
		told  bool
	}{
		{3, api.ErrArg, 0, false}, {0, api.ErrArg, 0, false}, {top + 1, api.ErrArg, 0, false}, {6, api.OK, 6, true}, {6, api.OK, 6, true},
		{7, api.ErrThere, 6, true}, {5, api.ErrThere, 6, true}, {4, api.ErrThere, 6, true}, {3, api.ErrArg, 6, true}, {top, api.ErrThere, 6, true}, {top + 1, api.ErrArg, 6, true}, {6, api.OK, 6, true},
	} {
		e := h.total(t, c.n)
		if total, told := h.k.Known(); e != c.want || total != c.total || told != c.told {
			t.Fatalf("Total(%d): error %d, Known %d, %v", c.n, e, total, told)
		}
	}
	h.releases(t, h.chunk(t, 4, []byte("a")), h.chunk(t, 5, []byte("b")))
	is(t, "Total(6), all delivered", h.total(t, 6), api.OK)
	is(t, "Total(5), below what was delivered by now", h.total(t, 5), api.ErrArg)
	h.releases(t, h.chunk(t, 6, []byte("c")))
	is(t, "Total(6), more delivered", h.total(t, 6), api.ErrArg)
	is(t, "Total(7), more delivered", h.total(t, 7), api.ErrThere)
	if total, told := h.k.Known(); total != 6 || !told || h.k.Done() {
		t.Error(total, told, h.k.Done())
	}
}

func TestTotalOfNoGenerations(t *testing.T) { // P15.3: 0 is a total that is told, too
	h := begin(t, size{2, 3, 4}, 0, 0)
	is(t, "Total(0)", h.total(t, 0), api.OK)
	if total, told := h.k.Known(); total != 0 || !told || !h.k.Done() {
		t.Error(total, told, h.k.Done())
	}
	is(t, "Total(1)", h.total(t, 1), api.ErrThere)
	is(t, "Total(0)", h.total(t, 0), api.OK)
}

func TestTotalOfABrokenSink(t *testing.T) { // P15.3: as of any other one
	h := broken(t, 7)
	is(t, "Total(6)", h.total(t, 6), api.ErrArg)
	is(t, "Total(7)", h.total(t, 7), api.OK)
	is(t, "Total(8)", h.total(t, 8), api.ErrThere)
	if !h.k.Broken() || !h.k.Done() {
		t.Error(h.k.Broken(), h.k.Done())
	}
	h.breaks(t)
	h = begin(t, size{2, 3, 4}, 0, 0)
	h.total(t, 2)
	h.chunk(t, 0, []byte("a"))
	h.whole(t, 1, symbolsOf(nil, 2, 3))
	h.breaks(t, []byte("a"))
	is(t, "Total(2)", h.total(t, 2), api.OK)
	if h.k.Done() {
		t.Error("done with fewer than there are")
	}
}

func TestAllShortRowsOfCalls(t *testing.T) { // P15.1 to P15.3: each five calls of these
	symbols := [][][]byte{laidOf([]byte("a"), 2, 3), laidOf([]byte("bc"), 2, 3), symbolsOf([]byte{0, 0, 0, 4, 5}, 2, 3)}
	calls := []func(h held){
		func(h held) { h.b.Take(0, right(symbols[0], []byte{1, 2})) },
		func(h held) { h.b.Take(0, right(symbols[0], []byte{0, 1})) },
		func(h held) {
			h.b.Take(1, right(symbols[1], []byte{1, 0}))
			h.b.Take(1, right(symbols[1], []byte{3, 1}))
		},
		func(h held) {
			h.b.Take(2, right(symbols[2], []byte{7, 0}))
			h.b.Take(2, right(symbols[2], []byte{7, 1}))
		},
		func(h held) { h.b.Move(1) },
		func(h held) { h.b.Move(0) },
		func(h held) { h.release(t) },
		func(h held) { h.total(t, 0) },
		func(h held) { h.total(t, 1) },
		func(h held) { h.total(t, 2) },
	}
	row := make([]int, 5)
	for n := range 100000 {
		h := begin(t, size{2, 3, 2}, 0, 0)
		for gen, l := range symbols {
			h.lay(uint64(gen), l)
		}
		for i := range row {
			row[i] = n % len(calls)
			n /= len(calls)
			calls[row[i]](h)
		}
		h.release(t)
		h.total(t, 3)
	}
}
