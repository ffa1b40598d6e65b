package relay_test

import (
	"bytes"
	"math"
	"slices"
	"testing"

	"braidwork/api"
	"braidwork/relay"
)

func TestExamples(t *testing.T) { // P14.1 to P14.4
	r, e := relay.New(2, 1, 4)
	is(t, "New", e, api.OK)
	if isNew, e := r.Take(0, row([]byte{1, 0}, []byte{5})); !isNew || e != api.OK {
		t.Error("Take(0, 1 0; 5):", isNew, e)
	}
	if isNew, e := r.Take(0, row([]byte{2, 0}, []byte{0xa})); isNew || e != api.OK {
		t.Error("Take(0, 2 0; a):", isNew, e)
	}
	if isNew, e := r.Take(4, row([]byte{1, 0}, []byte{5})); isNew || e != api.ErrWindow {
		t.Error("Take(4, ..):", isNew, e)
	}
	if told, e := r.Send(0, 0, nil); !same(told, row([]byte{1, 0}, []byte{5})) || e != api.OK {
		t.Error("Send(0, 0, none):", told, e)
	}
	if told, e := r.Send(0, 0, []byte{3}); !same(told, row([]byte{3, 0}, []byte{0xf})) || e != api.OK {
		t.Error("Send(0, 0, 3):", told, e)
	}
	if told, e := r.Send(1, 0, nil); !same(told, api.Row{}) || e != api.ErrNone {
		t.Error("Send(1, ..):", told, e)
	}
	if e := r.Move(2); e != api.OK || r.Rank(0) != 0 {
		t.Error("Move(2):", e, r.Rank(0))
	}
	if isNew, e := r.Take(4, row([]byte{1, 1}, []byte{9})); !isNew || e != api.OK {
		t.Error("Take(4, 1 1; 9):", isNew, e)
	}
	if ranks := r.Ranks(); !slices.Equal(ranks, []api.Rank{{Gen: 4, Rank: 1}}) {
		t.Error("Ranks:", ranks)
	}
}

func TestNew(t *testing.T) { // P14.1
	numbers := []int{
		0, 1, 2, 15, 16, 17, 254, 255, 256, 257, 65534, 65535, 65536, 65537, 1 << 32, 1<<32 + 1, math.MaxInt,
		-1, -16, -255, -1 << 32, 1 - 1<<32, math.MinInt + 1, math.MinInt,
	}
	may := func(n, most int) bool { return n >= 1 && n <= most }
	for _, g := range numbers {
		for _, s := range numbers {
			for _, width := range numbers {
				if may(g, 255) && may(s, 65535) && may(width, 16) {
					b := begin(t, size{g, s, width})
					b.looks(t)
					b.take(t, uint64(width)-1, unit(g, s, g-1, 7))
					b.take(t, uint64(width), unit(g, s, g-1, 7))
				} else if r, e := relay.New(g, s, width); r != nil || e != api.ErrArg {
					t.Errorf("New(%d, %d, %d): %v, error %d, not ErrArg", g, s, width, r != nil, e)
				}
			}
		}
	}
}

func TestANewRelay(t *testing.T) { // P14.1
	for width := 1; width <= 16; width++ {
		b := begin(t, size{2, 3, width})
		b.looks(t)
		if b.r.Base() != 0 || len(b.r.Ranks()) != 0 || b.r.In(uint64(width)) {
			t.Error(width, b.r.Base(), b.r.Ranks())
		}
		for gen := range uint64(width) {
			if !b.r.In(gen) || b.r.Rank(gen) != 0 || len(b.r.Rows(gen)) != 0 {
				t.Error(width, gen)
			}
		}
	}
}

// isNone asks for all calls of no relay, none of which may change that.
func isNone(t *testing.T, r *relay.Relay) {
	t.Helper()
	for range 2 {
		if r.Base() != 0 || len(r.Ranks()) != 0 || r.Copy() != nil {
			t.Fatal(r.Base(), r.Ranks(), r.Copy() != nil)
		}
		for _, gen := range slices.Concat(bases, wrongBases) {
			if r.In(gen) || r.Rank(gen) != 0 || len(r.Rows(gen)) != 0 {
				t.Fatal(gen, r.In(gen), r.Rank(gen), r.Rows(gen))
			}
			for _, given := range []api.Row{{}, noughts(1, 1), unit(2, 3, 1, 9), noughts(255, 0)} {
				if isNew, e := r.Take(gen, given); isNew || e != api.ErrNil {
					t.Fatalf("Take(%d): %v, error %d, not ErrNil", gen, isNew, e)
				}
			}
			for _, by := range [][]byte{nil, {0}, {1, 2}} {
				if told, e := r.Send(gen, gen, by); !same(told, api.Row{}) || e != api.ErrNil {
					t.Fatalf("Send(%d): %x, error %d, not ErrNil", gen, told, e)
				}
			}
			if symbols, e := r.Solve(gen); len(symbols) != 0 || e != api.ErrNil {
				t.Fatalf("Solve(%d): %x, error %d, not ErrNil", gen, symbols, e)
			}
			is(t, "Move", r.Move(gen), api.ErrNil)
		}
		r.Clear()
	}
}

func TestNoRelay(t *testing.T) { // P14.1 to P14.4: ErrNil ahead of all else
	isNone(t, nil)
	isNone(t, &relay.Relay{})
	isNone(t, new(relay.Relay))
	wrong, _ := relay.New(0, 1, 1)
	isNone(t, wrong)
	isNone(t, new(relay.Relay).Copy())
	isNone(t, (*relay.Relay)(nil).Copy())
}

func TestWindows(t *testing.T) { // P14.1: of each width, at all bases, with rows and without
	for width := 1; width <= 16; width++ {
		for i, base := range bases {
			b := at(t, size{3, 2, width}, base)
			b.fill(t, seeded(100*width+i))
			for _, gen := range b.p.asked() {
				b.solve(t, gen)
				b.send(t, gen, gen, []byte{byte(i)})
			}
		}
	}
}

func TestAtTheEndsOfAWindow(t *testing.T) { // P14.1: the generation ahead of the base, the base, the last one, the one behind it
	for width := uint64(1); width <= 16; width++ {
		for _, base := range []uint64{1, 16, 17, 1 << 32, top - 20} {
			b := at(t, size{2, 2, int(width)}, base)
			for _, c := range []struct {
				gen uint64
				in  bool
			}{{base - 1, false}, {base, true}, {base + width - 1, true}, {base + width, false}} {
				if b.r.In(c.gen) != c.in {
					t.Fatalf("In(%d), %d from %d on: %v", c.gen, width, base, b.r.In(c.gen))
				}
				before := b.r.Rank(c.gen)
				isNew, e := b.take(t, c.gen, unit(2, 2, before, 5))
				if isNew != c.in || (e == api.OK) != c.in || b.r.Rank(c.gen) != len(b.r.Rows(c.gen)) || (b.r.Rank(c.gen) == before+1) != c.in {
					t.Fatalf("Take(%d), %d from %d on: %v, error %d", c.gen, width, base, isNew, e)
				}
			}
		}
	}
}

func TestRanksRise(t *testing.T) { // P14.1: also where slots stand in another order than the generations; those alone that have rows
	b := at(t, size{3, 1, 4}, 6) // the slots are 2, 3, 0, 1
	for _, c := range []struct {
		gen  uint64
		at   int
		want []api.Rank
	}{
		{8, 0, []api.Rank{{Gen: 8, Rank: 1}}},
		{6, 0, []api.Rank{{Gen: 6, Rank: 1}, {Gen: 8, Rank: 1}}},
		{9, 2, []api.Rank{{Gen: 6, Rank: 1}, {Gen: 8, Rank: 1}, {Gen: 9, Rank: 1}}},
		{9, 2, []api.Rank{{Gen: 6, Rank: 1}, {Gen: 8, Rank: 1}, {Gen: 9, Rank: 1}}},
		{9, 1, []api.Rank{{Gen: 6, Rank: 1}, {Gen: 8, Rank: 1}, {Gen: 9, Rank: 2}}},
		{9, 0, []api.Rank{{Gen: 6, Rank: 1}, {Gen: 8, Rank: 1}, {Gen: 9, Rank: 3}}},
		{7, 0, []api.Rank{{Gen: 6, Rank: 1}, {Gen: 7, Rank: 1}, {Gen: 8, Rank: 1}, {Gen: 9, Rank: 3}}},
	} {
		b.take(t, c.gen, unit(3, 1, c.at, 4))
		if got := b.r.Ranks(); !slices.Equal(got, c.want) {
			t.Fatalf("Ranks: %d, not %d", got, c.want)
		}
	}
	b.move(t, 8)
	if got := b.r.Ranks(); !slices.Equal(got, []api.Rank{{Gen: 8, Rank: 1}, {Gen: 9, Rank: 3}}) {
		t.Fatalf("Ranks behind a Move: %d", got)
	}
	b.clear(t)
	if got := b.r.Ranks(); len(got) != 0 {
		t.Fatalf("Ranks behind a Clear: %d", got)
	}
}

func TestTake(t *testing.T) { // P14.2: rows that are new, that are not, noughts, the same twice, by turns of all generations
	for i, x := range sizes {
		for seed := range 3 {
			some := seeded(100*i + seed)
			b := at(t, x, uint64(seed*7))
			for range 3 * x.g {
				for n := range uint64(x.width) {
					gen, r := b.p.base+n, some.row(x.g, x.s)
					if told, e := b.r.Send(gen, 0, some.bytes(x.g)); e == api.OK && some.below(3) == 0 {
						r = told
					}
					b.take(t, gen, r)
					if isNew, e := b.take(t, gen, r); isNew || e != api.OK {
						t.Fatal("the same twice is new", isNew, e)
					}
					if isNew, e := b.take(t, gen, row(make([]byte, x.g), some.bytes(x.s))); isNew || e != api.OK {
						t.Fatal("noughts are new", isNew, e)
					}
				}
			}
		}
	}
}

func TestTakeOutsideTheWindow(t *testing.T) { // P14.2: ErrWindow, ahead of ErrDim, and nothing changed
	for i, x := range sizes {
		for k, base := range []uint64{0, 1, 5, 1 << 33, top - 2, top} {
			b := at(t, x, base)
			b.fill(t, seeded(10*i+k))
			for _, gen := range b.p.asked() {
				if b.p.in(gen) {
					continue
				}
				for _, r := range []api.Row{{}, noughts(x.g, x.s), unit(x.g, x.s, 0, 9), noughts(x.g+1, x.s), noughts(x.g, x.s+1), unit(x.g+1, x.s, x.g, 1)} {
					if isNew, e := b.take(t, gen, r); isNew || e != api.ErrWindow {
						t.Fatalf("Take(%d): %v, error %d, not ErrWindow", gen, isNew, e)
					}
				}
			}
		}
	}
}

func TestTakeOfOtherSizes(t *testing.T) { // P14.2: ErrDim, and nothing changed
	for i, x := range sizes {
		b := at(t, x, 3)
		b.fill(t, seeded(i))
		for n := range uint64(x.width) {
			for _, wrong := range [][2]int{
				{0, 0}, {0, x.s}, {x.g, 0}, {x.g - 1, x.s}, {x.g + 1, x.s}, {x.g, x.s - 1}, {x.g, x.s + 1},
				{x.g + 1, x.s - 1}, {x.g - 1, x.s + 1}, {x.g + 256, x.s}, {x.g, x.s + 65536}, {x.g + x.s, 0},
			} {
				for _, r := range []api.Row{noughts(wrong[0], wrong[1]), row(bytes.Repeat([]byte{1}, wrong[0]), make([]byte, wrong[1]))} {
					if isNew, e := b.take(t, 3+n, r); isNew || e != api.ErrDim {
						t.Fatalf("Take of %d and %d bytes: %v, error %d, not ErrDim", wrong[0], wrong[1], isNew, e)
					}
				}
			}
			if isNew, e := b.take(t, 3+n, api.Row{}); isNew || e != api.ErrDim {
				t.Fatalf("Take of nothing: %v, error %d", isNew, e)
			}
		}
	}
}

func TestTakeIsOfOneGeneration(t *testing.T) { // P14.2: the same row is new to each generation by itself
	b := at(t, size{2, 2, 5}, 4)
	for gen := uint64(4); gen < 9; gen++ {
		if isNew, e := b.take(t, gen, row([]byte{1, 2}, []byte{3, byte(gen)})); !isNew || e != api.OK {
			t.Fatal(gen, isNew, e)
		}
		if isNew, e := b.take(t, gen, row([]byte{1, 2}, []byte{3, 99})); isNew || e != api.OK {
			t.Fatal(gen, isNew, e)
		}
	}
	for gen := uint64(4); gen < 9; gen++ {
		if got := b.r.Rows(gen); !sameRows(got, []api.Row{row([]byte{1, 2}, []byte{3, byte(gen)})}) {
			t.Fatalf("%d: %x", gen, got)
		}
	}
}

// sentNumbers are how many may have been sent, of n rows.
func sentNumbers(n int) []uint64 {
	rows := uint64(n)
	return []uint64{0, 1, 2, rows - 1, rows, rows + 1, 2*rows + 1, 255, 256, 1<<32 - 1, 1 << 32, 1<<40 + 1, 1 << 50, 1 << 63, 1<<63 + 1, math.MaxUint64 - 1, math.MaxUint64}
}

func TestSend(t *testing.T) { // P14.3: draws of none, of noughts, shorter and longer than there are rows
	for i, x := range sizes {
		some := seeded(i)
		b := at(t, x, 6)
		gen := 6 + uint64(some.below(x.width))
		for range 3 * x.g {
			b.take(t, gen, some.row(x.g, x.s))
			n := b.r.Rank(gen)
			if n == 0 {
				continue
			}
			noughts, drawn := make([]byte, n+3), some.bytes(n+3)
			lastAlone, behind := make([]byte, n), make([]byte, n+1)
			lastAlone[n-1], behind[n] = 7, 7
			for _, sent := range sentNumbers(n) {
				for _, by := range [][]byte{nil, {}, {0}, {5}, noughts[:n-1], noughts[:n], noughts, drawn[:n-1], drawn[:n], drawn[:n+1], drawn, lastAlone, behind} {
					if _, e := b.send(t, gen, sent, by); e != api.OK {
						t.Fatal(e)
					}
				}
			}
		}
		b.looks(t)
	}
}

func TestSendByHand(t *testing.T) { // P14.3
	b := at(t, size{3, 2, 4}, 9)
	b.take(t, 10, row([]byte{1, 0, 5}, []byte{0x10, 0x20}))
	b.take(t, 10, row([]byte{0, 1, 7}, []byte{0x03, 0x04}))
	first, second := row([]byte{1, 0, 5}, []byte{0x10, 0x20}), row([]byte{0, 1, 7}, []byte{0x03, 0x04})
	sum := row([]byte{1, 1, 2}, []byte{0x13, 0x24})
	for _, c := range []struct {
		sent uint64
		by   []byte
		want api.Row
	}{
		{0, nil, first},
		{1, nil, second},
		{2, nil, first},
		{3, []byte{0}, second},
		{math.MaxUint64, []byte{0, 0}, second},
		{math.MaxUint64 - 1, []byte{0, 0, 9}, first},
		{1, []byte{1}, first},
		{0, []byte{0, 1}, second},
		{5, []byte{1, 1}, sum},
		{5, []byte{1, 1, 8, 8}, sum},
		{0, []byte{2}, row([]byte{2, 0, 10}, []byte{0x20, 0x40})},
	} {
		if got, e := b.send(t, 10, c.sent, c.by); !same(got, c.want) || e != api.OK {
			t.Errorf("Send(10, %d, %x): %x, error %d, not %x", c.sent, c.by, got, e, c.want)
		}
	}
}

func TestSendOfEachElement(t *testing.T) { // P14.3
	b := begin(t, size{1, 2, 1})
	b.take(t, 0, row([]byte{0x53}, []byte{7, 0xfe}))
	for c := range 256 {
		b.send(t, 0, 3, []byte{byte(c)})
		b.send(t, 0, 3, []byte{byte(c), 1})
	}
}

func TestSendOfNone(t *testing.T) { // P14.3: ErrWindow outside the window, ErrNone of a generation without rows
	for i, x := range sizes {
		for _, base := range []uint64{0, 4, 1 << 34, top - 2, top} {
			b := at(t, x, base)
			b.fill(t, seeded(i))
			for _, gen := range b.p.asked() {
				for _, by := range [][]byte{nil, {0}, {1}, bytes.Repeat([]byte{9}, 300)} {
					told, e := b.send(t, gen, 1, by)
					if !b.p.in(gen) && (e != api.ErrWindow || !same(told, api.Row{})) {
						t.Fatalf("Send(%d): %x, error %d, not ErrWindow", gen, told, e)
					}
					if b.p.in(gen) && len(b.p.rows[gen]) == 0 && (e != api.ErrNone || !same(told, api.Row{})) {
						t.Fatalf("Send(%d): %x, error %d, not ErrNone", gen, told, e)
					}
				}
			}
			b.looks(t)
		}
	}
	b := begin(t, size{2, 1, 2})
	b.take(t, 1, noughts(2, 1))
	if _, e := b.send(t, 1, 0, []byte{1}); e != api.ErrNone {
		t.Error("behind noughts:", e)
	}
}

func TestSolve(t *testing.T) { // P14.4: ahead of full rank, at it, and outside the window
	for i, x := range sizes {
		some := seeded(i)
		symbols := some.symbols(x.g, x.s)
		b := at(t, x, 2)
		gen := 2 + uint64(some.below(x.width))
		for b.r.Rank(gen) < x.g {
			if got, e := b.solve(t, gen); len(got) != 0 || e != api.ErrRank {
				t.Fatal(got, e)
			}
			b.take(t, gen, right(symbols, some.bytes(x.g)))
		}
		if got, e := b.solve(t, gen); !sameAll(got, symbols) || e != api.OK {
			t.Fatalf("Solve: %.60x, error %d, not %.60x", got, e, symbols)
		}
		for _, other := range b.p.asked() {
			if _, e := b.solve(t, other); b.p.in(other) && other != gen && e != api.ErrRank || !b.p.in(other) && e != api.ErrWindow {
				t.Fatal(other, e)
			}
		}
		b.looks(t)
	}
}

func TestMove(t *testing.T) { // P14.4: by less than the width, by just it, by more, to the same base, back, and to the end of all
	for i, x := range sizes {
		width := uint64(x.width)
		for k, from := range bases {
			for _, to := range slices.Concat(bases, []uint64{from, from + 1, from - 1, from + width/2, from - width/2, from + width - 1, from - width + 1, from + width, from - width, from + width + 1, from + 2*width}) {
				if to > top {
					continue
				}
				b := at(t, x, from)
				b.takeOnes(t, byte(i+k))
				b.move(t, to)
				b.takeOnes(t, byte(i+k+1))
				b.move(t, from)
			}
		}
	}
}

// takeOnes puts a row into each generation of the window, and more into some.
func (b both) takeOnes(t *testing.T, payload byte) {
	t.Helper()
	for n := range uint64(b.p.width) {
		gen, r := b.p.base+n, unit(b.p.g, b.p.s, int(n)%b.p.g, payload+byte(n))
		isNew, e := b.r.Take(gen, r)
		if want, wantErr := b.p.take(gen, r); isNew != want || e != wantErr {
			t.Fatalf("Take(%d): %v, error %d, not %v, error %d", gen, isNew, e, want, wantErr)
		}
	}
	b.looks(t)
}

func TestMoveBeyondAll(t *testing.T) { // P14.4: ErrArg, and nothing changed
	for i, x := range sizes {
		for _, base := range []uint64{0, 9, top - 1, top} {
			b := at(t, x, base)
			b.fill(t, seeded(i))
			for _, wrong := range wrongBases {
				is(t, "Move", b.r.Move(wrong), api.ErrArg)
				b.looks(t)
			}
		}
	}
}

func TestMoveToTheEnd(t *testing.T) { // P14.4: there is no generation there
	b := at(t, size{2, 1, 4}, top-2)
	b.take(t, top-2, unit(2, 1, 0, 1))
	b.take(t, top-1, unit(2, 1, 1, 2))
	if _, e := b.take(t, top, unit(2, 1, 0, 1)); e != api.ErrWindow {
		t.Error(e)
	}
	is(t, "Move", b.r.Move(top), api.OK)
	b.p.move(top)
	b.looks(t)
	for _, gen := range []uint64{0, top - 2, top - 1, top, top + 1} {
		if b.r.In(gen) || b.r.Rank(gen) != 0 {
			t.Error(gen)
		}
	}
	b.move(t, top-2)
	if len(b.r.Ranks()) != 0 {
		t.Error("what was gone is back:", b.r.Ranks())
	}
}

func TestMoveLeavesWhatIsIn(t *testing.T) { // P14.4: on by two, back by one, on by the width
	b := at(t, size{2, 1, 4}, 10)
	for gen := uint64(10); gen < 14; gen++ {
		b.take(t, gen, row([]byte{1, byte(gen)}, []byte{byte(gen)}))
	}
	kept := func(gens ...uint64) {
		t.Helper()
		b.looks(t)
		var want []api.Rank
		for _, gen := range gens {
			want = append(want, api.Rank{Gen: gen, Rank: 1})
			if rows := b.r.Rows(gen); !sameRows(rows, []api.Row{row([]byte{1, byte(gen)}, []byte{byte(gen)})}) {
				t.Fatalf("%d: %x", gen, rows)
			}
		}
		if got := b.r.Ranks(); !slices.Equal(got, want) {
			t.Fatalf("Ranks: %d, not %d", got, want)
		}
	}
	kept(10, 11, 12, 13)
	b.move(t, 10)
	kept(10, 11, 12, 13)
	b.move(t, 12)
	kept(12, 13)
	b.move(t, 11)
	kept(12, 13)
	b.move(t, 10)
	kept(12, 13)
	b.move(t, 9)
	kept(12)
	b.move(t, 13)
	kept()
	b.move(t, 9)
	kept()
}

func TestSlotsBeginWithoutRows(t *testing.T) { // P14.4: a generation that comes where another one stood
	for width := uint64(1); width <= 16; width++ {
		for _, step := range []uint64{1, width, 3 * width, width << 30} {
			b := at(t, size{2, 1, int(width)}, 5)
			for range 4 {
				b.takeOnes(t, 3)
				before := b.p.base
				b.move(t, before+step)
				for n := range width {
					if gen := before + step + n; gen >= before+width && (b.r.Rank(gen) != 0 || len(b.r.Rows(gen)) != 0) {
						t.Fatalf("%d has rows as it comes", gen)
					}
				}
			}
		}
	}
}

func TestClear(t *testing.T) { // P14.4
	for i, x := range sizes {
		for _, base := range []uint64{0, 3, 1 << 35, top - 2, top} {
			b := at(t, x, base)
			b.clear(t)
			for range 3 {
				b.fill(t, seeded(i))
				b.clear(t)
				if b.r.Base() != base || len(b.r.Ranks()) != 0 {
					t.Fatal(b.r.Base(), b.r.Ranks())
				}
				for n := range uint64(x.width) {
					if _, e := b.send(t, base+n, 0, nil); base+n < top && e != api.ErrNone {
						t.Fatal(base+n, e)
					}
					b.solve(t, base+n)
				}
			}
			b.takeOnes(t, 5)
			b.move(t, min(base+1, top))
		}
	}
}

func TestCopy(t *testing.T) { // P14.1: it has the same, and lives apart on either side
	for i, x := range sizes {
		for seed := range 3 {
			some := seeded(100*i + seed)
			b := at(t, x, uint64(some.below(40)))
			b.fill(t, some)
			c := b.copy(t)
			for _, turn := range []both{b, c, b, c} {
				for range 4 {
					turn.step(t, some)
					b.looks(t)
					c.looks(t)
				}
			}
			d := c.copy(t)
			c.clear(t)
			b.looks(t)
			d.looks(t)
			d.move(t, top)
			b.clear(t)
			c.looks(t)
			b.move(t, 1000)
			c.looks(t)
			c.takeOnes(t, 1)
			b.looks(t)
			d.looks(t)
		}
	}
}

// step is one call of any kind.
func (b both) step(t *testing.T, x *some) {
	t.Helper()
	width := uint64(b.p.width)
	gen := b.p.base + uint64(x.below(b.p.width+2)) - 1
	switch x.below(12) {
	case 0:
		b.move(t, b.p.base+uint64(x.below(b.p.width+2)))
	case 1:
		b.move(t, b.p.base-min(b.p.base, uint64(x.below(b.p.width+1))))
	case 2:
		b.move(t, wrongBases[x.below(len(wrongBases))])
	case 3:
		if x.below(4) == 0 {
			b.clear(t)
		}
	case 4:
		b.take(t, gen, x.row(b.p.g+x.below(2), b.p.s+x.below(2)))
	case 5:
		b.take(t, gen+width*uint64(x.below(3)), x.row(b.p.g, b.p.s))
	default:
		b.take(t, gen, x.row(b.p.g, b.p.s))
	}
	b.send(t, gen, uint64(x.below(1000)), x.bytes(x.below(b.p.g+2)))
	b.solve(t, gen)
}

func TestLongRowsOfCalls(t *testing.T) { // P14.1 to P14.4
	for i, x := range sizes {
		for _, base := range []uint64{0, 1 << 32, top - 12} {
			some := seeded(i)
			b := at(t, x, base)
			for range 300 {
				b.step(t, some)
			}
		}
	}
}

func TestAllShortRowsOfCalls(t *testing.T) { // P14.1 to P14.4: each four calls of these
	calls := []func(b both){
		func(b both) { b.take(t, 0, row([]byte{2, 3}, []byte{5})) },
		func(b both) { b.take(t, 0, row([]byte{0, 4}, []byte{6})) },
		func(b both) { b.take(t, 1, row([]byte{1, 1}, []byte{7})) },
		func(b both) { b.take(t, 2, row([]byte{2, 3}, []byte{8})) },
		func(b both) { b.take(t, 2, row([]byte{7}, []byte{8})) },
		func(b both) { b.move(t, 0) },
		func(b both) { b.move(t, 1) },
		func(b both) { b.move(t, 2) },
		func(b both) { b.move(t, top) },
		func(b both) { b.move(t, top+1) },
		func(b both) { b.clear(t) },
		func(b both) { b.copy(t) },
	}
	for first := range calls {
		for second := range calls {
			for third := range calls {
				for fourth := range calls {
					b := begin(t, size{2, 1, 2})
					for _, call := range []int{first, second, third, fourth} {
						calls[call](b)
					}
					for gen := range uint64(4) {
						b.send(t, gen, gen, []byte{0, byte(gen)})
						b.solve(t, gen)
					}
				}
			}
		}
	}
}
