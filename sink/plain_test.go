package sink_test

import (
	"bytes"
	"math"
	"slices"
	"testing"

	"braidwork/api"
	"braidwork/relay"
	"braidwork/sink"
	"braidwork/vector"
)

// top is the number of generations that there may be.
const top = uint64(1) << 40

// plain is a sink by the chapter's words, to be held against the program.
type plain struct {
	g, s             int
	delivered, total uint64
	isTold, isBroken bool
}

// release is what is released where solved tells the symbols of a generation, or none of one that can't be solved.
func (p *plain) release(solved func(gen uint64) [][]byte) ([][]byte, api.Errno) {
	if p.isBroken {
		return nil, api.ErrForm
	}
	var released [][]byte
	for p.delivered < top {
		symbols := solved(p.delivered)
		if symbols == nil {
			break
		}
		chunk := chunkOf(symbols, p.g, p.s)
		if chunk == nil {
			p.isBroken = true
			return released, api.ErrForm
		}
		released = append(released, chunk)
		p.delivered++
	}
	return released, api.OK
}

func (p *plain) tell(n uint64) api.Errno {
	switch {
	case n < p.delivered, n > top:
		return api.ErrArg
	case p.isTold && p.total != n:
		return api.ErrThere
	}
	p.total, p.isTold = n, true
	return api.OK
}

// chunkOf is the chunk whose symbols of s bytes these g are, or nil, if they are no chunk's.
func chunkOf(symbols [][]byte, g, s int) []byte {
	var laid []byte
	for _, symbol := range symbols {
		if laid = append(laid, symbol...); len(symbol) != s {
			return nil
		}
	}
	if len(symbols) != g {
		return nil
	}
	n := 0
	for _, digit := range laid[:4] {
		n = 256*n + int(digit)
	}
	if n == 0 || n > len(laid)-4 || bytes.Count(laid[4+n:], []byte{0}) != len(laid)-4-n {
		return nil
	}
	return laid[4 : 4+n]
}

// symbolsOf is the symbols of bytes laid one behind the other, noughts behind them.
func symbolsOf(laid []byte, g, s int) [][]byte {
	laid = append(bytes.Clone(laid), make([]byte, g*s-len(laid))...)
	symbols := make([][]byte, g)
	for i := range symbols {
		symbols[i] = laid[i*s : (i+1)*s]
	}
	return symbols
}

// laidOf is the symbols of a chunk.
func laidOf(chunk []byte, g, s int) [][]byte {
	n := len(chunk)
	return symbolsOf(append([]byte{byte(n >> 24), byte(n >> 16), byte(n >> 8), byte(n)}, chunk...), g, s)
}

func sameAll(a, b [][]byte) bool { return slices.EqualFunc(a, b, bytes.Equal) }

func clones(l [][]byte) [][]byte {
	copied := make([][]byte, len(l))
	for i := range l {
		copied[i] = bytes.Clone(l[i])
	}
	return copied
}

// right is the row that these coefficients make of the symbols.
func right(symbols [][]byte, coefs []byte) api.Row {
	payload, _ := vector.Combine(symbols, coefs)
	return api.Row{Coefs: coefs, Payload: payload}
}

// unit is g coefficients, of which the one at a place is c.
func unit(g, at int, c byte) []byte {
	coefs := make([]byte, g)
	coefs[at] = c
	return coefs
}

// some makes numbers, always the same ones of one seed.
type some uint64

func seeded(seed int) *some {
	x := some(seed)*104729 + 11
	return &x
}

func (x *some) below(n int) int {
	*x = *x*6364136223846793005 + 1442695040888963407
	return int(uint64(*x)>>33) % n
}

// bytes are n of them; 0 is more often among them than others are.
func (x *some) bytes(n int) []byte {
	b := make([]byte, n)
	for i := range b {
		b[i] = byte(x.below(256) * min(x.below(4), 1))
	}
	return b
}

// chunk is one that has room in g symbols of s bytes each.
func (x *some) chunk(g, s int) []byte { return x.bytes(1 + x.below(g*s-4)) }

// size is how many symbols a generation has, how many bytes a symbol, and how many generations a window.
type size struct{ g, s, width int }

// sizes are those with which longer rows of calls are tried.
var sizes = []size{
	{2, 3, 4}, {1, 5, 1}, {5, 1, 3}, {1, 9, 7}, {3, 2, 16}, {2, 3, 1}, {4, 4, 2}, {7, 12, 5}, {16, 1, 15}, {3, 100, 4},
}

// starts are how many generations sinks have delivered as they begin.
var starts = []uint64{0, 1, 3, 15, 16, 17, 255, 1<<32 - 1, 1 << 32, 1<<39 + 5, top - 20, top - 2, top - 1, top}

// beyond are numbers above that of all generations.
var beyond = []uint64{top + 1, top + 2, 1 << 41, 1 << 63, math.MaxUint64 - 1, math.MaxUint64}

// held is a sink, the plain one of which the same was asked, and a relay.
type held struct {
	k *sink.Sink
	p *plain
	b *relay.Relay
	// symbols are, by generations, those of which the relay's rows are made.
	symbols map[uint64][][]byte
}

// begin is a new sink, which has to go well, and a new relay of that window.
func begin(t *testing.T, x size, delivered, base uint64) held {
	t.Helper()
	h := over(t, x.g, x.s, delivered, relayOf(t, x, base))
	h.looks(t)
	return h
}

// over is a new sink over that relay.
func over(t *testing.T, g, s int, delivered uint64, b *relay.Relay) held {
	t.Helper()
	k, e := sink.New(g, s, delivered)
	if k == nil || e != api.OK {
		t.Fatalf("New(%d, %d, %d): error %d", g, s, delivered, e)
	}
	return held{k, &plain{g: g, s: s, delivered: delivered}, b, map[uint64][][]byte{}}
}

func relayOf(t *testing.T, x size, base uint64) *relay.Relay {
	t.Helper()
	b, e := relay.New(x.g, x.s, x.width)
	is(t, "relay.New", e, api.OK)
	is(t, "relay.Move", b.Move(base), api.OK)
	return b
}

// is holds an error against the one that it has to be.
func is(t *testing.T, what string, e, want api.Errno) {
	t.Helper()
	if e != want {
		t.Fatalf("%s: error %d, not %d", what, e, want)
	}
}

// looks asks whether the sink is as the plain one is.
func (h held) looks(t *testing.T) {
	t.Helper()
	if got := h.k.Delivered(); got != h.p.delivered {
		t.Fatalf("Delivered: %d, not %d", got, h.p.delivered)
	}
	if total, isTold := h.k.Known(); total != h.p.total || isTold != h.p.isTold {
		t.Fatalf("Known: %d, %v, not %d, %v", total, isTold, h.p.total, h.p.isTold)
	}
	if got, want := h.k.Done(), h.p.isTold && h.p.total == h.p.delivered; got != want {
		t.Fatalf("Done: %v, total %d, delivered %d", got, h.p.total, h.p.delivered)
	}
	if got := h.k.Broken(); got != h.p.isBroken {
		t.Fatalf("Broken: %v", got)
	}
}

// solved is the symbols of a generation of which the relay has as many rows as there are symbols.
func (h held) solved(gen uint64) [][]byte {
	if symbols := h.symbols[gen]; len(symbols) > 0 && h.b.Rank(gen) == len(symbols) {
		return symbols
	}
	return nil
}

// release asks both, which have to tell the same and to be the same behind it; the relay has to be as it was.
func (h held) release(t *testing.T) ([][]byte, api.Errno) {
	t.Helper()
	before := h.b.Copy()
	want, wantErr := h.p.release(h.solved)
	told, e := h.k.Release(h.b)
	if !sameAll(told, want) || e != wantErr {
		t.Fatalf("Release: %.60q, error %d, not %.60q, error %d", told, e, want, wantErr)
	}
	h.looks(t)
	sameRelay(t, h.b, before)
	return told, e
}

// releases asks for just these chunks, without an error.
func (h held) releases(t *testing.T, want ...[]byte) {
	t.Helper()
	if told, e := h.release(t); !sameAll(told, want) || e != api.OK {
		t.Fatalf("Release: %.60q, error %d, not %.60q", told, e, want)
	}
}

// breaks asks for these chunks and ErrForm, and for nothing but ErrForm from then on.
func (h held) breaks(t *testing.T, want ...[]byte) {
	t.Helper()
	if told, e := h.release(t); !sameAll(told, want) || e != api.ErrForm || !h.k.Broken() {
		t.Fatalf("Release: %.60q, error %d, not %.60q, ErrForm", told, e, want)
	}
	for range 2 {
		if told, e := h.release(t); len(told) != 0 || e != api.ErrForm || !h.k.Broken() {
			t.Fatalf("Release, broken: %.60q, error %d, not ErrForm", told, e)
		}
	}
}

// sameRelay asks whether the relay has what the other one has.
func sameRelay(t *testing.T, b, other *relay.Relay) {
	t.Helper()
	if b.Base() != other.Base() || !slices.Equal(b.Ranks(), other.Ranks()) {
		t.Fatalf("the relay has another base or other ranks: %d, %d, not %d, %d", b.Base(), b.Ranks(), other.Base(), other.Ranks())
	}
	for _, rank := range b.Ranks() {
		if !slices.EqualFunc(b.Rows(rank.Gen), other.Rows(rank.Gen), func(a, b api.Row) bool {
			return bytes.Equal(a.Coefs, b.Coefs) && bytes.Equal(a.Payload, b.Payload)
		}) {
			t.Fatal("the relay has other rows of", rank.Gen)
		}
	}
}

// total tells it to both, which have to answer the same.
func (h held) total(t *testing.T, n uint64) api.Errno {
	t.Helper()
	e := h.k.Total(n)
	if want := h.p.tell(n); e != want {
		t.Fatalf("Total(%d), delivered %d: error %d, not %d", n, h.p.delivered, e, want)
	}
	h.looks(t)
	return e
}

// lay tells of which symbols a generation's rows are.
func (h held) lay(gen uint64, symbols [][]byte) { h.symbols[gen] = symbols }

// take puts a row of a generation into the relay.
func (h held) take(t *testing.T, gen uint64, coefs []byte) {
	t.Helper()
	if _, e := h.b.Take(gen, right(h.symbols[gen], coefs)); e != api.OK {
		t.Fatalf("relay.Take(%d): error %d", gen, e)
	}
}

// rows puts n rows of a generation into the relay, none of which the others make.
func (h held) rows(t *testing.T, gen uint64, n int) {
	t.Helper()
	g := len(h.symbols[gen])
	for at := range n {
		coefs := unit(g, g-1-at, byte(at%255)+1)
		coefs[g-1] |= 1
		h.take(t, gen, coefs)
	}
	if got := h.b.Rank(gen); got != n {
		t.Fatalf("relay.Rank(%d): %d, not %d", gen, got, n)
	}
}

// whole puts a generation of these symbols into the relay, all its rows.
func (h held) whole(t *testing.T, gen uint64, symbols [][]byte) {
	t.Helper()
	h.lay(gen, symbols)
	h.rows(t, gen, len(symbols))
}

// chunk puts a chunk into the relay, as a generation, and tells it.
func (h held) chunk(t *testing.T, gen uint64, chunk []byte) []byte {
	t.Helper()
	h.whole(t, gen, laidOf(chunk, h.p.g, h.p.s))
	return chunk
}
