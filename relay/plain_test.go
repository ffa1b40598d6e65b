package relay_test

import (
	"bytes"
	"math"
	"slices"
	"testing"

	"braidwork/api"
	"braidwork/relay"
)

// top is the number of generations that there may be.
const top = uint64(1) << 40

// plain is a relay by the chapters' words, number by number, to be held against the program.
type plain struct {
	g, s, width int
	base        uint64
	rows        map[uint64][]api.Row
}

func plainOf(g, s, width int) *plain {
	return &plain{g: g, s: s, width: width, rows: map[uint64][]api.Row{}}
}

func (p *plain) in(gen uint64) bool {
	for n := range uint64(p.width) {
		if gen == p.base+n && gen < top {
			return true
		}
	}
	return false
}

// product is that of two elements, bit by bit.
func product(a, b byte) byte {
	sum, x := 0, int(a)
	for bit := range 8 {
		if b>>bit&1 == 1 {
			sum ^= x
		}
		if x *= 2; x > 255 {
			x ^= 0x11b
		}
	}
	return byte(sum)
}

// inverse is looked for among all elements.
func inverse(a byte) byte {
	for b := range 256 {
		if product(a, byte(b)) == 1 {
			return byte(b)
		}
	}
	panic("0 has none")
}

// plus adds other, multiplied with c, to r.
func plus(r, other api.Row, c byte) {
	if c == 0 {
		return
	}
	for i, x := range other.Coefs {
		r.Coefs[i] ^= product(x, c)
	}
	for i, x := range other.Payload {
		r.Payload[i] ^= product(x, c)
	}
}

// lead is the place of the first coefficient that is not 0, or -1.
func lead(coefs []byte) int { return slices.IndexFunc(coefs, func(c byte) bool { return c != 0 }) }

func (p *plain) take(gen uint64, r api.Row) (bool, api.Errno) {
	if !p.in(gen) {
		return false, api.ErrWindow
	}
	if len(r.Coefs) != p.g || len(r.Payload) != p.s {
		return false, api.ErrDim
	}
	r = cloned(r)
	for _, row := range p.rows[gen] {
		plus(r, row, r.Coefs[lead(row.Coefs)])
	}
	at := lead(r.Coefs)
	if at < 0 {
		return false, api.OK
	}
	once := noughts(p.g, p.s)
	plus(once, r, inverse(r.Coefs[at]))
	for _, row := range p.rows[gen] {
		plus(row, once, row.Coefs[at])
	}
	p.rows[gen] = append(p.rows[gen], once)
	slices.SortFunc(p.rows[gen], func(a, b api.Row) int { return lead(a.Coefs) - lead(b.Coefs) })
	return true, api.OK
}

func (p *plain) send(gen, sent uint64, by []byte) (api.Row, api.Errno) {
	if !p.in(gen) {
		return api.Row{}, api.ErrWindow
	}
	rows := p.rows[gen]
	if len(rows) == 0 {
		return api.Row{}, api.ErrNone
	}
	coefs := make([]byte, len(rows))
	for i := range coefs {
		if i < len(by) {
			coefs[i] = by[i]
		}
	}
	if lead(coefs) < 0 {
		coefs[rest(sent, len(rows))] = 1
	}
	sum := noughts(p.g, p.s)
	for i, row := range rows {
		plus(sum, row, coefs[i])
	}
	return sum, api.OK
}

// rest is the remainder of a by n, bit by bit.
func rest(a uint64, n int) int {
	left := 0
	for bit := 63; bit >= 0; bit-- {
		left = (2*left + int(a>>bit&1)) % n
	}
	return left
}

func (p *plain) solve(gen uint64) ([][]byte, api.Errno) {
	if !p.in(gen) {
		return nil, api.ErrWindow
	}
	if len(p.rows[gen]) < p.g {
		return nil, api.ErrRank
	}
	var symbols [][]byte
	for _, row := range p.rows[gen] {
		symbols = append(symbols, row.Payload)
	}
	return symbols, api.OK
}

func (p *plain) move(base uint64) api.Errno {
	if base > top {
		return api.ErrArg
	}
	p.base = base
	for gen := range p.rows {
		if !p.in(gen) {
			delete(p.rows, gen)
		}
	}
	return api.OK
}

func (p *plain) ranks() []api.Rank {
	var ranks []api.Rank
	for n := range uint64(p.width) {
		if rank := len(p.rows[p.base+n]); rank > 0 {
			ranks = append(ranks, api.Rank{Gen: p.base + n, Rank: rank})
		}
	}
	return ranks
}

func (p *plain) clone() *plain {
	q := plainOf(p.g, p.s, p.width)
	q.base = p.base
	for gen, rows := range p.rows {
		q.rows[gen] = clones(rows)
	}
	return q
}

// asked are the generations about which a relay of that base is asked: those in its window and round it,
// and ones far away, of the same slots too.
func (p *plain) asked() []uint64 {
	gens := []uint64{0, 1, uint64(p.width), top - 1, top, top + 1, 1 << 63, math.MaxUint64}
	for n := range uint64(p.width + 2) {
		gens = append(gens, p.base+n)
	}
	for _, far := range []uint64{1, 2, uint64(p.width), 2 * uint64(p.width), uint64(p.width) << 32, uint64(p.width) << 40, uint64(p.width) << 58} {
		last := p.base + uint64(p.width) - 1
		gens = append(gens, p.base-far, p.base+far, last-far, last+far)
	}
	return gens
}

func row(coefs, payload []byte) api.Row { return api.Row{Coefs: coefs, Payload: payload} }

func noughts(g, s int) api.Row { return row(make([]byte, g), make([]byte, s)) }

// unit is a row with 1 at a place, and that payload in each byte.
func unit(g, s, at int, payload byte) api.Row {
	r := row(make([]byte, g), bytes.Repeat([]byte{payload}, s))
	r.Coefs[at] = 1
	return r
}

func cloned(r api.Row) api.Row { return row(bytes.Clone(r.Coefs), bytes.Clone(r.Payload)) }

func clones(rows []api.Row) []api.Row {
	l := make([]api.Row, len(rows))
	for i, r := range rows {
		l[i] = cloned(r)
	}
	return l
}

func same(a, b api.Row) bool {
	return bytes.Equal(a.Coefs, b.Coefs) && bytes.Equal(a.Payload, b.Payload)
}

func sameRows(a, b []api.Row) bool { return slices.EqualFunc(a, b, same) }

func sameAll(a, b [][]byte) bool { return slices.EqualFunc(a, b, bytes.Equal) }

// right is the row that these coefficients make of the symbols.
func right(symbols [][]byte, coefs []byte) api.Row {
	r := noughts(len(coefs), len(symbols[0]))
	for i, c := range coefs {
		plus(row(nil, r.Payload), row(nil, symbols[i]), c)
	}
	copy(r.Coefs, coefs)
	return r
}

// some makes numbers, always the same ones of one seed.
type some uint64

func seeded(seed int) *some {
	x := some(seed)*7919 + 5
	return &x
}

func (x *some) below(n int) int {
	*x = *x*6364136223846793005 + 1442695040888963407
	return int(uint64(*x)>>33) % n
}

// bytes are n of them; 0 is more often among them than others are.
func (x *some) bytes(n int) []byte {
	b := make([]byte, n)
	for i := range b {
		b[i] = byte(x.below(256) * min(x.below(4), 1))
	}
	return b
}

func (x *some) row(g, s int) api.Row { return row(x.bytes(g), x.bytes(s)) }

// symbols are g of so many bytes each.
func (x *some) symbols(g, s int) [][]byte {
	l := make([][]byte, g)
	for i := range l {
		l[i] = x.bytes(s)
	}
	return l
}

// size is how many coefficients and how many bytes of payload rows have, and how many generations a window.
type size struct{ g, s, width int }

// sizes are those with which longer rows of calls are tried.
var sizes = []size{
	{1, 1, 1}, {1, 3, 2}, {2, 1, 4}, {2, 3, 3}, {3, 2, 1}, {3, 1, 5}, {4, 4, 16}, {5, 1, 7}, {7, 12, 2}, {16, 5, 15}, {3, 2, 16},
}

// bases are those at which windows are tried: where slots begin anew, round powers of two, and at the end of all generations.
var bases = []uint64{
	0, 1, 2, 3, 5, 15, 16, 17, 255, 256, 1<<31 - 1, 1<<32 - 2, 1 << 32, 1<<39 + 7,
	top - 40, top - 17, top - 16, top - 15, top - 3, top - 2, top - 1, top,
}

// wrongBases are those beyond all generations.
var wrongBases = []uint64{top + 1, top + 2, top + 16, 1 << 41, 1 << 63, math.MaxUint64 - 1, math.MaxUint64}

// both are a relay and the plain one of which the same was asked.
type both struct {
	r *relay.Relay
	p *plain
}

// begin is a new relay, which has to go well.
func begin(t *testing.T, x size) both {
	t.Helper()
	r, e := relay.New(x.g, x.s, x.width)
	if r == nil || e != api.OK {
		t.Fatalf("New of %d: error %d", x, e)
	}
	return both{r, plainOf(x.g, x.s, x.width)}
}

// at is a new relay whose window begins there.
func at(t *testing.T, x size, base uint64) both {
	t.Helper()
	b := begin(t, x)
	b.move(t, base)
	return b
}

// looks asks whether the relay is as the plain one is.
func (b both) looks(t *testing.T) {
	t.Helper()
	if b.r.Base() != b.p.base {
		t.Fatalf("Base: %d, not %d", b.r.Base(), b.p.base)
	}
	for _, gen := range b.p.asked() {
		rows := b.p.rows[gen]
		if b.r.In(gen) != b.p.in(gen) {
			t.Fatalf("In(%d), %d from %d on: %v", gen, b.p.width, b.p.base, b.r.In(gen))
		}
		if b.r.Rank(gen) != len(rows) {
			t.Fatalf("Rank(%d), %d from %d on: %d, not %d", gen, b.p.width, b.p.base, b.r.Rank(gen), len(rows))
		}
		if got := b.r.Rows(gen); !sameRows(got, rows) {
			t.Fatalf("Rows(%d), %d from %d on: %.60x, not %.60x", gen, b.p.width, b.p.base, got, rows)
		}
	}
	if got := b.r.Ranks(); !slices.Equal(got, b.p.ranks()) {
		t.Fatalf("Ranks, %d from %d on: %d, not %d", b.p.width, b.p.base, got, b.p.ranks())
	}
}

// take puts a row into both, which have to tell the same and to be the same behind it.
func (b both) take(t *testing.T, gen uint64, r api.Row) (bool, api.Errno) {
	t.Helper()
	isNew, e := b.r.Take(gen, r)
	if want, wantErr := b.p.take(gen, r); isNew != want || e != wantErr {
		t.Fatalf("Take(%d) of %.60x: %v, error %d, not %v, error %d", gen, r, isNew, e, want, wantErr)
	}
	b.looks(t)
	return isNew, e
}

func (b both) send(t *testing.T, gen, sent uint64, by []byte) (api.Row, api.Errno) {
	t.Helper()
	r, e := b.r.Send(gen, sent, by)
	if want, wantErr := b.p.send(gen, sent, by); !same(r, want) || e != wantErr {
		t.Fatalf("Send(%d, %d, %x): %.60x, error %d, not %.60x, error %d", gen, sent, by, r, e, want, wantErr)
	}
	return r, e
}

func (b both) solve(t *testing.T, gen uint64) ([][]byte, api.Errno) {
	t.Helper()
	symbols, e := b.r.Solve(gen)
	if want, wantErr := b.p.solve(gen); !sameAll(symbols, want) || e != wantErr {
		t.Fatalf("Solve(%d): %.60x, error %d, not %.60x, error %d", gen, symbols, e, want, wantErr)
	}
	return symbols, e
}

func (b both) move(t *testing.T, base uint64) {
	t.Helper()
	if e, want := b.r.Move(base), b.p.move(base); e != want {
		t.Fatalf("Move(%d): error %d, not %d", base, e, want)
	}
	b.looks(t)
}

func (b both) clear(t *testing.T) {
	t.Helper()
	b.r.Clear()
	clear(b.p.rows)
	b.looks(t)
}

func (b both) copy(t *testing.T) both {
	t.Helper()
	c := both{b.r.Copy(), b.p.clone()}
	c.looks(t)
	return c
}

// fill puts rows into each generation of the window, in each another number of them, from none to g.
func (b both) fill(t *testing.T, x *some) {
	t.Helper()
	for n := range uint64(b.p.width) {
		for want := (int(n) + x.below(b.p.g+1)) % (b.p.g + 1); b.p.in(b.p.base+n) && b.r.Rank(b.p.base+n) < want; {
			b.take(t, b.p.base+n, x.row(b.p.g, b.p.s))
		}
	}
}

// is holds an error against the one that it has to be.
func is(t *testing.T, what string, e, want api.Errno) {
	t.Helper()
	if e != want {
		t.Fatalf("%s: error %d, not %d", what, e, want)
	}
}
