package source_test

import (
	"bytes"
	"math"
	"slices"
	"strconv"
	"sync"
	"testing"

	"braidwork/api"
	"braidwork/source"
)

// full is the greatest number of bytes that a stream may have.
const full = 1 << 18

// plain is a source by the chapter's words, byte by byte, to be held against the program.
type plain struct {
	g, s   int
	gens   [][]byte
	open   []byte
	cuts   []int
	closed bool
}

func (p *plain) room() int { return p.g*p.s - 4 }

func (p *plain) stream() []byte { return slices.Concat(slices.Concat(p.gens...), p.open) }

// end makes a generation of what is open, if anything is.
func (p *plain) end() bool {
	if len(p.open) == 0 {
		return false
	}
	p.gens, p.open = append(p.gens, p.open), nil
	return true
}

func (p *plain) lay(b []byte) {
	for _, c := range b {
		if p.open = append(p.open, c); len(p.open) == p.room() {
			p.end()
		}
	}
}

func (p *plain) clone() *plain {
	return &plain{p.g, p.s, cloneAll(p.gens), bytes.Clone(p.open), slices.Clone(p.cuts), p.closed}
}

// need is the least most with which b may be submitted.
func (p *plain) need(b []byte) uint64 {
	left := p.clone()
	left.lay(b)
	left.end()
	return uint64(len(left.gens))
}

func (p *plain) submit(b []byte, most uint64) api.Errno {
	if p.closed {
		return api.ErrClosed
	}
	if len(p.stream())+len(b) > full || p.need(b) > most {
		return api.ErrFull
	}
	p.lay(b)
	return api.OK
}

func (p *plain) flush() api.Errno {
	if p.closed {
		return api.ErrClosed
	}
	if p.end() {
		p.cuts = append(p.cuts, len(p.stream()))
	}
	return api.OK
}

func (p *plain) close() api.Errno {
	e := p.flush()
	p.closed = true
	return e
}

// symbols asks of each place of each symbol what stands there.
func (p *plain) symbols(gen int) [][]byte {
	chunk := p.gens[gen]
	symbols := make([][]byte, p.g)
	for i := range symbols {
		symbols[i] = make([]byte, p.s)
		for j := range symbols[i] {
			switch at := i*p.s + j; {
			case at < 4:
				symbols[i][j] = byte(len(chunk) / []int{256 * 256 * 256, 256 * 256, 256, 1}[at])
			case at < 4+len(chunk):
				symbols[i][j] = chunk[at-4]
			}
		}
	}
	return symbols
}

// product is that of two elements, bit by bit.
func product(a, b byte) byte {
	sum, x := 0, int(a)
	for bit := range 8 {
		if b>>bit&1 == 1 {
			sum ^= x
		}
		if x *= 2; x > 255 {
			x ^= 0x11b
		}
	}
	return byte(sum)
}

func (p *plain) row(gen int, coefs []byte) api.Row {
	payload := make([]byte, p.s)
	for i, symbol := range p.symbols(gen) {
		for j, x := range symbol {
			payload[j] ^= product(coefs[i], x)
		}
	}
	return api.Row{Coefs: coefs, Payload: payload}
}

// rest is the remainder of a by n, bit by bit.
func rest(a uint64, n int) int {
	left := 0
	for bit := 63; bit >= 0; bit-- {
		left = (2*left + int(a>>bit&1)) % n
	}
	return left
}

func (p *plain) coefs(sent uint64, draw []byte) []byte {
	coefs := make([]byte, p.g)
	if sent >= uint64(p.g) {
		for i := range coefs {
			if i < len(draw) {
				coefs[i] = draw[i]
			}
		}
	}
	if bytes.Count(coefs, []byte{0}) == len(coefs) {
		coefs[rest(sent, p.g)] = 1
	}
	return coefs
}

// restoredPlain goes place by place; the cuts have to rise.
func restoredPlain(g, s int, stream []byte, cuts []int, closed bool) *plain {
	p := &plain{g: g, s: s, cuts: slices.Clone(cuts), closed: closed}
	for i := range stream {
		p.lay(stream[i : i+1])
		if _, isCut := slices.BinarySearch(cuts, i+1); isCut {
			p.end()
		}
	}
	return p
}

// some makes numbers, always the same ones of one seed.
type some uint64

func seeded(seed int) *some {
	x := some(seed)*7919 + 5
	return &x
}

func (x *some) below(n int) int {
	*x = *x*6364136223846793005 + 1442695040888963407
	return int(uint64(*x)>>33) % n
}

// bytes are none of them 0.
func (x *some) bytes(n int) []byte {
	b := make([]byte, n)
	for i := range b {
		b[i] = byte(1 + x.below(255))
	}
	return b
}

// coefs are n of them; 0 is more often among them than others are.
func (x *some) coefs(n int) []byte {
	b := x.bytes(n)
	for i := range b {
		if x.below(4) == 0 {
			b[i] = 0
		}
	}
	return b
}

// size is how many symbols a generation has, of how many bytes each.
type size struct{ g, s int }

func (x size) room() int { return x.g*x.s - 4 }

// sizes are some that a generation may have: with one byte of room and more, many symbols, long ones.
var sizes = []size{{1, 5}, {5, 1}, {2, 3}, {3, 2}, {1, 6}, {7, 1}, {4, 2}, {3, 3}, {2, 5}, {4, 5}, {9, 7}, {1, 300}, {255, 1}, {16, 17}, {255, 2}}

// small are those of which every case can be gone through.
var small = []size{{1, 5}, {5, 1}, {2, 3}, {3, 2}, {7, 1}, {1, 8}}

func cloneAll(l [][]byte) [][]byte {
	c := make([][]byte, len(l))
	for i := range c {
		c[i] = bytes.Clone(l[i])
	}
	return c
}

func sameAll(a, b [][]byte) bool { return slices.EqualFunc(a, b, bytes.Equal) }

func sameRow(a, b api.Row) bool {
	return bytes.Equal(a.Coefs, b.Coefs) && bytes.Equal(a.Payload, b.Payload)
}

func unit(n, at int) []byte {
	u := make([]byte, n)
	u[at] = 1
	return u
}

// These are for calls that have to go well.

func made(t *testing.T, x size) *source.Source {
	t.Helper()
	made, e := source.New(x.g, x.s)
	if made == nil || e != api.OK {
		t.Fatalf("New(%d, %d): error %d", x.g, x.s, e)
	}
	return made
}

func restored(t *testing.T, x size, stream []byte, cuts []int, closed bool) *source.Source {
	t.Helper()
	made, e := source.Restore(x.g, x.s, stream, cuts, closed)
	if made == nil || e != api.OK {
		t.Fatalf("Restore for %v of %d bytes, cuts %.60v, closed %v: error %d", x, len(stream), cuts, closed, e)
	}
	return made
}

func ok(t *testing.T, what string, e api.Errno) {
	t.Helper()
	is(t, what, e, api.OK)
}

func is(t *testing.T, what string, e, want api.Errno) {
	t.Helper()
	if e != want {
		t.Fatalf("%s: error %d, not %d", what, e, want)
	}
}

func symbols(t *testing.T, x *source.Source, gen uint64) [][]byte {
	t.Helper()
	l, e := x.Symbols(gen)
	ok(t, "Symbols", e)
	return l
}

func row(t *testing.T, x *source.Source, gen uint64, coefs []byte) api.Row {
	t.Helper()
	r, e := x.Row(gen, coefs)
	ok(t, "Row", e)
	return r
}

func send(t *testing.T, x *source.Source, gen, sent uint64, draw []byte) api.Row {
	t.Helper()
	r, e := x.Send(gen, sent, draw)
	ok(t, "Send", e)
	return r
}

// These are for calls that have to go wrong.

func restoredNot(t *testing.T, x size, stream []byte, cuts []int, closed bool) {
	t.Helper()
	if made, e := source.Restore(x.g, x.s, stream, cuts, closed); made != nil || e != api.ErrArg {
		t.Fatalf("Restore for %v of %d bytes, cuts %.60v, closed %v: %v, error %d", x, len(stream), cuts, closed, made != nil, e)
	}
}

func symbolsNot(t *testing.T, x *source.Source, gen uint64, want api.Errno) {
	t.Helper()
	if l, e := x.Symbols(gen); len(l) != 0 || e != want {
		t.Fatalf("Symbols of %d: %.60x, error %d, not %d", gen, l, e, want)
	}
}

func rowNot(t *testing.T, x *source.Source, gen uint64, coefs []byte, want api.Errno) {
	t.Helper()
	if r, e := x.Row(gen, coefs); len(r.Coefs) != 0 || len(r.Payload) != 0 || e != want {
		t.Fatalf("Row of %d by %.60x: %.60x, error %d, not %d", gen, coefs, r, e, want)
	}
}

func sendNot(t *testing.T, x *source.Source, gen, sent uint64, draw []byte, want api.Errno) {
	t.Helper()
	if r, e := x.Send(gen, sent, draw); len(r.Coefs) != 0 || len(r.Payload) != 0 || e != want {
		t.Fatalf("Send of %d behind %d by %.60x: %.60x, error %d, not %d", gen, sent, draw, r, e, want)
	}
}

// looks holds what a source is against what it should be.
func looks(t *testing.T, what string, x *source.Source, p *plain) {
	t.Helper()
	if x.Closed() != p.closed || x.Gens() != uint64(len(p.gens)) || !slices.Equal(x.Cuts(), p.cuts) {
		t.Fatalf("%s: closed %v, %d generations, cuts %.60v; not closed %v, %d generations, cuts %.60v", what, x.Closed(), x.Gens(), x.Cuts(), p.closed, len(p.gens), p.cuts)
	}
	if stream := x.Stream(); !bytes.Equal(stream, p.stream()) {
		t.Fatalf("%s: stream of %d bytes %.60x, not %d bytes %.60x", what, len(stream), stream, len(p.stream()), p.stream())
	}
}

// sents are how many may have been sent of g symbols: few, round each time that turns go round, great numbers.
func sents(g int) []uint64 {
	n := uint64(g)
	all := []uint64{0, 1, 2, n / 2, n - 1, n, n + 1, 2*n - 1, 2 * n, 2*n + 1, 3 * n, 7 * n, 254, 255, 256, 257, 511, 512, 1 << 16, 1<<16 + 1}
	for _, great := range []uint64{1 << 31, 1 << 32, 1 << 50, 1 << 62, 1 << 63} {
		all = append(all, great-1, great, great+1, great+2, great+n-1, great+n, great-n)
	}
	return append(all, math.MaxUint64, math.MaxUint64-1, math.MaxUint64-n)
}

// draws are none, noughts, shorter and longer ones than g, and such as are all 0 up to g.
func draws(g int) [][]byte {
	r := seeded(g)
	all := [][]byte{nil, {}, {0}, make([]byte, g), make([]byte, g+5), unit(g, g-1), unit(g+1, g), unit(g+1, 0), r.coefs(g), r.bytes(g), r.bytes(g + 1), r.bytes(g + 300), append(make([]byte, g), r.bytes(9)...)}
	return append(all, r.bytes(1), r.bytes(g/2), r.bytes(g-1), make([]byte, g-1))
}

// far are generations that there are not when there are so many.
func far(gens int) []uint64 {
	n := uint64(gens)
	return []uint64{n, n + 1, n + 2, n + 16, n + 255, n + 256, n + 1<<16, 1 << 31, 1 << 32, 1<<32 + n/2, 1 << 40, 1<<40 + 1, 1 << 62, 1<<63 - 1, 1 << 63, 1<<63 + n/2, math.MaxUint64 - 1, math.MaxUint64}
}

// agrees holds every answer of a source against what it should be, with rows and what is sent of each generation.
func agrees(t *testing.T, what string, x *source.Source, p *plain) {
	t.Helper()
	looks(t, what, x, p)
	r := seeded(len(p.gens))
	for gen := range p.gens {
		if l := symbols(t, x, uint64(gen)); !sameAll(l, p.symbols(gen)) {
			t.Fatalf("%s: symbols of %d: %.60x, not %.60x", what, gen, l, p.symbols(gen))
		}
		coefs := r.coefs(p.g)
		if told := row(t, x, uint64(gen), coefs); !sameRow(told, p.row(gen, coefs)) {
			t.Fatalf("%s: row of %d by %x: %.60x, not %.60x", what, gen, coefs, told, p.row(gen, coefs))
		}
		sent, draw := uint64(r.below(3*p.g)), r.coefs(r.below(p.g+2))
		if told, want := send(t, x, uint64(gen), sent, draw), p.row(gen, p.coefs(sent, draw)); !sameRow(told, want) {
			t.Fatalf("%s: sent of %d behind %d by %x: %.60x, not %.60x", what, gen, sent, draw, told, want)
		}
	}
	for _, gen := range far(len(p.gens)) {
		symbolsNot(t, x, gen, api.ErrWindow)
		rowNot(t, x, gen, unit(p.g, 0), api.ErrWindow)
		sendNot(t, x, gen, 0, nil, api.ErrWindow)
	}
}

// both are a source and what it should be, to which the same is done.
type both struct {
	x *source.Source
	p *plain
}

func begin(t *testing.T, x size) both {
	t.Helper()
	return both{made(t, x), &plain{g: x.g, s: x.s}}
}

func (b both) submit(t *testing.T, bytes []byte, most uint64) api.Errno {
	t.Helper()
	want := b.p.submit(bytes, most)
	is(t, "Submit of "+strconv.Itoa(len(bytes))+" with most "+strconv.FormatUint(most, 10), b.x.Submit(bytes, most), want)
	return want
}

func (b both) flush(t *testing.T) {
	t.Helper()
	is(t, "Flush", b.x.Flush(), b.p.flush())
}

func (b both) close(t *testing.T) {
	t.Helper()
	is(t, "Close", b.x.Close(), b.p.close())
}

// filled is one of n bytes, cut here and there.
func filled(t *testing.T, x size, n int) both {
	t.Helper()
	b, r := begin(t, x), seeded(n)
	for n > 0 {
		piece := min(n, 1+r.below(2*x.room()+1))
		is(t, "Submit", b.submit(t, r.bytes(piece), math.MaxUint64), api.OK)
		if n -= piece; r.below(3) == 0 {
			b.flush(t)
		}
	}
	return b
}

func TestLimits(t *testing.T) { // P13.1, P13.2: api's bounds are those that the tests go by
	if api.MaxStream != full || api.MaxG != 255 || api.MaxS != 65535 || api.Header != 4 {
		t.Error(api.MaxStream, api.MaxG, api.MaxS, api.Header)
	}
}

func TestFirstExample(t *testing.T) { // P13.1, P13.2, P13.3
	x := made(t, size{2, 3})
	ok(t, "Submit", x.Submit([]byte("abc"), 9))
	if x.Gens() != 1 {
		t.Error("generations:", x.Gens())
	}
	ok(t, "Flush", x.Flush())
	if x.Gens() != 2 {
		t.Error("generations:", x.Gens())
	}
	if r := row(t, x, 1, []byte{1, 1}); !sameRow(r, api.Row{Coefs: []byte{1, 1}, Payload: []byte{1, 0x63, 0}}) {
		t.Error("row:", r)
	}
	if l := symbols(t, x, 0); !sameAll(l, [][]byte{{0, 0, 0}, {2, 0x61, 0x62}}) {
		t.Error("symbols:", l)
	}
	if r := send(t, x, 0, 1, nil); !sameRow(r, api.Row{Coefs: []byte{0, 1}, Payload: []byte{2, 0x61, 0x62}}) {
		t.Error("sent:", r)
	}
}

func TestSecondExample(t *testing.T) { // P13.2
	x := made(t, size{2, 3})
	is(t, "Submit", x.Submit([]byte("abcde"), 2), api.ErrFull)
	looks(t, "behind ErrFull", x, &plain{g: 2, s: 3})
	ok(t, "Close", x.Close())
	is(t, "Submit", x.Submit([]byte("x"), 9), api.ErrClosed)
}

func TestRowOfTheWholesExample(t *testing.T) { // P13.3: as DOC.md's examples have it
	x := made(t, size{2, 3})
	ok(t, "Submit", x.Submit([]byte("ab"), 1))
	for sent, want := range []api.Row{{Coefs: []byte{1, 0}, Payload: []byte{0, 0, 0}}, {Coefs: []byte{0, 1}, Payload: []byte{2, 0x61, 0x62}}, {Coefs: []byte{3, 1}, Payload: []byte{2, 0x61, 0x62}}} {
		if r := send(t, x, 0, uint64(sent), []byte{3, 1}); !sameRow(r, want) {
			t.Error(sent, r, want)
		}
	}
}

// wrongSizes are those that no generation may have, among them those that may when only their lowest bits are seen.
func wrongSizes() []size {
	all := []size{{1, 1}, {1, 2}, {1, 3}, {1, 4}, {2, 1}, {2, 2}, {3, 1}, {4, 1}}
	odd := []int{0, -1, -2, -5, -255, -65535, 65536, 65537, 65541, 1 << 20, 1<<32 + 5, 1<<32 - 1, 1 << 32, math.MaxInt32, math.MinInt32, math.MinInt32 + 7, 1 << 62, 1<<62 + 3, math.MaxInt, math.MinInt, math.MinInt + 9}
	for _, x := range []int{1, 2, 5, 100, 255} {
		for _, wrong := range odd {
			all = append(all, size{x, wrong}, size{wrong, x})
		}
	}
	for _, s := range []int{1, 2, 5, 255, 256, 65535} {
		for _, g := range []int{256, 257, 260, 511, 512, 65535} {
			all = append(all, size{g, s})
		}
	}
	for _, g := range odd {
		for _, s := range odd {
			all = append(all, size{g, s})
		}
	}
	return all
}

func TestNew(t *testing.T) { // P13.1: sizes at both ends of each bound
	for _, x := range append([]size{{255, 65535}, {1, 65535}, {254, 65534}, {2, 65535}, {255, 3}}, sizes...) {
		agrees(t, "new", made(t, x), &plain{g: x.g, s: x.s})
		agrees(t, "restored of nothing", restored(t, x, nil, nil, false), &plain{g: x.g, s: x.s})
	}
}

func TestWrongSizes(t *testing.T) { // P13.1: ErrArg
	for _, x := range wrongSizes() {
		if made, e := source.New(x.g, x.s); made != nil || e != api.ErrArg {
			t.Fatalf("New(%d, %d): %v, error %d", x.g, x.s, made != nil, e)
		}
		for _, closed := range []bool{false, true} {
			restoredNot(t, x, nil, nil, closed)
			restoredNot(t, x, []byte{}, []int{}, closed)
			restoredNot(t, x, nil, []int{0}, closed)
			restoredNot(t, x, []byte("abc"), []int{3}, closed)
			restoredNot(t, x, []byte("abc"), []int{4}, closed)
		}
	}
}

func TestRestoreOfAllSmall(t *testing.T) { // P13.1: streams of up to six bytes with up to three cuts, right and wrong, open and closed
	counts := [2]int{}
	for _, x := range small {
		for n := range 7 {
			stream := seeded(n).bytes(n)
			var all [][]int
			for a := -1; a <= n+1; a++ {
				all = append(all, []int{a})
				for b := -1; b <= n+1; b++ {
					all = append(all, []int{a, b})
					for c := -1; c <= n+1; c++ {
						all = append(all, []int{a, b, c})
					}
				}
			}
			for _, cuts := range append(all, nil, []int{}) {
				for _, closed := range []bool{false, true} {
					rises := slices.IsSorted(cuts) && (len(cuts) == 0 || cuts[0] >= 0 && cuts[len(cuts)-1] <= n)
					p := restoredPlain(x.g, x.s, stream, cuts, closed)
					if !rises || closed && len(p.open) > 0 {
						restoredNot(t, x, stream, cuts, closed)
						counts[0]++
						continue
					}
					looks(t, "restored", restored(t, x, stream, cuts, closed), p)
					counts[1]++
				}
			}
		}
	}
	if counts[0] < 1000 || counts[1] < 1000 {
		t.Error("too few of a sort:", counts)
	}
}

func TestRestoreOfWrongCuts(t *testing.T) { // P13.1: far out, and at any place of a long list
	x, stream := size{2, 3}, seeded(1).bytes(100)
	for _, wrong := range []int{-1, -2, -100, -256, math.MinInt32, math.MinInt, math.MinInt + 1, math.MinInt + 50, 101, 102, 200, 356, 1 << 16, 1<<16 + 50, 1 << 32, 1<<32 + 50, math.MaxInt32, math.MaxInt, math.MaxInt - 1} {
		for _, closed := range []bool{false, true} {
			restoredNot(t, x, stream, []int{wrong}, closed)
			restoredNot(t, x, stream, []int{50, wrong}, closed)
			restoredNot(t, x, stream, []int{wrong, 100}, closed)
			restoredNot(t, x, stream, []int{50, wrong, 100}, closed)
		}
	}
	for at := range 100 {
		cuts := make([]int, 101)
		for i := range cuts {
			cuts[i] = i
		}
		cuts[at], cuts[at+1] = cuts[at+1], cuts[at]
		restoredNot(t, x, stream, cuts, false)
		restoredNot(t, x, stream, cuts, true)
	}
}

func TestRestoreOfLongStreams(t *testing.T) { // P13.1: just MaxStream bytes, fewer and more
	for _, x := range []size{{1, 5}, {2, 3}, {5, 4}, {4, 16385}, {4, 32769}, {255, 65535}} {
		for _, n := range []int{0, 1, 2, full / 2, full - 1, full} {
			stream := seeded(n).bytes(n)
			p := restoredPlain(x.g, x.s, stream, nil, false)
			looks(t, "restored", restored(t, x, stream, nil, false), p)
			if p.closed = true; len(p.open) == 0 {
				looks(t, "restored", restored(t, x, stream, nil, true), p)
			} else {
				restoredNot(t, x, stream, nil, true)
			}
			cuts := []int{n / 3, n / 2, n}
			looks(t, "restored", restored(t, x, stream, cuts, true), restoredPlain(x.g, x.s, stream, cuts, true))
		}
		for _, n := range []int{full + 1, full + 2, full + 3, full + x.room(), 2 * full, 1 << 20} {
			for _, closed := range []bool{false, true} {
				restoredNot(t, x, make([]byte, n), nil, closed)
				restoredNot(t, x, make([]byte, n), []int{n}, closed)
				restoredNot(t, x, make([]byte, n), []int{0, full, n, n}, closed)
			}
		}
	}
}

func TestRestoreOfManyCuts(t *testing.T) { // P13.1: cuts are told as they were given, also those that cut nothing off
	for _, x := range sizes {
		for n := range 2*x.room() + 3 {
			for _, times := range []int{1, 2, 5} {
				var cuts []int
				for place := range n + 1 {
					for range times {
						cuts = append(cuts, place)
					}
				}
				if n > 20 {
					cuts = cuts[len(cuts)-20:]
				}
				stream := seeded(n).bytes(n)
				looks(t, "restored", restored(t, x, stream, cuts, true), restoredPlain(x.g, x.s, stream, cuts, true))
			}
			if n > 40 {
				break
			}
		}
	}
	cuts, stream := make([]int, full+1), seeded(9).bytes(full)
	for i := range cuts {
		cuts[i] = i
	}
	x := restored(t, size{2, 3}, stream, cuts, true)
	if x.Gens() != full || !slices.Equal(x.Cuts(), cuts) || !bytes.Equal(x.Stream(), stream) {
		t.Error("a cut behind each byte:", x.Gens(), len(x.Cuts()), len(x.Stream()))
	}
	for _, gen := range []int{0, 1, full / 2, full - 1} {
		if l := symbols(t, x, uint64(gen)); !sameAll(l, [][]byte{{0, 0, 0}, {1, stream[gen], 0}}) {
			t.Error(gen, l)
		}
	}
	many := restored(t, size{2, 3}, nil, make([]int, 1<<20), false)
	if many.Gens() != 0 || len(many.Cuts()) != 1<<20 {
		t.Error("many cuts of nothing:", many.Gens(), len(many.Cuts()))
	}
}

func TestNoSource(t *testing.T) { // P13.1 to P13.3: of none, and of one that New did not make; ErrNil ahead of all else
	for name, x := range map[string]*source.Source{"none": nil, "not made": new(source.Source)} {
		for range 2 {
			for _, most := range []uint64{0, 1, math.MaxUint64} {
				is(t, name+": Submit", x.Submit(nil, most), api.ErrNil)
				is(t, name+": Submit", x.Submit([]byte("abc"), most), api.ErrNil)
				is(t, name+": Submit", x.Submit(make([]byte, full+1), most), api.ErrNil)
			}
			for _, gen := range []uint64{0, 1, 1 << 40, math.MaxUint64} {
				symbolsNot(t, x, gen, api.ErrNil)
				for _, b := range [][]byte{nil, {}, {1}, {1, 2}, make([]byte, 300)} {
					rowNot(t, x, gen, b, api.ErrNil)
					sendNot(t, x, gen, 0, b, api.ErrNil)
					sendNot(t, x, gen, math.MaxUint64, b, api.ErrNil)
				}
			}
			is(t, name+": Flush", x.Flush(), api.ErrNil)
			is(t, name+": Close", x.Close(), api.ErrNil)
			is(t, name+": Close", x.Close(), api.ErrNil)
			if x.Closed() || x.Gens() != 0 || len(x.Stream()) != 0 || len(x.Cuts()) != 0 {
				t.Fatal(name, x.Closed(), x.Gens(), x.Stream(), x.Cuts())
			}
		}
	}
}

// most is one of the numbers of generations that a Submit of b may be given, by its number.
func (p *plain) most(b []byte, number int) uint64 {
	need := p.need(b)
	switch number {
	case 1:
		return max(need, 1) - 1
	case 2:
		return 0
	case 3:
		return math.MaxUint64
	}
	return need
}

// does one of the calls, by its number, of which there are so many.
func (b both) does(t *testing.T, number int) {
	t.Helper()
	lengths := []int{0, 1, b.p.room()}
	switch number {
	case 0:
		b.flush(t)
	case 1:
		b.close(t)
	default:
		bytes := seeded(number).bytes(lengths[(number-2)/4])
		b.submit(t, bytes, b.p.most(bytes, (number-2)%4))
	}
}

const calls = 14

func TestAllShortRowsOfCalls(t *testing.T) { // P13.2: each four calls, with every sort of most
	for _, x := range []size{{1, 5}, {2, 3}, {7, 1}} {
		for first := range calls {
			for second := range calls {
				for third := range calls {
					for fourth := range calls {
						b := begin(t, x)
						for _, call := range []int{first, second, third, fourth} {
							b.does(t, call)
							looks(t, "behind a call", b.x, b.p)
						}
					}
				}
			}
		}
	}
}

func TestLongRowsOfCalls(t *testing.T) { // P13.2, P13.3, P13.4: and at each step a restored one that answers alike and goes on alike
	for _, x := range sizes {
		for seed := range 5 {
			r, b := seeded(seed), begin(t, x)
			again := b
			for range 60 {
				if r.below(8) == 0 {
					again = both{restored(t, x, b.x.Stream(), b.x.Cuts(), b.x.Closed()), b.p.clone()}
				}
				call := r.below(24)
				if call == 1 && r.below(10) > 0 {
					call = 0
				}
				for _, one := range []both{b, again} {
					if call < calls {
						one.does(t, call)
					} else {
						one.submit(t, seeded(call).bytes(call*x.room()/15), math.MaxUint64)
					}
				}
				looks(t, "behind a call", b.x, b.p)
				looks(t, "restored, behind a call", again.x, b.p)
				if x.g*x.s < 100 && len(b.p.gens) < 20 {
					agrees(t, "behind a call", b.x, b.p)
					agrees(t, "restored, behind a call", again.x, b.p)
				}
			}
		}
	}
}

func TestSubmitInPieces(t *testing.T) { // P13.2, P13.4: in one piece, byte by byte, in pieces of each length
	for _, x := range sizes {
		all := seeded(x.g).bytes(4*x.room() + 3)
		for _, n := range []int{0, 1, 2, x.room() - 1, x.room(), x.room() + 1, 2*x.room() - 1, 2 * x.room(), 2*x.room() + 1, 4*x.room() + 3} {
			p := &plain{g: x.g, s: x.s}
			p.lay(all[:n])
			most, whole := p.need(nil), made(t, x)
			ok(t, "Submit", whole.Submit(all[:n], most))
			agrees(t, "in one piece", whole, p)
			for _, length := range []int{1, 2, 3, x.room() - 1, x.room(), x.room() + 1} {
				if length < 1 {
					continue
				}
				x := made(t, x)
				for piece := range slices.Chunk(all[:n], length) {
					ok(t, "Submit", x.Submit(piece, most))
				}
				agrees(t, "in pieces", x, p)
			}
		}
	}
}

// brims are rooms that a stream of 2^18 bytes fills just so, that it does not, and one that is greater than it.
var brims = []size{{1, 5}, {2, 3}, {5, 1}, {1, 7}, {5, 20}, {4, 16385}, {4, 32769}, {4, 65535}, {5, 65535}, {255, 65535}}

func TestSubmitUpToTheBrim(t *testing.T) { // P13.2: up to just 2^18 bytes, and one beyond
	all := seeded(3).bytes(2 * full)
	for _, x := range brims {
		full := both{made(t, x), &plain{g: x.g, s: x.s}}
		most := uint64((1<<18 + x.room() - 1) / x.room())
		is(t, "Submit of one too many", full.x.Submit(all[:1<<18+1], math.MaxUint64), api.ErrFull)
		is(t, "Submit of far too many", full.x.Submit(all, math.MaxUint64), api.ErrFull)
		is(t, "Submit with most one less", full.x.Submit(all[:1<<18], most-1), api.ErrFull)
		looks(t, "nothing submitted", full.x, full.p)
		full.p.lay(all[:1<<18])
		ok(t, "Submit of just so many", full.x.Submit(all[:1<<18], most))
		looks(t, "full", full.x, full.p)
		for range 2 {
			for _, n := range []int{1, 2, x.room(), 1 << 18, 1 << 19} {
				is(t, "Submit behind", full.x.Submit(all[:min(n, 1<<19)], math.MaxUint64), api.ErrFull)
			}
			ok(t, "Submit of none behind", full.x.Submit(nil, most))
			looks(t, "full", full.x, full.p)
			full.flush(t)
		}
		full.close(t)
		is(t, "Submit behind", full.x.Submit(all[:1], math.MaxUint64), api.ErrClosed)
		looks(t, "full and closed", full.x, full.p)
	}
}

func TestSubmitUpToTheBrimByPieces(t *testing.T) { // P13.2
	all := seeded(4).bytes(full)
	for _, x := range brims {
		p := &plain{g: x.g, s: x.s}
		p.lay(all)
		most := p.need(nil)
		for _, length := range []int{1, 1000, 65536, full - 1} {
			x := made(t, x)
			for piece := range slices.Chunk(all, length) {
				ok(t, "Submit", x.Submit(piece, most))
			}
			is(t, "Submit of one too many", x.Submit([]byte{1}, math.MaxUint64), api.ErrFull)
			looks(t, "full", x, p)
		}
		for _, left := range []int{1, 2, 100} {
			x := made(t, x)
			ok(t, "Submit", x.Submit(all[:full-left], math.MaxUint64))
			is(t, "Submit of one too many", x.Submit(make([]byte, left+1), math.MaxUint64), api.ErrFull)
			ok(t, "Submit of what is left", x.Submit(all[full-left:], math.MaxUint64))
			looks(t, "full", x, p)
		}
	}
}

func TestFlushBehindEachByteUpToTheBrim(t *testing.T) { // P13.2: as many generations and cuts as bytes
	x, all := made(t, size{2, 3}), seeded(5).bytes(full)
	for i := range all {
		is(t, "Submit with most too small", x.Submit(all[i:i+1], uint64(i)), api.ErrFull)
		ok(t, "Submit", x.Submit(all[i:i+1], uint64(i)+1))
		ok(t, "Flush", x.Flush())
		if x.Gens() != uint64(i)+1 {
			t.Fatal("generations:", x.Gens(), "of bytes:", i+1)
		}
	}
	cuts := x.Cuts()
	if len(cuts) != full || cuts[0] != 1 || cuts[full-1] != full || !bytes.Equal(x.Stream(), all) {
		t.Fatal("cuts:", len(cuts))
	}
	is(t, "Submit of one too many", x.Submit([]byte{1}, math.MaxUint64), api.ErrFull)
	if again := restored(t, size{2, 3}, all, cuts, false); again.Gens() != full {
		t.Fatal("restored:", again.Gens())
	}
}

func TestMost(t *testing.T) { // P13.2: behind all sorts of streams, just so many generations as there would be, one less, none, the greatest numbers
	for _, x := range sizes {
		for _, ahead := range []int{0, 1, x.room() - 1, x.room(), x.room() + 1, 2*x.room() - 1, 3 * x.room(), 3*x.room() + 1} {
			for _, flushed := range []bool{false, true} {
				for _, n := range []int{0, 1, x.room() - 1, x.room(), x.room() + 1, 3 * x.room(), 3*x.room() + 2} {
					begun := func() both {
						b := begin(t, x)
						b.submit(t, seeded(ahead).bytes(ahead), math.MaxUint64)
						if flushed {
							b.flush(t)
						}
						return b
					}
					bytes, b := seeded(n).bytes(n), begun()
					need := b.p.need(bytes)
					for less := uint64(1); less <= need; less++ {
						is(t, "Submit with most too small", b.submit(t, bytes, need-less), api.ErrFull)
						looks(t, "with most too small", b.x, b.p)
					}
					for _, most := range []uint64{need, need + 1, need + 7, 1 << 31, 1 << 32, 1 << 40, 1<<63 - 1, 1 << 63, math.MaxUint64 - 1, math.MaxUint64} {
						b := begun()
						is(t, "Submit", b.submit(t, bytes, most), api.OK)
						looks(t, "with most great enough", b.x, b.p)
					}
				}
			}
		}
	}
}

func TestSubmitOfNoBytes(t *testing.T) { // P13.2: nothing changes; what there is may be more than most all the same
	for _, none := range [][]byte{nil, {}, []byte("abc")[:0]} {
		b := begin(t, size{2, 3})
		is(t, "of nothing", b.submit(t, none, 0), api.OK)
		b.submit(t, []byte("a"), 9)
		is(t, "of one that is open", b.submit(t, none, 0), api.ErrFull)
		is(t, "of one that is open", b.submit(t, none, 1), api.OK)
		b.submit(t, []byte("b"), 9)
		is(t, "of one generation", b.submit(t, none, 0), api.ErrFull)
		is(t, "of one generation", b.submit(t, none, 1), api.OK)
		b.submit(t, []byte("c"), 9)
		is(t, "of one generation and one that is open", b.submit(t, none, 1), api.ErrFull)
		is(t, "of one generation and one that is open", b.submit(t, none, 2), api.OK)
		looks(t, "behind no bytes", b.x, b.p)
		b.close(t)
		is(t, "of one that is closed", b.submit(t, none, math.MaxUint64), api.ErrClosed)
		is(t, "of one that is closed", b.submit(t, none, 0), api.ErrClosed)
		looks(t, "behind no bytes", b.x, b.p)
	}
}

func TestFlush(t *testing.T) { // P13.2: a cut where something is open, none where nothing is
	for _, x := range sizes {
		for n := range min(2*x.room()+2, 600) {
			b := begin(t, x)
			b.submit(t, seeded(n).bytes(n), math.MaxUint64)
			for range 3 {
				b.flush(t)
				if cuts := len(b.x.Cuts()); cuts > 1 || (cuts == 1) != (n%x.room() > 0) {
					t.Fatal(x, n, "cuts:", b.x.Cuts())
				}
				looks(t, "flushed", b.x, b.p)
			}
		}
	}
}

func TestClose(t *testing.T) { // P13.2: likewise, and nothing may come behind; ErrClosed ahead of ErrFull
	for _, x := range sizes {
		for n := range min(2*x.room()+2, 600) {
			b := begin(t, x)
			b.submit(t, seeded(n).bytes(n), math.MaxUint64)
			if b.x.Closed() {
				t.Fatal("closed by itself")
			}
			ok(t, "Close", b.x.Close())
			b.p.close()
			for range 2 {
				looks(t, "closed", b.x, b.p)
				is(t, "Close", b.x.Close(), api.ErrClosed)
				is(t, "Flush", b.x.Flush(), api.ErrClosed)
				is(t, "Submit", b.x.Submit([]byte("x"), math.MaxUint64), api.ErrClosed)
				is(t, "Submit", b.x.Submit([]byte("x"), 0), api.ErrClosed)
				is(t, "Submit", b.x.Submit(make([]byte, full+1), math.MaxUint64), api.ErrClosed)
			}
			looks(t, "closed", b.x, b.p)
		}
		closed := restored(t, x, nil, nil, true)
		is(t, "Close", closed.Close(), api.ErrClosed)
		is(t, "Flush", closed.Flush(), api.ErrClosed)
		is(t, "Submit", closed.Submit(nil, 9), api.ErrClosed)
		looks(t, "restored closed", closed, &plain{g: x.g, s: x.s, closed: true})
	}
}

func TestWhatIsOpenIsNone(t *testing.T) { // P13.3: ErrWindow, until it is a generation
	for _, x := range sizes {
		for n := range min(x.room(), 300) {
			b := begin(t, x)
			b.submit(t, seeded(n).bytes(n), 1)
			agrees(t, "open", b.x, b.p)
			b.close(t)
			agrees(t, "closed", b.x, b.p)
		}
	}
}

func TestRow(t *testing.T) { // P13.3: by noughts, units, any
	for _, x := range sizes {
		b := filled(t, x, 4*x.room()+1)
		for gen := range b.p.gens {
			all := [][]byte{make([]byte, x.g), bytes.Repeat([]byte{1}, x.g), bytes.Repeat([]byte{255}, x.g), seeded(gen).coefs(x.g), seeded(gen + 50).bytes(x.g)}
			for at := range min(x.g, 30) {
				all = append(all, unit(x.g, at), unit(x.g, x.g-1-at))
				other := unit(x.g, at)
				other[at] = byte(2 + gen + at)
				all = append(all, other)
			}
			for _, coefs := range all {
				if told := row(t, b.x, uint64(gen), coefs); !sameRow(told, b.p.row(gen, coefs)) {
					t.Fatalf("%v: row of %d by %x: %.60x, not %.60x", x, gen, coefs, told, b.p.row(gen, coefs))
				}
			}
		}
	}
}

func TestRowOfEachCoefficient(t *testing.T) { // P13.3: each element with each other one, at each place
	for _, x := range []size{{2, 130}, {3, 90}} {
		b := begin(t, x)
		for c := range 256 {
			b.submit(t, []byte{byte(c)}, math.MaxUint64)
		}
		b.flush(t)
		for c := range 256 {
			for at := range x.g {
				coefs := make([]byte, x.g)
				coefs[at] = byte(c)
				if told := row(t, b.x, 0, coefs); !sameRow(told, b.p.row(0, coefs)) {
					t.Fatalf("by %x: %.60x", coefs, told)
				}
			}
		}
	}
}

func TestRowOfOtherSizes(t *testing.T) { // P13.3: ErrDim; ErrWindow ahead of it
	for _, x := range sizes {
		b := filled(t, x, 3*x.room()+1)
		gens := len(b.p.gens)
		for _, n := range []int{0, 1, 2, x.g - 1, x.g + 1, x.g + 2, 2 * x.g, x.g + 256, x.s, 255, 256, 70000} {
			if n == x.g || n < 0 {
				continue
			}
			for _, coefs := range [][]byte{make([]byte, n), seeded(n).bytes(n)} {
				for gen := range gens {
					rowNot(t, b.x, uint64(gen), coefs, api.ErrDim)
				}
				for _, gen := range far(gens) {
					rowNot(t, b.x, gen, coefs, api.ErrWindow)
				}
			}
		}
		agrees(t, "behind wrong rows", b.x, b.p)
	}
}

func TestRowsAreLinear(t *testing.T) { // P13.5: of sums, and of multiples
	for _, x := range sizes {
		b, r := filled(t, x, 3*x.room()+1), seeded(x.s)
		for gen := range b.p.gens {
			for range 10 {
				one, other, c := r.coefs(x.g), r.coefs(x.g), byte(r.below(256))
				sum, times := make([]byte, x.g), make([]byte, x.g)
				for i := range sum {
					sum[i], times[i] = one[i]^other[i], product(c, one[i])
				}
				of := func(coefs []byte) []byte { return row(t, b.x, uint64(gen), coefs).Payload }
				ofOne, ofOther, ofSum, ofTimes := of(one), of(other), of(sum), of(times)
				for i := range x.s {
					if ofSum[i] != ofOne[i]^ofOther[i] || ofTimes[i] != product(c, ofOne[i]) {
						t.Fatalf("%v: row of %d by %x and %x, times %d", x, gen, one, other, c)
					}
				}
			}
		}
	}
}

func TestFirstOnesSentAreTheSymbols(t *testing.T) { // P13.3, P13.5: whatever the draw
	for _, x := range append(sizes, size{255, 1}, size{254, 2}) {
		b := filled(t, x, 2*x.room()+1)
		for gen := range b.p.gens {
			all := b.p.symbols(gen)
			for sent := range x.g {
				for _, draw := range [][]byte{nil, {}, make([]byte, x.g), seeded(sent).bytes(x.g), seeded(sent).bytes(x.g + 9)} {
					if told := send(t, b.x, uint64(gen), uint64(sent), draw); !sameRow(told, api.Row{Coefs: unit(x.g, sent), Payload: all[sent]}) {
						t.Fatalf("%v: sent of %d behind %d by %x: %.60x", x, gen, sent, draw, told)
					}
				}
			}
		}
	}
}

func TestSend(t *testing.T) { // P13.3: by draws of all sorts, behind few, as many as there are symbols, more, great numbers
	for _, x := range sizes {
		b := filled(t, x, 2*x.room()+1)
		for gen := range b.p.gens {
			for _, sent := range sents(x.g) {
				for _, draw := range draws(x.g) {
					want := b.p.row(gen, b.p.coefs(sent, draw))
					if told := send(t, b.x, uint64(gen), sent, draw); !sameRow(told, want) {
						t.Fatalf("%v: sent of %d behind %d by %x: %.60x, not %.60x", x, gen, sent, draw, told, want)
					}
				}
			}
			if gen > 1 {
				break
			}
		}
	}
}

func TestTurnsGoRound(t *testing.T) { // P13.3: without draws any g behind each other are all symbols, each once
	for _, x := range sizes {
		b := filled(t, x, x.room())
		all := b.p.symbols(0)
		for _, start := range []uint64{0, 1, uint64(x.g) - 1, uint64(x.g), 1000, 1<<32 - 3, 1<<63 - 2, math.MaxUint64 - 300} {
			seen := make([]bool, x.g)
			for i := range x.g {
				told := send(t, b.x, 0, start+uint64(i), nil)
				at := bytes.IndexByte(told.Coefs, 1)
				if at < 0 || seen[at] || at != rest(start+uint64(i), x.g) || !sameRow(told, api.Row{Coefs: unit(x.g, at), Payload: all[at]}) {
					t.Fatalf("%v: sent behind %d: %.60x", x, start+uint64(i), told)
				}
				seen[at] = true
			}
		}
	}
}

func TestSendOfNone(t *testing.T) { // P13.3: ErrWindow, whatever was sent and drawn
	for _, x := range sizes {
		b := filled(t, x, 3*x.room()+1)
		for _, gen := range far(len(b.p.gens)) {
			for _, sent := range []uint64{0, 1, uint64(x.g), math.MaxUint64} {
				for _, draw := range [][]byte{nil, {}, {1}, seeded(1).bytes(x.g), seeded(1).bytes(x.g + 1)} {
					sendNot(t, b.x, gen, sent, draw, api.ErrWindow)
				}
			}
		}
		agrees(t, "behind wrong sends", b.x, b.p)
	}
}

func TestGenerationsStay(t *testing.T) { // P13.4: whatever is submitted, flushed and closed behind; the chunks and what is open are the stream
	for _, x := range sizes {
		b, r := begin(t, x), seeded(x.g+7)
		var before [][][]byte
		for step := range 40 {
			switch {
			case step == 38:
				b.close(t)
			case r.below(4) == 0:
				b.flush(t)
			default:
				b.submit(t, r.bytes(r.below(x.room()+2)), math.MaxUint64)
			}
			if b.x.Gens() < uint64(len(before)) {
				t.Fatal("fewer generations:", b.x.Gens())
			}
			for gen := range b.x.Gens() {
				now := symbols(t, b.x, gen)
				if gen == uint64(len(before)) {
					before = append(before, now)
				}
				if !sameAll(now, before[gen]) {
					t.Fatalf("%v: generation %d was %.60x, is %.60x", x, gen, before[gen], now)
				}
			}
			var all []byte
			for _, l := range before {
				laid := slices.Concat(l...)
				n := int(laid[0])<<24 | int(laid[1])<<16 | int(laid[2])<<8 | int(laid[3])
				all = append(all, laid[4:4+n]...)
			}
			if !bytes.Equal(all, b.x.Stream()[:len(all)]) || len(b.x.Stream())-len(all) >= x.room() || b.x.Closed() && len(all) != len(b.x.Stream()) {
				t.Fatalf("%v: %d bytes of %d are in generations", x, len(all), len(b.x.Stream()))
			}
		}
	}
}

func TestRestoredIsTheSame(t *testing.T) { // P13.4: at each number of bytes, flushed or not, closed or not; and it goes on alike
	for _, x := range sizes {
		for n := range min(3*x.room()+2, 60) {
			for _, call := range []int{-1, 0, 1} {
				first := filled(t, x, n)
				if call >= 0 {
					first.does(t, call)
				}
				again := both{restored(t, x, first.x.Stream(), first.x.Cuts(), first.x.Closed()), first.p.clone()}
				agrees(t, "restored", again.x, first.p)
				for _, next := range []int{3, 0, 4, 2, 10, 11, 5, 6, 0, 9, 1, 5} {
					first.does(t, next)
					again.does(t, next)
					looks(t, "the first", first.x, first.p)
					looks(t, "the restored", again.x, first.p)
				}
				agrees(t, "the restored", again.x, first.p)
			}
		}
	}
}

func TestRestoredOfOddCutsGoesOn(t *testing.T) { // P13.4: of cuts that stand twice, at 0, and where a generation ends anyway
	x, stream := size{2, 3}, []byte("abcdefg")
	for _, cuts := range [][]int{{0}, {0, 0, 3, 3}, {2}, {2, 4}, {7}, {7, 7}, {5, 6, 7}, {1, 3, 7}} {
		b := both{restored(t, x, stream, cuts, false), restoredPlain(x.g, x.s, stream, cuts, false)}
		for _, call := range []int{0, 0, 5, 5, 0, 4, 9, 0, 5, 1} {
			agrees(t, "restored of odd cuts", b.x, b.p)
			b.does(t, call)
		}
		agrees(t, "restored of odd cuts", b.x, b.p)
		again := restored(t, x, b.x.Stream(), b.x.Cuts(), true)
		agrees(t, "restored once more", again, b.p)
	}
}

func TestGreatestGenerations(t *testing.T) { // P13.3: of the greatest g and s
	x := size{255, 65535}
	b := begin(t, x)
	b.submit(t, seeded(8).bytes(full-1), 1)
	symbolsNot(t, b.x, 0, api.ErrWindow)
	b.flush(t)
	b.submit(t, []byte{7}, 2)
	b.close(t)
	laid := append([]byte{0, 3, 255, 255}, b.p.gens[0]...)
	for i, symbol := range symbols(t, b.x, 0) {
		want := make([]byte, x.s)
		if i*x.s < len(laid) {
			copy(want, laid[i*x.s:])
		}
		if !bytes.Equal(symbol, want) {
			t.Fatalf("symbol %d: %.60x, not %.60x", i, symbol, want)
		}
	}
	for _, sent := range []uint64{0, 3, 4, 5, 254, 255, 256, 255 * 9, 1 << 40} {
		if told := send(t, b.x, 1, sent, nil); !bytes.Equal(told.Coefs, unit(x.g, rest(sent, x.g))) || (sent%255 == 0) != (told.Payload[4] == 7) || len(told.Payload) != x.s {
			t.Fatalf("sent behind %d: %.10x; %.10x", sent, told.Coefs, told.Payload)
		}
	}
	coefs := append(make([]byte, 4), bytes.Repeat([]byte{9}, 251)...)
	if told := row(t, b.x, 0, coefs); told.Payload[3] != product(9, laid[4*x.s+3]) || len(told.Payload) != x.s {
		t.Fatalf("row: %.10x", told.Payload)
	}
}

// spoil writes over all bytes of a list, up to its capacity.
func spoil(b []byte) {
	b = b[:cap(b)]
	for i := range b {
		b[i] ^= 0xa5
	}
}

func spoilAll(l [][]byte) {
	for _, b := range l[:cap(l)] {
		spoil(b)
	}
}

func spoilCuts(l []int) {
	for i := range l[:cap(l)] {
		l[:cap(l)][i] -= 1000
	}
}

func spoilRow(r api.Row) {
	spoil(r.Coefs)
	spoil(r.Payload)
}

func TestToldIsApart(t *testing.T) { // P13.1, P13.3: writing to what is told shows nowhere else
	for _, x := range sizes {
		b, coefs, draw := filled(t, x, 3*x.room()+1), seeded(1).bytes(x.g), seeded(2).bytes(x.g)
		b.flush(t)
		for gen := range b.x.Gens() {
			tell := func() ([]byte, []int, [][]byte, []api.Row) {
				return b.x.Stream(), b.x.Cuts(), symbols(t, b.x, gen), []api.Row{
					row(t, b.x, gen, coefs), row(t, b.x, gen, unit(x.g, 0)), send(t, b.x, gen, 0, draw), send(t, b.x, gen, uint64(x.g), draw), send(t, b.x, gen, uint64(x.g), nil),
				}
			}
			stream, cuts, laid, rows := tell()
			otherStream, otherCuts, otherLaid, otherRows := tell()
			spoil(otherStream)
			spoilCuts(otherCuts)
			spoilAll(otherLaid)
			for _, r := range otherRows {
				spoilRow(r)
			}
			if !bytes.Equal(coefs, seeded(1).bytes(x.g)) || !bytes.Equal(draw, seeded(2).bytes(x.g)) {
				t.Fatal("what was given is another one")
			}
			if !bytes.Equal(stream, b.p.stream()) || !slices.Equal(cuts, b.p.cuts) || !sameAll(laid, b.p.symbols(int(gen))) {
				t.Fatal("what was told before is another one")
			}
			againStream, againCuts, againLaid, againRows := tell()
			if !bytes.Equal(againStream, stream) || !slices.Equal(againCuts, cuts) || !sameAll(againLaid, laid) || !slices.EqualFunc(againRows, rows, sameRow) {
				t.Fatal("what is told is another one")
			}
			for at := range rows {
				spoil(rows[at].Payload)
				if !bytes.Equal(rows[at].Coefs, againRows[at].Coefs) {
					t.Fatal("payload and coefficients are not apart")
				}
			}
			for at := range laid {
				spoil(laid[at])
				if !sameAll(laid[at+1:], againLaid[at+1:]) {
					t.Fatal("symbols are not apart")
				}
			}
		}
		agrees(t, "behind all that", b.x, b.p)
	}
}

func TestToldThatGrowsIsApart(t *testing.T) { // P13.1: laying more behind what is told shows nowhere else
	b := filled(t, size{2, 3}, 20)
	stream, cuts := b.x.Stream(), b.x.Cuts()
	longer, more := append(stream, 'x', 'y'), append(cuts, 7, 8)
	b.submit(t, []byte("abc"), 99)
	b.flush(t)
	agrees(t, "behind more", b.x, b.p)
	if string(longer[20:]) != "xy" || !slices.Equal(more[len(cuts):], []int{7, 8}) {
		t.Fatal("what was told grew by itself:", longer, more)
	}
}

func TestGivenIsApart(t *testing.T) { // P13.1 to P13.3: what is given is never written to, and writing to it later shows nowhere
	for _, x := range sizes {
		memory, places := seeded(6).bytes(3*x.room()+50), []int{1, 1, 2, -7, -7, -7, -7, -7, -7}
		stream, cuts := memory[:2*x.room()+1], places[:3]
		if x.room() == 1 {
			cuts = places[:2]
		}
		b := both{restored(t, x, stream, cuts, false), restoredPlain(x.g, x.s, stream, cuts, false)}
		more := memory[len(stream) : len(stream)+x.room()/2+1]
		draw, coefs := memory[:x.g], memory[1:x.g+1]
		is(t, "Submit", b.submit(t, []byte("zz"), math.MaxUint64), api.OK)
		b.flush(t)
		is(t, "Submit", b.submit(t, more, math.MaxUint64), api.OK)
		b.flush(t)
		told, sent := row(t, b.x, 0, coefs), send(t, b.x, 0, uint64(x.g), draw)
		wantTold, wantSent := b.p.row(0, bytes.Clone(coefs)), b.p.row(0, bytes.Clone(draw))
		if !bytes.Equal(memory, seeded(6).bytes(len(memory))) || !slices.Equal(places, []int{1, 1, 2, -7, -7, -7, -7, -7, -7}) {
			t.Fatal("what was given was written to")
		}
		looks(t, "ahead of writing", b.x, b.p)
		want := b.p.clone()
		spoil(memory)
		spoilCuts(places)
		agrees(t, "behind writing", b.x, want)
		if !sameRow(told, wantTold) || !sameRow(sent, wantSent) {
			t.Fatal("rows are not apart from what was given")
		}
	}
}

func TestSubmittedIsApart(t *testing.T) { // P13.2: of the first submission and of those behind it, where there is memory left behind what is given
	for _, x := range sizes {
		for _, lengths := range [][]int{{1, 1}, {x.room(), 1}, {x.room() + 1, x.room() + 1}, {0, x.room()}, {1, 0, 3 * x.room(), 2}} {
			memory, at, b := seeded(7).bytes(8*x.room()+9), 0, begin(t, x)
			for _, n := range lengths {
				is(t, "Submit", b.submit(t, memory[at:at+n], math.MaxUint64), api.OK)
				at += n
				is(t, "Submit", b.submit(t, []byte("other"), math.MaxUint64), api.OK)
			}
			b.flush(t)
			if !bytes.Equal(memory, seeded(7).bytes(len(memory))) {
				t.Fatal("what was given was written to")
			}
			spoil(memory)
			agrees(t, "behind writing", b.x, b.p)
		}
		memory, b := seeded(8).bytes(x.room()+1), begin(t, x)
		is(t, "Submit", b.submit(t, memory, math.MaxUint64), api.OK)
		spoil(memory)
		agrees(t, "behind writing", b.x, b.p)
	}
}

func TestSubmitOfWhatWasTold(t *testing.T) { // P13.2: a source's own stream behind itself
	b := filled(t, size{2, 3}, 9)
	for range 5 {
		stream := b.x.Stream()
		b.submit(t, stream, math.MaxUint64)
		spoil(stream)
		agrees(t, "doubled", b.x, b.p)
	}
}

func TestTwoSourcesStandApart(t *testing.T) { // P13.1, P13.4: of one memory, and by turns
	memory, places := seeded(7).bytes(64), make([]int, 8, 64)
	for i := range places {
		places[i] = i
	}
	for _, x := range small {
		one := both{restored(t, x, memory[:16], places, false), restoredPlain(x.g, x.s, memory[:16], places, false)}
		other := both{restored(t, x, memory[:16], places, false), restoredPlain(x.g, x.s, memory[:16], places, false)}
		third := both{restored(t, x, one.x.Stream(), one.x.Cuts(), one.x.Closed()), one.p.clone()}
		fresh, last := begin(t, x), begin(t, x)
		for step := range 20 {
			for i, b := range []both{one, other, third, fresh, last} {
				if step%5 == i {
					b.flush(t)
				} else {
					b.submit(t, seeded(10*step+i).bytes(1+(step+i)%4), math.MaxUint64)
				}
			}
			if step == 12 {
				other.close(t)
			}
			for _, b := range []both{one, other, third, fresh, last} {
				agrees(t, "by turns", b.x, b.p)
			}
		}
	}
}

func TestAskedAtOnce(t *testing.T) { // R7: asking changes nothing, whoever asks beside
	b := filled(t, size{9, 7}, 600)
	var group sync.WaitGroup
	wrong := make([]int, 8)
	for worker := range wrong {
		group.Add(1)
		go func() {
			defer group.Done()
			for gen := range b.p.gens {
				coefs := seeded(worker).coefs(9)
				r, e := b.x.Row(uint64(gen), coefs)
				l, f := b.x.Symbols(uint64(gen))
				if e != api.OK || f != api.OK || !sameRow(r, b.p.row(gen, coefs)) || !sameAll(l, b.p.symbols(gen)) || b.x.Gens() != uint64(len(b.p.gens)) {
					wrong[worker]++
				}
			}
		}()
	}
	group.Wait()
	if !slices.Equal(wrong, make([]int, 8)) {
		t.Error(wrong)
	}
	agrees(t, "behind all that", b.x, b.p)
}
