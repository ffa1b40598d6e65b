package basis_test

import (
	"bytes"
	"math"
	"slices"
	"testing"

	"braidwork/api"
	"braidwork/basis"
	"braidwork/field"
	"braidwork/matrix"
)

// plain is a basis by the chapter's words, number by number, to be held against the program.
type plain struct {
	g, s int
	rows []api.Row
}

// plus adds other, multiplied with c, to r.
func plus(r, other api.Row, c byte) {
	for i := range r.Coefs {
		r.Coefs[i] ^= field.Mul(other.Coefs[i], c)
	}
	for i := range r.Payload {
		r.Payload[i] ^= field.Mul(other.Payload[i], c)
	}
}

// times multiplies r with c.
func times(r api.Row, c byte) {
	for _, l := range [][]byte{r.Coefs, r.Payload} {
		for i := range l {
			l[i] = field.Mul(l[i], c)
		}
	}
}

// lead is the place of the first coefficient that is not 0, or -1.
func lead(coefs []byte) int {
	for i, c := range coefs {
		if c != 0 {
			return i
		}
	}
	return -1
}

// reduced is r, reduced by the rows.
func (p *plain) reduced(r api.Row) api.Row {
	r = cloned(r)
	for _, row := range p.rows {
		plus(r, row, r.Coefs[lead(row.Coefs)])
	}
	return r
}

// contains tells whether a row of these coefficients is not new.
func (p *plain) contains(coefs []byte) bool {
	return lead(p.reduced(api.Row{Coefs: coefs}).Coefs) < 0
}

// insert tells whether r was new.
func (p *plain) insert(r api.Row) bool {
	r = p.reduced(r)
	at := lead(r.Coefs)
	if at < 0 {
		return false
	}
	by, _ := field.Inv(r.Coefs[at])
	times(r, by)
	for _, row := range p.rows {
		plus(row, r, row.Coefs[at])
	}
	p.rows = append(p.rows, r)
	slices.SortFunc(p.rows, func(a, b api.Row) int { return lead(a.Coefs) - lead(b.Coefs) })
	return true
}

// combined is the sum of the rows, each multiplied with its byte.
func (p *plain) combined(by []byte) api.Row {
	sum := noughts(p.g, p.s)
	for i, row := range p.rows {
		plus(sum, row, by[i])
	}
	return sum
}

func noughts(g, s int) api.Row { return api.Row{Coefs: make([]byte, g), Payload: make([]byte, s)} }

// row is one of these coefficients and this payload.
func row(coefs, payload []byte) api.Row { return api.Row{Coefs: coefs, Payload: payload} }

// unit is a row with 1 at a place, and that payload in each byte.
func unit(g, s, at int, payload byte) api.Row {
	r := row(make([]byte, g), bytes.Repeat([]byte{payload}, s))
	r.Coefs[at] = 1
	return r
}

func cloned(r api.Row) api.Row { return row(bytes.Clone(r.Coefs), bytes.Clone(r.Payload)) }

func clones(rows []api.Row) []api.Row {
	l := make([]api.Row, len(rows))
	for i, r := range rows {
		l[i] = cloned(r)
	}
	return l
}

// some makes numbers, always the same ones of one seed.
type some uint64

func seeded(seed int) *some {
	s := some(seed)*7919 + 5
	return &s
}

func (s *some) below(n int) int {
	*s = *s*6364136223846793005 + 1442695040888963407
	return int(uint64(*s)>>33) % n
}

// factor is not 0.
func (s *some) factor() byte { return byte(1 + s.below(255)) }

// bytes are n of them; 0 is more often among them than others are.
func (s *some) bytes(n int) []byte {
	b := make([]byte, n)
	for i := range b {
		b[i] = byte(s.below(256) * min(s.below(4), 1))
	}
	return b
}

func (s *some) row(g, size int) api.Row { return row(s.bytes(g), s.bytes(size)) }

// symbols are g of so many bytes each.
func (s *some) symbols(g, size int) [][]byte {
	l := make([][]byte, g)
	for i := range l {
		l[i] = s.bytes(size)
	}
	return l
}

func shuffle[T any](s *some, l []T) {
	for i := range l {
		k := i + s.below(len(l)-i)
		l[i], l[k] = l[k], l[i]
	}
}

// right is the row that these coefficients make of the symbols.
func right(symbols [][]byte, coefs []byte) api.Row {
	r := row(bytes.Clone(coefs), make([]byte, len(symbols[0])))
	for i, c := range coefs {
		plus(row(nil, r.Payload), row(nil, symbols[i]), c)
	}
	return r
}

// equal holds lists of rows against each other, without the program's help.
func equal(t *testing.T, what string, got, want []api.Row) {
	t.Helper()
	if !slices.EqualFunc(got, want, same) {
		t.Fatalf("%s: %d rows %.60x, not %d rows %.60x", what, len(got), got, len(want), want)
	}
}

func same(a, b api.Row) bool {
	return bytes.Equal(a.Coefs, b.Coefs) && bytes.Equal(a.Payload, b.Payload)
}

// made is a new basis, which has to go well.
func made(t *testing.T, g, s int) *basis.Basis {
	t.Helper()
	b, e := basis.New(g, s)
	if b == nil || e != api.OK {
		t.Fatalf("New(%d, %d): error %d", g, s, e)
	}
	return b
}

// inserts is for rows of which it has to be told that they are new, or that they are not.
func inserts(t *testing.T, b *basis.Basis, r api.Row, want bool) {
	t.Helper()
	if isNew, e := b.Insert(r); isNew != want || e != api.OK {
		t.Fatalf("Insert of %.60x: %v, error %d, not %v", r, isNew, e, want)
	}
}

// filled is a basis into which these were put, new or not.
func filled(t *testing.T, g, s int, rows []api.Row) *basis.Basis {
	t.Helper()
	b := made(t, g, s)
	for _, r := range rows {
		if _, e := b.Insert(r); e != api.OK {
			t.Fatalf("Insert of %.60x: error %d", r, e)
		}
	}
	return b
}

// holds asks whether these rows are in the basis, in this order, and no others.
func holds(t *testing.T, b *basis.Basis, want []api.Row) {
	t.Helper()
	equal(t, "Rows", b.Rows(), want)
	if b.Rank() != len(want) {
		t.Fatalf("Rank %d, not %d", b.Rank(), len(want))
	}
}

// isBasis asks by the chapter's words: by rising leads, 1 at each one's own, 0 at those of all others.
func isBasis(t *testing.T, rows []api.Row, g, s int) {
	t.Helper()
	before := -1
	for i, r := range rows {
		at := lead(r.Coefs)
		if len(r.Coefs) != g || len(r.Payload) != s || at <= before || r.Coefs[at] != 1 {
			t.Fatalf("row %d may not be: %.60x behind lead %d", i, r, before)
		}
		for k, other := range rows {
			if k != i && other.Coefs[at] != 0 {
				t.Fatalf("row %d has %x at the lead of row %d", k, other.Coefs[at], i)
			}
		}
		before = at
	}
}

func contains(t *testing.T, b *basis.Basis, coefs []byte, want bool) {
	t.Helper()
	if has, e := b.Contains(coefs); has != want || e != api.OK {
		t.Fatalf("Contains(%.60x): %v, error %d, not %v", coefs, has, e, want)
	}
}

func combines(t *testing.T, b *basis.Basis, by []byte, want api.Row) {
	t.Helper()
	r, e := b.Combine(by)
	if e != api.OK {
		t.Fatalf("Combine(%.60x): error %d", by, e)
	}
	equal(t, "Combine", []api.Row{r}, []api.Row{want})
}

func solves(t *testing.T, b *basis.Basis, want [][]byte) {
	t.Helper()
	if symbols, e := b.Solve(); e != api.OK || !slices.EqualFunc(symbols, want, bytes.Equal) {
		t.Fatalf("Solve: %.60x, error %d, not %.60x", symbols, e, want)
	}
}

// These are for calls that have to answer this error, and nothing else.

func insertFails(t *testing.T, b *basis.Basis, r api.Row, want api.Errno) {
	t.Helper()
	if isNew, e := b.Insert(r); isNew || e != want {
		t.Errorf("Insert of %d and %d bytes: %v, error %d, not %d", len(r.Coefs), len(r.Payload), isNew, e, want)
	}
}

func containsFails(t *testing.T, b *basis.Basis, coefs []byte, want api.Errno) {
	t.Helper()
	if has, e := b.Contains(coefs); has || e != want {
		t.Errorf("Contains of %d bytes: %v, error %d, not %d", len(coefs), has, e, want)
	}
}

func combineFails(t *testing.T, b *basis.Basis, by []byte, want api.Errno) {
	t.Helper()
	if r, e := b.Combine(by); r.Coefs != nil || r.Payload != nil || e != want {
		t.Errorf("Combine of %d bytes: %.60x, error %d, not %d", len(by), r, e, want)
	}
}

func solveFails(t *testing.T, b *basis.Basis, want api.Errno) {
	t.Helper()
	if symbols, e := b.Solve(); symbols != nil || e != want {
		t.Errorf("Solve: %.60x, error %d, not %d", symbols, e, want)
	}
}

// sizes are those with which longer rows of calls are tried: g, s.
var sizes = [][2]int{{1, 1}, {1, 9}, {2, 1}, {2, 3}, {3, 2}, {4, 4}, {5, 1}, {7, 12}, {16, 5}, {33, 3}}

func TestExamples(t *testing.T) { // P7.1 to P7.4
	b := made(t, 2, 1)
	inserts(t, b, row([]byte{2, 4}, []byte{6}), true)
	holds(t, b, []api.Row{row([]byte{1, 2}, []byte{3})})
	solveFails(t, b, api.ErrRank)
	inserts(t, b, row([]byte{1, 2}, []byte{9}), false)
	holds(t, b, []api.Row{row([]byte{1, 2}, []byte{3})})
	inserts(t, b, row([]byte{0, 3}, []byte{5}), true)
	three, _ := field.Inv(3)
	second := field.Mul(5, three)
	first := 3 ^ field.Mul(2, second)
	holds(t, b, []api.Row{row([]byte{1, 0}, []byte{first}), row([]byte{0, 1}, []byte{second})})
	solves(t, b, [][]byte{{first}, {second}})
}

func TestNew(t *testing.T) { // P7.1
	right := func(n, most int) bool { return n >= 1 && n <= most }
	numbers := []int{
		0, 1, 2, 3, 128, 254, 255, 256, 257, 511, 65534, 65535, 65536, 65537, 70000, 1 << 17, 1 << 32, 1<<32 + 1,
		math.MaxInt32, math.MaxInt - 1, math.MaxInt, -1, -2, -255, -256, -65535, -1 << 32, 1 - 1<<32, math.MinInt32, math.MinInt + 1, math.MinInt,
	}
	for _, g := range numbers {
		for _, s := range numbers {
			b, e := basis.New(g, s)
			if !right(g, 255) || !right(s, 65535) {
				if b != nil || e != api.ErrArg {
					t.Errorf("New(%d, %d): %v, error %d, not ErrArg", g, s, b, e)
				}
				continue
			}
			if b == nil || e != api.OK {
				t.Fatalf("New(%d, %d): error %d", g, s, e)
			}
			holds(t, b, nil)
			insertFails(t, b, noughts(g-1, s), api.ErrDim)
			insertFails(t, b, noughts(g, s-1), api.ErrDim)
			inserts(t, b, unit(g, s, g-1, 7), true)
			holds(t, b, []api.Row{unit(g, s, g-1, 7)})
		}
	}
}

// unmade are bases that New did not make.
func unmade() map[string]*basis.Basis { return map[string]*basis.Basis{"none": nil, "not New's": {}} }

func TestUnmade(t *testing.T) { // P7.1 to P7.4
	for _, b := range unmade() {
		for range 2 {
			holds(t, b, nil)
			if b.Copy() != nil {
				t.Error("Copy is not nil")
			}
			for _, n := range []int{0, 1, 2, 255, 256} {
				insertFails(t, b, noughts(n, 0), api.ErrNil)
				insertFails(t, b, noughts(n, 1), api.ErrNil)
				insertFails(t, b, row(bytes.Repeat([]byte{1}, n), []byte{1}), api.ErrNil)
				containsFails(t, b, make([]byte, n), api.ErrNil)
				combineFails(t, b, make([]byte, n), api.ErrNil)
			}
			containsFails(t, b, nil, api.ErrNil)
			combineFails(t, b, nil, api.ErrNil)
			solveFails(t, b, api.ErrNil)
		}
	}
}

func TestWrongInsert(t *testing.T) { // P7.2
	for _, size := range append(sizes, [2]int{255, 2}, [2]int{2, 255}) {
		g, s := size[0], size[1]
		b := made(t, g, s)
		for at := range g {
			before := b.Rows()
			for _, wrong := range [][2]int{
				{0, 0}, {0, s}, {g, 0}, {g - 1, s}, {g + 1, s}, {g, s - 1}, {g, s + 1}, {g + 1, s - 1}, {g + s, 0}, {2 * g, s},
				{g, 2 * s}, {g + 256, s}, {g, s + 256}, {g, s + 65536}, {g + 256, s + 256},
			} {
				insertFails(t, b, noughts(wrong[0], wrong[1]), api.ErrDim)
				insertFails(t, b, row(bytes.Repeat([]byte{1}, wrong[0]), bytes.Repeat([]byte{1}, wrong[1])), api.ErrDim)
			}
			insertFails(t, b, api.Row{}, api.ErrDim)
			insertFails(t, b, row(nil, make([]byte, s)), api.ErrDim)
			insertFails(t, b, row(make([]byte, g), nil), api.ErrDim)
			if g != s {
				insertFails(t, b, noughts(s, g), api.ErrDim)
			}
			holds(t, b, before)
			inserts(t, b, unit(g, s, at, byte(at)), true)
		}
	}
}

func TestWrongSizeOfWhatIsNotNew(t *testing.T) { // P7.2: what is no row is ErrDim, also where its coefficients are not new
	b := made(t, 2, 3)
	inserts(t, b, row([]byte{1, 2}, []byte{3, 4, 5}), true)
	for _, payload := range [][]byte{nil, {3}, {3, 4}, {3, 4, 5, 6}} {
		insertFails(t, b, row([]byte{1, 2}, payload), api.ErrDim)
		insertFails(t, b, row([]byte{0, 0}, payload), api.ErrDim)
	}
	insertFails(t, b, row([]byte{1}, []byte{3, 4, 5}), api.ErrDim)
	insertFails(t, b, row([]byte{1, 2, 0}, []byte{3, 4, 5}), api.ErrDim)
	holds(t, b, []api.Row{row([]byte{1, 2}, []byte{3, 4, 5})})
}

// step puts one row into both, and asks whether they are one still.
func step(t *testing.T, b *basis.Basis, p *plain, r api.Row) {
	t.Helper()
	contains(t, b, r.Coefs, p.contains(r.Coefs))
	inserts(t, b, r, p.insert(r))
	holds(t, b, p.rows)
	contains(t, b, r.Coefs, true)
}

// lists hands f each list of so many, of which each is one of the choices.
func lists[T any](choices []T, n int, f func(l []T)) {
	l := make([]T, n)
	var fill func(at int)
	fill = func(at int) {
		if at == n {
			f(l)
			return
		}
		for _, x := range choices {
			l[at] = x
			fill(at + 1)
		}
	}
	fill(0)
}

func TestInsertOfSmallOnes(t *testing.T) { // P7.2: all rows of few rows
	for _, x := range []struct {
		g, n    int
		numbers []byte
	}{{1, 3, []byte{0, 1, 2, 0x53, 0xff}}, {2, 3, []byte{0, 1, 2, 7}}, {3, 3, []byte{0, 1, 9}}, {3, 4, []byte{0, 5}}} {
		var choices [][]byte
		lists(x.numbers, x.g, func(l []byte) { choices = append(choices, bytes.Clone(l)) })
		lists(choices, x.n, func(l [][]byte) {
			b, p := made(t, x.g, 2), &plain{g: x.g, s: 2}
			for i, coefs := range l {
				step(t, b, p, row(coefs, []byte{byte(17*i + 3), coefs[0]}))
			}
		})
	}
}

func TestInsertOfOneCoefficient(t *testing.T) { // P7.2: the division, of each element
	for c := 1; c < 256; c++ {
		b := made(t, 1, 2)
		inserts(t, b, row([]byte{byte(c)}, []byte{byte(c), 1}), true)
		by, _ := field.Inv(byte(c))
		holds(t, b, []api.Row{row([]byte{1}, []byte{1, by})})
		inserts(t, b, row([]byte{byte(c)}, []byte{9, 9}), false)
	}
}

func TestInsert(t *testing.T) { // P7.2: payloads go with nothing here, but are handled as coefficients are
	for i, size := range sizes {
		g, s := size[0], size[1]
		for seed := range 6 {
			some := seeded(100*i + seed)
			b, p := made(t, g, s), &plain{g: g, s: s}
			for range 2*g + 3 {
				r := some.row(g, s)
				if len(p.rows) > 0 && some.below(3) == 0 {
					r = p.combined(some.bytes(len(p.rows)))
				}
				step(t, b, p, r)
				isBasis(t, b.Rows(), g, s)
			}
		}
	}
}

func TestInsertIsReduction(t *testing.T) { // P7.2: held against layer 6, which reduces rows that are side by side
	for i, size := range sizes {
		g, s := size[0], size[1]
		some := seeded(i)
		symbols := some.symbols(g, s)
		b, all := made(t, g, s), [][]byte(nil)
		for range g + 2 {
			r := right(symbols, some.bytes(g))
			if _, e := b.Insert(r); e != api.OK {
				t.Fatal(e)
			}
			all = append(all, slices.Concat(r.Coefs, r.Payload))
			want, e := matrix.Reduce(all)
			if e != api.OK {
				t.Fatal(e)
			}
			var rows []api.Row
			for _, w := range want {
				rows = append(rows, row(w[:g], w[g:]))
			}
			holds(t, b, rows)
		}
	}
}

func TestOrderOfLeads(t *testing.T) { // P7.1, P7.2: in whatever order leads come
	const g = 5
	places := []int{0, 1, 2, 3, 4}
	lists(places, g, func(order []int) {
		b := made(t, g, 1)
		for i, at := range order {
			r := unit(g, 1, at, byte(at+10))
			times(r, byte(i+2))
			inserts(t, b, r, !slices.Contains(order[:i], at))
			var want []api.Row
			for place := range g {
				if slices.Contains(order[:i+1], place) {
					want = append(want, unit(g, 1, place, byte(place+10)))
				}
			}
			holds(t, b, want)
		}
	})
}

func TestEachOtherRowIsCleared(t *testing.T) { // P7.2: those ahead and those behind, but for the ones that have nothing there
	b := made(t, 4, 1)
	inserts(t, b, row([]byte{1, 0, 7, 0}, []byte{1}), true)
	inserts(t, b, row([]byte{0, 1, 0, 9}, []byte{2}), true)
	inserts(t, b, row([]byte{0, 0, 1, 5}, []byte{4}), true)
	a := []byte{1 ^ field.Mul(7, 4), 2, 4}
	holds(t, b, []api.Row{
		row([]byte{1, 0, 0, field.Mul(7, 5)}, a[:1]), row([]byte{0, 1, 0, 9}, a[1:2]), row([]byte{0, 0, 1, 5}, a[2:3]),
	})
	inserts(t, b, row([]byte{0, 0, 0, 1}, []byte{8}), true)
	solves(t, b, [][]byte{{a[0] ^ field.Mul(field.Mul(7, 5), 8)}, {a[1] ^ field.Mul(9, 8)}, {a[2] ^ field.Mul(5, 8)}, {8}})
}

func TestNotNewChangesNothing(t *testing.T) { // P7.2: whatever its payload is
	for i, size := range sizes {
		g, s := size[0], size[1]
		some := seeded(i)
		b, p := made(t, g, s), &plain{g: g, s: s}
		for range 2 * g {
			inserts(t, b, noughts(g, s), false)
			inserts(t, b, row(make([]byte, g), bytes.Repeat([]byte{0xff}, s)), false)
			for range 4 {
				r := p.combined(some.bytes(len(p.rows)))
				inserts(t, b, r, false)
				r.Payload = some.bytes(s)
				inserts(t, b, r, false)
				clear(r.Payload)
				inserts(t, b, r, false)
			}
			holds(t, b, p.rows)
			step(t, b, p, some.row(g, s))
		}
	}
}

func TestContains(t *testing.T) { // P7.3
	for i, size := range sizes {
		g, s := size[0], size[1]
		some := seeded(i)
		b, p := made(t, g, s), &plain{g: g, s: s}
		for range g + 3 {
			for _, wrong := range []int{0, g - 1, g + 1, 2*g + 1, g + s + g, g + 256} {
				if wrong != g {
					containsFails(t, b, make([]byte, wrong), api.ErrDim)
					containsFails(t, b, bytes.Repeat([]byte{1}, wrong), api.ErrDim)
				}
			}
			containsFails(t, b, nil, api.ErrDim)
			contains(t, b, make([]byte, g), true)
			for range 5 {
				coefs := some.bytes(g)
				contains(t, b, coefs, p.contains(coefs))
				contains(t, b, p.combined(some.bytes(len(p.rows))).Coefs, true)
			}
			holds(t, b, p.rows)
			step(t, b, p, some.row(g, s))
		}
	}
}

func TestContainsOfWithoutRowsAndOfAll(t *testing.T) { // P7.3
	empty, whole := made(t, 2, 1), made(t, 2, 1)
	inserts(t, whole, row([]byte{1, 1}, []byte{1}), true)
	inserts(t, whole, row([]byte{0, 9}, []byte{2}), true)
	one := made(t, 2, 1)
	inserts(t, one, row([]byte{3, 6}, []byte{1}), true)
	for a := range 256 {
		for c := range 256 {
			coefs := []byte{byte(a), byte(c)}
			contains(t, empty, coefs, a == 0 && c == 0)
			contains(t, whole, coefs, true)
			contains(t, one, coefs, byte(c) == field.Mul(byte(a), 2))
		}
	}
}

func TestCombine(t *testing.T) { // P7.3
	for i, size := range sizes {
		g, s := size[0], size[1]
		some := seeded(i)
		b, p := made(t, g, s), &plain{g: g, s: s}
		for range g + 3 {
			n := len(p.rows)
			for _, wrong := range []int{0, n - 1, n + 1, n + 2, 2*n + 1, g, g + 1, n + 256} {
				if wrong >= 0 && wrong != n {
					combineFails(t, b, make([]byte, wrong), api.ErrDim)
					combineFails(t, b, bytes.Repeat([]byte{1}, wrong), api.ErrDim)
				}
			}
			combines(t, b, make([]byte, n), noughts(g, s))
			for at := range n {
				by := make([]byte, n)
				by[at] = 1
				combines(t, b, by, p.rows[at])
				by[at] = some.factor()
				combines(t, b, by, p.combined(by))
			}
			for range 4 {
				by := some.bytes(n)
				combines(t, b, by, p.combined(by))
			}
			combines(t, b, bytes.Repeat([]byte{1}, n), p.combined(bytes.Repeat([]byte{1}, n)))
			holds(t, b, p.rows)
			step(t, b, p, some.row(g, s))
		}
	}
}

func TestCombineOfWithoutRows(t *testing.T) { // P7.3
	for _, size := range append(sizes, [2]int{255, 65535}) {
		b := made(t, size[0], size[1])
		for _, by := range [][]byte{nil, {}, []byte{1, 2}[:0]} {
			combines(t, b, by, noughts(size[0], size[1]))
		}
		combineFails(t, b, []byte{0}, api.ErrDim)
		combineFails(t, b, make([]byte, size[0]), api.ErrDim)
		holds(t, b, nil)
	}
}

func TestSolve(t *testing.T) { // P7.4
	for i, size := range sizes {
		g, s := size[0], size[1]
		some := seeded(i)
		b, p := made(t, g, s), &plain{g: g, s: s}
		for len(p.rows) < g {
			solveFails(t, b, api.ErrRank)
			holds(t, b, p.rows)
			step(t, b, p, some.row(g, s))
		}
		want := make([][]byte, g)
		for _, r := range p.rows {
			want[lead(r.Coefs)] = r.Payload
		}
		solves(t, b, want)
		solves(t, b, want)
		holds(t, b, p.rows)
	}
}

func TestSolveOfUnits(t *testing.T) { // P7.4: the i-th is of the row whose lead is i, in whatever order they came
	for _, g := range []int{1, 2, 3, 17, 254, 255} {
		for seed := range 3 {
			order := make([]int, g)
			want := make([][]byte, g)
			for i := range order {
				order[i], want[i] = i, []byte{byte(i), byte(i + 1)}
			}
			shuffle(seeded(seed), order)
			b := made(t, g, 2)
			for _, at := range order {
				solveFails(t, b, api.ErrRank)
				inserts(t, b, row(unit(g, 2, at, 0).Coefs, want[at]), true)
			}
			solves(t, b, want)
		}
	}
}

// others are rows that have the same span: twice, scaled, added to others, with noughts, in another order.
func (s *some) others(rows []api.Row, g, size int) []api.Row {
	l := append(clones(rows), noughts(g, size))
	for _, r := range rows {
		l = append(l, cloned(r))
		scaled := cloned(r)
		times(scaled, s.factor())
		l = append(l, scaled)
	}
	for range 2 * len(rows) {
		i, k := s.below(len(l)), s.below(len(l))
		if i != k {
			plus(l[i], l[k], s.factor())
		}
	}
	shuffle(s, l)
	return l
}

func TestOneForm(t *testing.T) { // P7.5
	for i, size := range sizes {
		g, s := size[0], size[1]
		for seed := range 6 {
			some := seeded(100*i + seed)
			symbols := some.symbols(g, s)
			var rows []api.Row
			for range 1 + some.below(g) {
				rows = append(rows, right(symbols, some.bytes(g)))
			}
			want := filled(t, g, s, rows).Rows()
			isBasis(t, want, g, s)
			for range 4 {
				shuffle(some, rows)
				holds(t, filled(t, g, s, rows), want)
				holds(t, filled(t, g, s, slices.Concat(rows, rows)), want)
				holds(t, filled(t, g, s, some.others(rows, g, s)), want)
			}
			holds(t, filled(t, g, s, want), want)
			backwards := slices.Clone(want)
			slices.Reverse(backwards)
			holds(t, filled(t, g, s, backwards), want)
		}
	}
}

func TestScaledRowsAreOneForm(t *testing.T) { // P7.5: whichever element scales them
	some := seeded(3)
	rows := []api.Row{some.row(5, 4), some.row(5, 4), some.row(5, 4)}
	want := filled(t, 5, 4, rows).Rows()
	for c := 1; c < 256; c++ {
		scaled := clones(rows)
		for i := range scaled {
			times(scaled[i], field.Mul(byte(c), byte(i+1)))
		}
		holds(t, filled(t, 5, 4, scaled), want)
	}
}

func TestBack(t *testing.T) { // P7.6
	for i, size := range append(sizes, [2]int{255, 3}, [2]int{3, 65535}) {
		g, s := size[0], size[1]
		some := seeded(i)
		symbols := some.symbols(g, s)
		b := made(t, g, s)
		for b.Rank() < g {
			if _, e := b.Insert(right(symbols, some.bytes(g))); e != api.OK {
				t.Fatal(e)
			}
			if g > 100 && b.Rank()%50 != 0 {
				continue
			}
			for _, r := range b.Rows() {
				equal(t, "a row", []api.Row{r}, []api.Row{right(symbols, r.Coefs)})
			}
			r, e := b.Combine(some.bytes(b.Rank()))
			if e != api.OK {
				t.Fatal(e)
			}
			equal(t, "what is combined", []api.Row{r}, []api.Row{right(symbols, r.Coefs)})
		}
		solves(t, b, symbols)
	}
}

func TestHandedOn(t *testing.T) { // P7.6: from basis to basis, by what each makes of its rows
	for i, size := range sizes {
		g, s := size[0], size[1]
		some := seeded(i)
		symbols := some.symbols(g, s)
		first, second := made(t, g, s), made(t, g, s)
		for rounds := 0; second.Rank() < g; rounds++ {
			if rounds > 100*g {
				t.Fatal("it does not get there", second.Rank(), g)
			}
			if _, e := first.Insert(right(symbols, some.bytes(g))); e != api.OK {
				t.Fatal(e)
			}
			r, e := first.Combine(some.bytes(first.Rank()))
			if e != api.OK {
				t.Fatal(e)
			}
			if _, e = second.Insert(r); e != api.OK {
				t.Fatal(e)
			}
		}
		solves(t, second, symbols)
	}
}

func TestRankGrows(t *testing.T) { // P7.7
	for i, size := range append(sizes, [2]int{255, 1}) {
		g, s := size[0], size[1]
		some := seeded(i)
		b := made(t, g, s)
		for range 2*g + 5 {
			before := b.Rank()
			isNew, e := b.Insert(some.row(g, s))
			if e != api.OK || isNew && b.Rank() != before+1 || !isNew && b.Rank() != before || b.Rank() > g {
				t.Fatal(isNew, e, before, b.Rank(), g)
			}
			r, e := b.Combine(some.bytes(b.Rank()))
			if e != api.OK {
				t.Fatal(e)
			}
			contains(t, b, r.Coefs, true)
			inserts(t, b, r, false)
		}
		if b.Rank() != g {
			t.Fatal("rank", b.Rank(), g)
		}
	}
}

func TestSame(t *testing.T) { // P7.1
	alike := func(a, b []api.Row, want bool) {
		t.Helper()
		if basis.Same(a, b) != want || basis.Same(b, a) != want {
			t.Errorf("Same of %.60x and %.60x: not %v", a, b, want)
		}
	}
	for i, size := range sizes {
		some := seeded(i)
		for n := range 4 {
			var rows []api.Row
			for range n {
				rows = append(rows, some.row(size[0], size[1]))
			}
			alike(rows, rows, true)
			alike(rows, clones(rows), true)
			alike(rows, append(clones(rows), noughts(size[0], size[1])), false)
			alike(rows, append(clones(rows), api.Row{}), false)
			for k := range rows {
				for _, turn := range []func(r *api.Row){
					func(r *api.Row) { r.Coefs[0] ^= 1 },
					func(r *api.Row) { r.Coefs[size[0]-1] ^= 0x80 },
					func(r *api.Row) { r.Payload[0] ^= 1 },
					func(r *api.Row) { r.Payload[size[1]-1] ^= 0x80 },
					func(r *api.Row) { r.Coefs = append(r.Coefs, 0) },
					func(r *api.Row) { r.Payload = append(r.Payload, 0) },
					func(r *api.Row) { r.Coefs = r.Coefs[1:] },
					func(r *api.Row) { r.Payload = r.Payload[1:] },
				} {
					other := clones(rows)
					turn(&other[k])
					alike(rows, other, false)
				}
				alike(rows, slices.Delete(clones(rows), k, k+1), false)
			}
		}
	}
	a, b := row([]byte{1, 2}, []byte{3}), row([]byte{1, 2}, []byte{4})
	alike([]api.Row{a, b}, []api.Row{b, a}, false)
	alike([]api.Row{a, a}, []api.Row{a, b}, false)
	alike([]api.Row{a, b}, []api.Row{a, b}, true)
	alike([]api.Row{row([]byte{1}, []byte{2, 3})}, []api.Row{a}, false)
	alike([]api.Row{row([]byte{3}, []byte{1, 2})}, []api.Row{a}, false)
}

func TestSameOfNone(t *testing.T) { // P7.1, R4
	for _, a := range [][]api.Row{nil, {}, []api.Row{{}}[:0]} {
		for _, b := range [][]api.Row{nil, {}} {
			if !basis.Same(a, b) {
				t.Error("none is not none")
			}
		}
		if basis.Same(a, []api.Row{{}}) || basis.Same([]api.Row{{}}, a) {
			t.Error("a row of none is none")
		}
	}
	if !basis.Same([]api.Row{{}}, []api.Row{row([]byte{}, []byte{})}) {
		t.Error("nil is not empty")
	}
}

func TestCopy(t *testing.T) { // P7.1: they live apart
	for i, size := range sizes {
		g, s := size[0], size[1]
		some := seeded(i)
		b, p := made(t, g, s), &plain{g: g, s: s}
		for range g + 2 {
			c, kept := b.Copy(), clones(p.rows)
			holds(t, c, p.rows)
			q := &plain{g: g, s: s, rows: clones(p.rows)}
			for range g + 1 {
				step(t, c, q, some.row(g, s))
			}
			holds(t, b, kept)
			again := b.Copy()
			step(t, b, p, some.row(g, s))
			holds(t, c, q.rows)
			holds(t, again, kept)
			insertFails(t, again, noughts(g+1, s), api.ErrDim)
		}
		solves(t, b.Copy(), payloads(p.rows))
	}
}

func payloads(rows []api.Row) [][]byte {
	l := make([][]byte, len(rows))
	for i, r := range rows {
		l[i] = r.Payload
	}
	return l
}

// roomy is r with room behind its sides in their memory, which is marked; whole is that memory.
func roomy(r api.Row) (given api.Row, whole [][]byte) {
	mark := []byte{0xa5, 0xa5, 0xa5}
	coefs, payload := slices.Concat(r.Coefs, mark), slices.Concat(r.Payload, mark)
	return row(coefs[:len(r.Coefs)], payload[:len(r.Payload)]), [][]byte{coefs, payload}
}

// wipe turns each byte of what is there, and of the room behind it, into another one.
func wipe(b []byte) {
	for i := range b[:cap(b)] {
		b[:cap(b)][i] ^= 0xff
	}
}

func TestGivenStays(t *testing.T) { // R3
	for i, size := range sizes {
		g, s := size[0], size[1]
		some := seeded(i)
		b, p := made(t, g, s), &plain{g: g, s: s}
		for range g + 2 {
			r, whole := roomy(some.row(g, s))
			by, wholeBy := roomy(row(some.bytes(len(p.rows)), nil))
			kept, keptBy := [][]byte{bytes.Clone(whole[0]), bytes.Clone(whole[1])}, bytes.Clone(wholeBy[0])
			combines(t, b, by.Coefs, p.combined(by.Coefs))
			contains(t, b, r.Coefs, p.contains(r.Coefs))
			inserts(t, b, r, p.insert(r))
			basis.Same([]api.Row{r}, []api.Row{r})
			if !slices.EqualFunc(whole, kept, bytes.Equal) || !bytes.Equal(wholeBy[0], keptBy) {
				t.Fatal("given was written to")
			}
			wipe(r.Coefs)
			wipe(r.Payload)
			wipe(by.Coefs)
			holds(t, b, p.rows)
		}
	}
}

func TestGivenIsNotKept(t *testing.T) { // R3: also where a row is laid as it came
	b := made(t, 3, 2)
	r := row([]byte{0, 1, 0}, []byte{5, 6})
	inserts(t, b, r, true)
	wipe(r.Coefs)
	wipe(r.Payload)
	want := []api.Row{row([]byte{0, 1, 0}, []byte{5, 6})}
	holds(t, b, want)
	by := []byte{1}
	told, _ := b.Combine(by)
	wipe(by)
	equal(t, "Combine", []api.Row{told}, want)
}

// tells are all lists of bytes that a basis tells, by each call that tells any.
func tells(t *testing.T, b *basis.Basis) [][]byte {
	t.Helper()
	var all [][]byte
	for _, r := range b.Rows() {
		all = append(all, r.Coefs, r.Payload)
	}
	for at := -1; at < b.Rank(); at++ {
		by := make([]byte, b.Rank())
		if at >= 0 {
			by[at] = 1
		}
		r, e := b.Combine(by)
		if e != api.OK {
			t.Fatal(e)
		}
		all = append(all, r.Coefs, r.Payload)
	}
	symbols, _ := b.Solve()
	return append(all, symbols...)
}

func TestToldIsNew(t *testing.T) { // R3
	for i, size := range sizes {
		g, s := size[0], size[1]
		some := seeded(i)
		b, p := made(t, g, s), &plain{g: g, s: s}
		for range g + 2 {
			told := tells(t, b)
			for k := range told {
				kept := make([][]byte, len(told))
				for n := range told {
					kept[n] = bytes.Clone(told[n])
				}
				wipe(told[k])
				kept[k] = told[k]
				if !slices.EqualFunc(told, kept, bytes.Equal) {
					t.Fatal("what is told shares memory")
				}
			}
			holds(t, b, p.rows)
			rows := b.Rows()
			clear(rows[:cap(rows)])
			symbols, _ := b.Solve()
			clear(symbols[:cap(symbols)])
			if len(p.rows) == g {
				solves(t, b, payloads(p.rows))
			}
			holds(t, b, p.rows)
			step(t, b, p, some.row(g, s))
		}
	}
}

func TestToldStays(t *testing.T) { // R3: what was told does not change with what comes behind
	for i, size := range sizes {
		g, s := size[0], size[1]
		some := seeded(i)
		b := made(t, g, s)
		for range g {
			rows, by := b.Rows(), some.bytes(b.Rank())
			one, e := b.Combine(by)
			if e != api.OK {
				t.Fatal(e)
			}
			kept, keptOne := clones(rows), cloned(one)
			for range 3 {
				if _, e := b.Insert(some.row(g, s)); e != api.OK {
					t.Fatal(e)
				}
			}
			equal(t, "Rows told", rows, kept)
			equal(t, "Combine told", []api.Row{one}, []api.Row{keptOne})
		}
	}
}

func TestToldByACopyIsNew(t *testing.T) { // R3: neither what a copy tells nor what its first one tells shows in the other
	b := filled(t, 3, 2, []api.Row{row([]byte{1, 2, 3}, []byte{4, 5}), row([]byte{0, 1, 7}, []byte{8, 9})})
	want := b.Rows()
	c := b.Copy()
	for _, told := range slices.Concat(tells(t, b), tells(t, c)) {
		wipe(told)
	}
	holds(t, b, want)
	holds(t, c, want)
}

func TestGreatOnes(t *testing.T) { // P7.2 to P7.4: at the greatest numbers of coefficients and of bytes
	some := seeded(9)
	symbols := some.symbols(255, 3)
	b, p := made(t, 255, 3), &plain{g: 255, s: 3}
	for range 259 {
		r := right(symbols, some.bytes(255))
		inserts(t, b, r, p.insert(r))
	}
	holds(t, b, p.rows)
	solves(t, b, symbols)

	wide, q := made(t, 255, 65535), &plain{g: 255, s: 65535}
	for range 4 {
		step(t, wide, q, some.row(255, 65535))
	}
	combines(t, wide, []byte{1, 0, 3, 0xff}, q.combined([]byte{1, 0, 3, 0xff}))
	solveFails(t, wide, api.ErrRank)
}

func TestWhateverRunsBeside(t *testing.T) { // R7
	some := seeded(1)
	symbols := some.symbols(12, 5)
	var rows []api.Row
	for range 30 {
		rows = append(rows, right(symbols, some.bytes(12)))
	}
	b := filled(t, 12, 5, rows[:6])
	want := b.Rows()
	answers := make(chan [][]byte)
	for n := range 8 {
		go func() {
			c := b.Copy()
			for i := range rows {
				c.Insert(rows[(i+n)%len(rows)])
				b.Contains(rows[i].Coefs)
				b.Combine(make([]byte, 6))
			}
			solved, _ := c.Solve()
			answers <- solved
		}()
	}
	for range 8 {
		if got := <-answers; !slices.EqualFunc(got, symbols, bytes.Equal) {
			t.Errorf("Solve: %.60x, not %.60x", got, symbols)
		}
	}
	holds(t, b, want)
}
