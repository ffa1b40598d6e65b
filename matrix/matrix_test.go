package matrix_test

import (
	"bytes"
	"math"
	"slices"
	"testing"

	"braidwork/api"
	"braidwork/matrix"
	"braidwork/vector"
)

// product is worked out by the words of chapter 1 alone, so that the answers can be held against it:
// the product of the polynomials, less multiples of 11b, from the highest one down.
func product(a, b byte) byte {
	p := 0
	for i := range 8 {
		if b>>i&1 == 1 {
			p ^= int(a) << i
		}
	}
	for i := 14; i >= 8; i-- {
		if p>>i&1 == 1 {
			p ^= 0x11b << (i - 8)
		}
	}
	return byte(p)
}

// inverse is looked for among all elements; it is 0 of 0.
func inverse(a byte) byte {
	for b := range 256 {
		if product(a, byte(b)) == 1 {
			return byte(b)
		}
	}
	return 0
}

// some makes numbers, always the same ones of one seed.
type some uint64

func seeded(seed int) *some {
	s := some(seed)*7919 + 5
	return &s
}

func (s *some) below(n int) int {
	*s = *s*6364136223846793005 + 1442695040888963407
	return int(uint64(*s)>>33) % n
}

// number is 0 more often than others are.
func (s *some) number() byte { return byte(s.below(256) * min(s.below(4), 1)) }

// factor is not 0.
func (s *some) factor() byte { return byte(1 + s.below(255)) }

func (s *some) matrix(rows, columns int) [][]byte {
	m := noughts(rows, columns)
	for _, row := range m {
		for i := range row {
			row[i] = s.number()
		}
	}
	return m
}

func (s *some) shuffle(m [][]byte) {
	for i := range m {
		k := i + s.below(len(m)-i)
		m[i], m[k] = m[k], m[i]
	}
}

// mix adds rows to others, scales and swaps them, so many times: the span stays.
func (s *some) mix(m [][]byte, times int) {
	for range times * min(len(m), 1) {
		i, k := s.below(len(m)), s.below(len(m))
		if i != k {
			addTo(m[i], m[k], s.factor())
		}
		c := s.factor()
		for n := range m[k] {
			m[k][n] = product(m[k][n], c)
		}
	}
	s.shuffle(m)
}

// reduced is a reduced matrix, made by the chapter's words, of so many rows.
func (s *some) reduced(rows, columns int) [][]byte {
	places := make([][]byte, columns)
	for i := range places {
		places[i] = []byte{byte(i)}
	}
	s.shuffle(places)
	leads := slices.SortedFunc(slices.Values(places[:rows]), bytes.Compare)
	m := s.matrix(rows, columns)
	for i := range m {
		clear(m[i][:leads[i][0]])
		for k := range m {
			m[k][leads[i][0]] = 0
		}
	}
	for i := range m {
		m[i][leads[i][0]] = 1
	}
	return m
}

// regular is a square matrix that has an inverse.
func (s *some) regular(n int) [][]byte {
	m := plainIdentity(n)
	s.mix(m, 6*n)
	return m
}

func noughts(rows, columns int) [][]byte {
	m := make([][]byte, rows)
	for i := range m {
		m[i] = make([]byte, columns)
	}
	return m
}

func plainIdentity(n int) [][]byte {
	m := noughts(n, n)
	for i := range m {
		m[i][i] = 1
	}
	return m
}

// addTo adds c times b to a.
func addTo(a, b []byte, c byte) {
	for i := range a {
		a[i] ^= product(b[i], c)
	}
}

// plainProduct is that of a and b, of so many columns.
func plainProduct(a, b [][]byte, columns int) [][]byte {
	m := noughts(len(a), columns)
	for i := range a {
		for k := range b {
			addTo(m[i], b[k], a[i][k])
		}
	}
	return m
}

// plainRank is worked out from the last column and the last row on, the other way round than the program goes.
func plainRank(m [][]byte) int {
	m = clone(m)
	rank := 0
	for len(m) > 0 {
		last := m[len(m)-1]
		m = m[:len(m)-1]
		at := len(last) - 1
		for at >= 0 && last[at] == 0 {
			at--
		}
		if at < 0 {
			continue
		}
		rank++
		by := inverse(last[at])
		for _, row := range m {
			addTo(row, last, product(by, row[at]))
		}
	}
	return rank
}

// isReduced asks by the chapter's words.
func isReduced(m [][]byte) bool {
	before := -1
	for i, row := range m {
		lead := slices.IndexFunc(row, func(x byte) bool { return x != 0 })
		if lead <= before || row[lead] != 1 {
			return false
		}
		for k := range m {
			if k != i && m[k][lead] != 0 {
				return false
			}
		}
		before = lead
	}
	return true
}

// makes tells whether the rows of a reduced matrix make v: at their leads v tells how much there is of each.
func makes(reduced [][]byte, v []byte) bool {
	left := bytes.Clone(v)
	for _, row := range reduced {
		addTo(left, row, v[slices.Index(row, 1)])
	}
	return len(bytes.Trim(left, "\x00")) == 0
}

func clone(m [][]byte) [][]byte {
	c := make([][]byte, len(m))
	for i := range c {
		c[i] = bytes.Clone(m[i])
	}
	return c
}

func same(a, b [][]byte) bool { return slices.EqualFunc(a, b, bytes.Equal) }

// equal holds lists of rows against each other, without the program's help.
func equal(t *testing.T, what string, got, want [][]byte) {
	t.Helper()
	if !same(got, want) {
		t.Fatalf("%s: %d rows %.60x, not %d rows %.60x", what, len(got), got, len(want), want)
	}
}

// must is for calls that have to go well.
func must(t *testing.T, m [][]byte, e api.Errno) [][]byte {
	t.Helper()
	if e != api.OK {
		t.Fatalf("error %d", e)
	}
	return m
}

// fails is for calls that have to answer this error, and nothing else.
func fails(t *testing.T, what string, m [][]byte, e, want api.Errno) {
	t.Helper()
	if m != nil || e != want {
		t.Errorf("%s: %.60x, error %d, not %d", what, m, e, want)
	}
}

func identity(t *testing.T, n int) [][]byte {
	t.Helper()
	m, e := matrix.Identity(n)
	return must(t, m, e)
}

func transpose(t *testing.T, m [][]byte) [][]byte {
	t.Helper()
	turned, e := matrix.Transpose(m)
	return must(t, turned, e)
}

func mul(t *testing.T, a, b [][]byte) [][]byte {
	t.Helper()
	m, e := matrix.Mul(a, b)
	return must(t, m, e)
}

func reduce(t *testing.T, m [][]byte) [][]byte {
	t.Helper()
	r, e := matrix.Reduce(m)
	return must(t, r, e)
}

func rank(t *testing.T, m [][]byte) int {
	t.Helper()
	n, e := matrix.Rank(m)
	if e != api.OK {
		t.Fatalf("Rank: error %d", e)
	}
	return n
}

func inverted(t *testing.T, m [][]byte) [][]byte {
	t.Helper()
	i, e := matrix.Inverse(m)
	return must(t, i, e)
}

// sizes are those of which matrices are tried: rows, columns.
var sizes = [][2]int{
	{1, 1}, {1, 2}, {2, 1}, {1, 7}, {7, 1}, {2, 2}, {2, 3}, {3, 2}, {3, 3}, {4, 4}, {5, 9}, {9, 5}, {16, 16}, {3, 300}, {300, 3}, {33, 31},
}

// none are lists that are no matrices.
var none = map[string][][]byte{
	"the last row is longer":          {{1}, {2}, {3, 4}},
	"the last row is shorter":         {{1, 2}, {2, 3}, {3}},
	"the first row is longer":         {{1, 2}, {1}},
	"the middle row is longer":        {{1, 2}, {3, 4, 5}, {6, 7}},
	"the middle row is shorter":       {{1, 2}, {3}, {6, 7}},
	"the first row has no numbers":    {{}, {1}},
	"the first row is nil":            {nil, {1}},
	"the last row has no numbers":     {{1}, {}},
	"the last row is nil":             {{1, 2}, {3, 4}, nil},
	"noughts":                         {{0}, {0, 0}},
	"as many numbers as two by two":   {{1, 0, 0}, {1}},
	"more room than numbers":          {{1, 2}, make([]byte, 1, 2)},
	"square, but for the last number": {{1, 0}, {0, 1, 0}},
	"only the last of many is unlike": append(noughts(300, 2), []byte{0, 0, 0}),
}

// empties are matrices without rows, or without columns.
func empties() map[string][][]byte {
	return map[string][][]byte{
		"none":                {},
		"nil":                 nil,
		"a row of none":       {{}},
		"a nil row":           {nil},
		"rows without":        {{}, nil, {}},
		"many rows without":   noughts(300, 0),
		"rows that have none": {make([]byte, 0, 5), []byte{1, 2}[:0]},
	}
}

func TestExamples(t *testing.T) { // P6.1 to P6.4
	equal(t, "Mul", mul(t, [][]byte{{1, 2}, {3, 4}}, [][]byte{{1, 0}, {0, 1}}), [][]byte{{1, 2}, {3, 4}})
	equal(t, "Reduce", reduce(t, [][]byte{{0, 2, 4}, {0, 1, 2}, {3, 0, 0}}), [][]byte{{1, 0, 0}, {0, 1, 2}})
	equal(t, "Inverse", inverted(t, [][]byte{{0, 1}, {1, 0}}), [][]byte{{0, 1}, {1, 0}})
	m, e := matrix.Inverse([][]byte{{1, 1}, {1, 1}})
	fails(t, "Inverse", m, e, api.ErrRank)
	m, e = matrix.Inverse([][]byte{{1, 2}})
	fails(t, "Inverse", m, e, api.ErrDim)
	sized(t, [][]byte{{1}, {1, 2}}, 0, 0, api.ErrDim)
	sized(t, nil, 0, 0, api.OK)
}

func sized(t *testing.T, m [][]byte, rows, columns int, want api.Errno) {
	t.Helper()
	if r, c, e := matrix.Size(m); r != rows || c != columns || e != want {
		t.Errorf("Size of %.60x: %d, %d, error %d, not %d, %d, %d", m, r, c, e, rows, columns, want)
	}
}

func TestSize(t *testing.T) { // P6.1
	for _, size := range append(sizes, [2]int{255, 255}, [2]int{1000, 1}, [2]int{1, 70001}, [2]int{2, 65790}) {
		sized(t, noughts(size[0], size[1]), size[0], size[1], api.OK)
	}
	for _, m := range empties() {
		sized(t, m, len(m), 0, api.OK)
	}
	sized(t, [][]byte{{1, 2, 3}, make([]byte, 3, 4)}, 2, 3, api.OK)
}

func TestNoMatrix(t *testing.T) { // P6.1 to P6.4
	for what, m := range none {
		sized(t, m, 0, 0, api.ErrDim)
		turned, e := matrix.Transpose(m)
		fails(t, "Transpose: "+what, turned, e, api.ErrDim)
		r, e := matrix.Reduce(m)
		fails(t, "Reduce: "+what, r, e, api.ErrDim)
		if n, e := matrix.Rank(m); n != 0 || e != api.ErrDim {
			t.Errorf("Rank: %s: %d, error %d", what, n, e)
		}
		i, e := matrix.Inverse(m)
		fails(t, "Inverse: "+what, i, e, api.ErrDim)
	}
}

func TestIdentity(t *testing.T) { // P6.1
	for n := range 256 {
		m := identity(t, n)
		equal(t, "Identity", m, plainIdentity(n))
		for i, row := range m {
			if unit, e := vector.Unit(n, i); e != api.OK || !bytes.Equal(row, unit) {
				t.Fatal("no unit", n, i)
			}
		}
	}
}

func TestWrongIdentity(t *testing.T) { // P6.1
	for _, n := range []int{
		-1, -2, -255, -256, math.MinInt32, math.MinInt + 1, math.MinInt, -1 << 32, 1<<32 + 2,
		256, 257, 512, 65535, 70000, 70001, 1 << 16, 1 << 32, math.MaxInt32, math.MaxInt - 1, math.MaxInt,
	} {
		m, e := matrix.Identity(n)
		fails(t, "Identity", m, e, api.ErrArg)
	}
}

func TestSame(t *testing.T) { // P6.1
	for i, size := range sizes {
		m := seeded(i).matrix(size[0], size[1])
		alike(t, m, clone(m), true)
		alike(t, m, m, true)
		for r := range m {
			for _, c := range []int{0, size[1] / 2, size[1] - 1} {
				other := clone(m)
				other[r][c] ^= 0x80
				alike(t, m, other, false)
			}
			longer, shorter := clone(m), clone(m)
			longer[r] = append(longer[r], 0)
			shorter[r] = shorter[r][:size[1]-1]
			alike(t, m, longer, false)
			alike(t, m, shorter, false)
			alike(t, m, slices.Delete(clone(m), r, r+1), false)
		}
		alike(t, m, append(clone(m), make([]byte, size[1])), false)
		alike(t, m, append(clone(m), nil), false)
		alike(t, m, nil, false)
	}
	alike(t, [][]byte{{1, 2}, {3, 4}}, [][]byte{{3, 4}, {1, 2}}, false)
	alike(t, [][]byte{{1, 2}, {3, 4}}, [][]byte{{1, 3}, {2, 4}}, false)
	alike(t, [][]byte{{1, 2, 3, 4}}, [][]byte{{1, 2}, {3, 4}}, false)
	alike(t, [][]byte{{1}, {2, 3}}, [][]byte{{1, 2}, {3}}, false)
	alike(t, [][]byte{{1}, {2, 3}}, [][]byte{{1}, {2, 3}}, true)
	alike(t, [][]byte{[]byte{1, 2}[:1]}, [][]byte{[]byte{1, 3}[:1]}, true)
}

func TestSameOfNone(t *testing.T) { // P6.1, R4
	for _, a := range empties() {
		for _, b := range empties() {
			alike(t, a, b, len(a) == len(b))
		}
		alike(t, a, [][]byte{{0}}, false)
	}
}

// alike asks either way round.
func alike(t *testing.T, a, b [][]byte, want bool) {
	t.Helper()
	if matrix.Same(a, b) != want || matrix.Same(b, a) != want {
		t.Errorf("Same of %.60x and %.60x: not %v", a, b, want)
	}
}

func TestTranspose(t *testing.T) { // P6.2
	equal(t, "Transpose", transpose(t, [][]byte{{1, 2, 3}, {4, 5, 6}}), [][]byte{{1, 4}, {2, 5}, {3, 6}})
	for i, size := range sizes {
		m := seeded(i).matrix(size[0], size[1])
		want := noughts(size[1], size[0])
		for r := range m {
			for c := range m[r] {
				want[c][r] = m[r][c]
			}
		}
		equal(t, "Transpose", transpose(t, m), want)
	}
	for what, m := range empties() {
		equal(t, "Transpose: "+what, transpose(t, m), nil)
	}
}

func TestMul(t *testing.T) { // P6.2
	for i, size := range sizes {
		for _, columns := range []int{0, 1, 2, 5, 40} {
			s := seeded(100*i + columns)
			a, b := s.matrix(size[0], size[1]), s.matrix(size[1], columns)
			got := mul(t, a, b)
			equal(t, "Mul", got, plainProduct(a, b, columns))
			for r := range a {
				if row, e := vector.Combine(b, a[r]); e != api.OK || !bytes.Equal(got[r], row) {
					t.Fatal("no combination", size, columns, r)
				}
			}
		}
	}
}

func TestEveryProduct(t *testing.T) { // P6.2
	for a := range 256 {
		for b := range 256 {
			x, y := byte(a), byte(b)
			equal(t, "Mul", mul(t, [][]byte{{x}}, [][]byte{{y}}), [][]byte{{product(x, y)}})
		}
	}
}

func TestMulWithoutColumns(t *testing.T) { // P6.2
	for what, a := range empties() {
		for _, b := range [][][]byte{nil, {}} {
			equal(t, "Mul: "+what, mul(t, a, b), noughts(len(a), 0))
		}
	}
	equal(t, "b without columns", mul(t, [][]byte{{1, 2, 3}, {4, 5, 6}}, [][]byte{{}, nil, {}}), [][]byte{{}, {}})
}

func TestWrongMul(t *testing.T) { // P6.2
	good := seeded(3).matrix(2, 3)
	for what, bad := range none {
		for _, m := range [][][]byte{bad, nil, {{}}, {{1}}, {{1, 2}}, {{1, 2, 3}}, {{1}, {2}}, {{1}, {2}, {3}}, good, identity(t, 2), identity(t, 3)} {
			p, e := matrix.Mul(bad, m)
			fails(t, "Mul with: "+what, p, e, api.ErrDim)
			p, e = matrix.Mul(m, bad)
			fails(t, "Mul by: "+what, p, e, api.ErrDim)
		}
	}
	for columns := range 6 {
		for rows := range 6 {
			for _, n := range []int{1, 2, 3} {
				if columns == rows {
					continue
				}
				a, b := noughts(n, columns), noughts(rows, n)
				p, e := matrix.Mul(a, b)
				fails(t, "Mul", p, e, api.ErrDim)
			}
		}
	}
	for _, b := range [][][]byte{{{}}, {nil, nil}, {{1}}, good} {
		p, e := matrix.Mul(nil, b)
		fails(t, "Mul of none, which has no columns", p, e, api.ErrDim)
	}
	p, e := matrix.Mul(good, nil)
	fails(t, "Mul by none", p, e, api.ErrDim)
}

// spanned asks whether r is reduced, has m's span, and as many rows as m's rank is.
func spanned(t *testing.T, m, r [][]byte) {
	t.Helper()
	if !isReduced(r) {
		t.Fatalf("Reduce of %.60x is not reduced: %.60x", m, r)
	}
	for _, row := range m {
		if !makes(r, row) {
			t.Fatalf("Reduce of %.60x, %.60x, does not make %.60x", m, r, row)
		}
	}
	if n := plainRank(m); len(r) != n || rank(t, m) != n {
		t.Fatalf("Reduce of %.60x: %d rows, Rank %d, not %d", m, len(r), rank(t, m), n)
	}
}

func TestReduce(t *testing.T) { // P6.3
	for i, size := range sizes {
		for seed := range 8 {
			m := seeded(100*i+seed).matrix(size[0], size[1])
			spanned(t, m, reduce(t, m))
		}
	}
}

// small hands f every matrix of so many rows and columns whose numbers are among these.
func small(rows, columns int, numbers []byte, f func(m [][]byte)) {
	m := noughts(rows, columns)
	var fill func(place int)
	fill = func(place int) {
		if place == rows*columns {
			f(m)
			return
		}
		for _, x := range numbers {
			m[place/columns][place%columns] = x
			fill(place + 1)
		}
	}
	fill(0)
}

func TestReduceOfSmallOnes(t *testing.T) { // P6.3
	for _, x := range []struct {
		rows, columns int
		numbers       []byte
	}{
		{1, 1, sequence(256)}, {1, 2, sequence(40)}, {2, 1, sequence(40)},
		{2, 2, []byte{0, 1, 2, 3, 0x53, 0xca, 0xff}}, {2, 3, []byte{0, 1, 2, 0xfe}}, {3, 2, []byte{0, 1, 2, 0xfe}},
		{3, 3, []byte{0, 1, 5}}, {4, 3, []byte{0, 7}}, {3, 4, []byte{0, 7}},
	} {
		small(x.rows, x.columns, x.numbers, func(m [][]byte) { spanned(t, m, reduce(t, m)) })
	}
}

// sequence is 0 to n - 1.
func sequence(n int) []byte {
	l := make([]byte, n)
	for i := range l {
		l[i] = byte(i)
	}
	return l
}

func TestReduceKeepsTheSpan(t *testing.T) { // P6.3: all that two rows make, one by one
	for _, m := range [][][]byte{
		{{0, 0, 0}, {0, 0, 0}}, {{0, 0, 0}, {0, 5, 9}}, {{1, 2, 3}, {0, 0, 0}}, {{1, 2, 3}, {2, 4, 6}},
		{{1, 2, 3}, {1, 2, 4}}, {{0, 2, 3}, {7, 2, 4}}, {{0, 0, 9}, {0, 8, 0}},
	} {
		before, behind := made(m), made(append(reduce(t, m), make([]byte, 3), make([]byte, 3))[:2])
		if len(before) != len(behind) {
			t.Errorf("%x: %d vectors, then %d", m, len(before), len(behind))
		}
		for v := range before {
			if _, ok := behind[v]; !ok {
				t.Fatalf("%x: no longer %x", m, v)
			}
		}
	}
}

// made is all that two rows of three numbers make.
func made(m [][]byte) map[[3]byte]struct{} {
	all := map[[3]byte]struct{}{}
	for c := range 256 {
		for d := range 256 {
			var v [3]byte
			addTo(v[:], m[0], byte(c))
			addTo(v[:], m[1], byte(d))
			all[v] = struct{}{}
		}
	}
	return all
}

func TestReduceAtTheEdges(t *testing.T) { // P6.3
	for name, x := range map[string]struct{ m, want [][]byte }{
		"a row of noughts":            {[][]byte{{0, 0, 0}}, nil},
		"rows of noughts":             {noughts(9, 4), nil},
		"many of them":                {noughts(300, 2), nil},
		"noughts ahead":               {[][]byte{{0, 0}, {0, 0}, {2, 4}}, [][]byte{{1, 2}}},
		"noughts between":             {[][]byte{{0, 1}, {0, 0}, {1, 0}}, [][]byte{{1, 0}, {0, 1}}},
		"noughts behind":              {[][]byte{{3, 0}, {0, 3}, {0, 0}}, [][]byte{{1, 0}, {0, 1}}},
		"a lead of a later row":       {[][]byte{{0, 0, 5}, {0, 7, 0}, {9, 0, 0}}, [][]byte{{1, 0, 0}, {0, 1, 0}, {0, 0, 1}}},
		"a lead of the last row":      {[][]byte{{0, 1}, {0, 2}, {0, 3}, {4, 0}}, [][]byte{{1, 0}, {0, 1}}},
		"above a later lead":          {[][]byte{{1, 7, 9}, {0, 1, 5}}, [][]byte{{1, 0, 9 ^ product(7, 5)}, {0, 1, 5}}},
		"no lead in the first column": {[][]byte{{0, 2, 4}, {0, 0, 3}}, [][]byte{{0, 1, 0}, {0, 0, 1}}},
		"no lead in a middle column":  {[][]byte{{1, 2, 0}, {0, 0, 3}}, [][]byte{{1, 2, 0}, {0, 0, 1}}},
		"no lead in the last columns": {[][]byte{{1, 2, 3}, {2, 4, 6}}, [][]byte{{1, 2, 3}}},
		"one number":                  {[][]byte{{0x53}}, [][]byte{{1}}},
		"one column":                  {[][]byte{{0}, {2}, {3}, {0}}, [][]byte{{1}}},
		"one row":                     {[][]byte{{0, 0x53, 0x53, 1}}, [][]byte{{0, 1, 1, 0xca}}},
		"the last number":             {[][]byte{{0, 0, 0}, {0, 0, 0xff}}, [][]byte{{0, 0, 1}}},
		"the same rows":               {[][]byte{{5, 5}, {5, 5}, {5, 5}}, [][]byte{{1, 1}}},
	} {
		equal(t, name, reduce(t, x.m), x.want)
		if n := rank(t, x.m); n != len(x.want) {
			t.Errorf("%s: Rank %d, not %d", name, n, len(x.want))
		}
	}
	for what, m := range empties() {
		equal(t, "Reduce: "+what, reduce(t, m), nil)
		if n := rank(t, m); n != 0 {
			t.Errorf("Rank: %s: %d", what, n)
		}
	}
}

func TestReducedStays(t *testing.T) { // P6.3, P6.7
	for i, size := range sizes {
		for seed := range 4 {
			s := seeded(100*i + seed)
			r := s.reduced(s.below(1+min(size[0], size[1])), size[1]%256)
			equal(t, "Reduce of what is reduced", reduce(t, r), r)
		}
	}
}

func TestInverseOfSmallOnes(t *testing.T) { // P6.4: two by two, where the determinant tells it all
	small(2, 2, []byte{0, 1, 2, 3, 4, 0x10, 0x53, 0x80, 0xca, 0xff}, func(m [][]byte) {
		a, b, c, d := m[0][0], m[0][1], m[1][0], m[1][1]
		by := inverse(product(a, d) ^ product(b, c))
		got, e := matrix.Inverse(m)
		if by == 0 {
			fails(t, "Inverse", got, e, api.ErrRank)
			return
		}
		equal(t, "Inverse", must(t, got, e), [][]byte{{product(by, d), product(by, b)}, {product(by, c), product(by, a)}})
	})
	for a := 1; a < 256; a++ {
		equal(t, "Inverse", inverted(t, [][]byte{{byte(a)}}), [][]byte{{inverse(byte(a))}})
	}
	m, e := matrix.Inverse([][]byte{{0}})
	fails(t, "Inverse of 0", m, e, api.ErrRank)
}

func TestInverse(t *testing.T) { // P6.4
	for _, n := range []int{1, 2, 3, 4, 5, 8, 17, 40} {
		for seed := range 5 {
			m := seeded(100*n + seed).regular(n)
			equal(t, "m by its inverse", plainProduct(m, inverted(t, m), n), plainIdentity(n))
		}
	}
}

func TestInverseOfGreatOnes(t *testing.T) { // P6.4: also of more rows than Identity makes
	for _, n := range []int{255, 256, 300} {
		m := plainIdentity(n)
		slices.Reverse(m)
		for i := range m {
			addTo(m[i], m[(i+7)%n], 9)
		}
		equal(t, "m by its inverse", mul(t, m, inverted(t, m)), plainIdentity(n))
	}
}

func TestInverseSwaps(t *testing.T) { // P6.4: leads are not in the first row
	for n := 1; n <= 9; n++ {
		for by := range n {
			turned, back := noughts(n, n), noughts(n, n)
			for i := range n {
				x := byte(3*i + 2)
				turned[i][(i+by)%n] = x
				back[(i+by)%n][i] = inverse(x)
			}
			equal(t, "of turned rows", inverted(t, turned), back)
		}
	}
	equal(t, "of three", inverted(t, [][]byte{{0, 0, 2}, {0, 1, 1}, {1, 0, 0}}), [][]byte{{0, 0, 1}, {0x8d, 1, 0}, {0x8d, 0, 0}})
	equal(t, "a swap in the middle", inverted(t, [][]byte{{1, 1, 0}, {1, 1, 1}, {0, 1, 0}}), [][]byte{{1, 0, 1}, {0, 0, 1}, {1, 1, 0}})
}

func TestInverseOfLesserRank(t *testing.T) { // P6.4
	for _, n := range []int{1, 2, 3, 4, 8, 17} {
		m, e := matrix.Inverse(noughts(n, n))
		fails(t, "of noughts", m, e, api.ErrRank)
		for lost := range n {
			s := seeded(100*n + lost)
			twice, row, column := s.regular(n), s.regular(n), s.regular(n)
			if n > 1 {
				copy(twice[lost], twice[(lost+1)%n])
				m, e = matrix.Inverse(twice)
				fails(t, "of a row twice", m, e, api.ErrRank)
			}
			clear(row[lost])
			m, e = matrix.Inverse(row)
			fails(t, "of a row of noughts", m, e, api.ErrRank)
			for _, r := range column {
				r[lost] = 0
			}
			m, e = matrix.Inverse(column)
			fails(t, "of a column of noughts", m, e, api.ErrRank)
		}
	}
}

func TestInverseOfNotSquare(t *testing.T) { // P6.4
	for rows := range 6 {
		for columns := range 6 {
			if rows == columns || rows == 0 {
				continue
			}
			for _, m := range [][][]byte{noughts(rows, columns), seeded(rows).matrix(rows, columns)} {
				i, e := matrix.Inverse(m)
				fails(t, "not square", i, e, api.ErrDim)
			}
		}
	}
	i, e := matrix.Inverse(noughts(300, 0))
	fails(t, "without columns", i, e, api.ErrDim)
	for _, m := range [][][]byte{nil, {}} {
		equal(t, "of none", inverted(t, m), nil)
	}
}

func TestBracketsDoNotMatter(t *testing.T) { // P6.5
	for i, size := range sizes {
		for _, inner := range []int{1, 2, 6} {
			for _, columns := range []int{0, 1, 7} {
				s := seeded(1000*i + 10*inner + columns)
				a, b, c := s.matrix(size[0], size[1]), s.matrix(size[1], inner), s.matrix(inner, columns)
				equal(t, "brackets", mul(t, mul(t, a, b), c), mul(t, a, mul(t, b, c)))
			}
		}
	}
}

func TestIdentityChangesNothing(t *testing.T) { // P6.5
	for i, size := range append(sizes, [2]int{2, 255}, [2]int{255, 2}) {
		if max(size[0], size[1]) > 255 {
			continue
		}
		m := seeded(i).matrix(size[0], size[1])
		equal(t, "Identity ahead", mul(t, identity(t, size[0]), m), m)
		equal(t, "Identity behind", mul(t, m, identity(t, size[1])), m)
	}
	equal(t, "of rows without numbers, ahead", mul(t, identity(t, 3), noughts(3, 0)), noughts(3, 0))
	equal(t, "of rows without numbers, behind", mul(t, noughts(3, 0), identity(t, 0)), noughts(3, 0))
	equal(t, "of none", mul(t, identity(t, 0), identity(t, 0)), nil)
}

func TestTransposes(t *testing.T) { // P6.5
	for i, size := range sizes {
		for _, columns := range []int{1, 2, 30} {
			s := seeded(100*i + columns)
			a, b := s.matrix(size[0], size[1]), s.matrix(size[1], columns)
			equal(t, "of a product", transpose(t, mul(t, a, b)), mul(t, transpose(t, b), transpose(t, a)))
			equal(t, "twice", transpose(t, transpose(t, a)), a)
		}
	}
	equal(t, "of Identity", transpose(t, identity(t, 255)), identity(t, 255))
}

func TestInverses(t *testing.T) { // P6.6
	for n := range 20 {
		s := seeded(n)
		a, b := s.regular(n), s.regular(n)
		one := identity(t, n)
		backA, backB := inverted(t, a), inverted(t, b)
		equal(t, "behind", mul(t, a, backA), one)
		equal(t, "ahead", mul(t, backA, a), one)
		equal(t, "twice", inverted(t, backA), a)
		equal(t, "of a product", inverted(t, mul(t, a, b)), mul(t, backB, backA))
		equal(t, "of a transpose", inverted(t, transpose(t, a)), transpose(t, backA))
		equal(t, "of Identity", inverted(t, one), one)
	}
}

func TestProductHasAnInverseIfEachHas(t *testing.T) { // P6.6
	for _, n := range []int{1, 2, 5, 9} {
		for seed := range 10 {
			s := seeded(100*n + seed)
			good, bad := s.regular(n), s.regular(n)
			clear(bad[s.below(n)])
			s.mix(bad, 3*n)
			m, e := matrix.Inverse(mul(t, good, bad))
			fails(t, "good, bad", m, e, api.ErrRank)
			m, e = matrix.Inverse(mul(t, bad, good))
			fails(t, "bad, good", m, e, api.ErrRank)
			m, e = matrix.Inverse(mul(t, bad, bad))
			fails(t, "bad, bad", m, e, api.ErrRank)
		}
	}
	small(2, 2, []byte{0, 1, 6}, func(a [][]byte) {
		small(2, 2, []byte{0, 1, 6}, func(b [][]byte) {
			_, e := matrix.Inverse(a)
			_, f := matrix.Inverse(b)
			_, g := matrix.Inverse(mul(t, a, b))
			if (g == api.OK) != (e == api.OK && f == api.OK) {
				t.Fatal(a, b, e, f, g)
			}
		})
	})
}

func TestOneReducedForm(t *testing.T) { // P6.3, P6.7: whatever is made of a reduced one that has its span leads back to it
	for _, size := range [][2]int{{0, 1}, {0, 5}, {1, 1}, {1, 6}, {2, 2}, {3, 5}, {5, 5}, {6, 30}, {20, 21}, {16, 200}} {
		for seed := range 12 {
			s := seeded(1000*size[0] + 10*size[1] + seed)
			want := s.reduced(size[0], size[1])
			m := clone(want)
			s.shuffle(m)
			equal(t, "order of rows", reduce(t, m), want)
			for _, row := range m {
				m = append(m, bytes.Clone(row), make([]byte, size[1]))
			}
			equal(t, "rows put in twice, and noughts", reduce(t, m), want)
			for _, row := range m {
				c := s.factor()
				for i := range row {
					row[i] = product(row[i], c)
				}
			}
			equal(t, "scaled rows", reduce(t, m), want)
			s.mix(m, 3*len(m))
			equal(t, "rows added to others", reduce(t, m), want)
			if n := rank(t, m); n != size[0] {
				t.Fatalf("Rank %d, not %d", n, size[0])
			}
		}
	}
}

func TestRanks(t *testing.T) { // P6.7
	for i, size := range sizes {
		for _, inner := range []int{1, 2, 3, 12} {
			s := seeded(100*i + inner)
			a, b := s.matrix(size[0], inner), s.matrix(inner, size[1])
			m := mul(t, a, b)
			if n := rank(t, m); n > rank(t, a) || n > rank(t, b) || n != plainRank(m) {
				t.Fatal("of a product", size, inner, n)
			}
			for _, m := range [][][]byte{a, b, m} {
				if rank(t, m) != rank(t, transpose(t, m)) {
					t.Fatal("of a transpose", size, inner)
				}
			}
		}
	}
	small(3, 3, []byte{0, 1, 9}, func(m [][]byte) {
		if rank(t, m) != rank(t, transpose(t, m)) {
			t.Fatal("of a transpose", m)
		}
	})
	for _, n := range []int{0, 1, 100, 255} {
		if got := rank(t, identity(t, n)); got != n {
			t.Errorf("of Identity of %d: %d", n, got)
		}
	}
}

// calls are all that tell a matrix of two.
var calls = map[string]func(a, b [][]byte) ([][]byte, api.Errno){
	"Identity":  func(a, _ [][]byte) ([][]byte, api.Errno) { return matrix.Identity(len(a)) },
	"Transpose": func(a, _ [][]byte) ([][]byte, api.Errno) { return matrix.Transpose(a) },
	"Mul":       matrix.Mul,
	"Reduce":    func(a, _ [][]byte) ([][]byte, api.Errno) { return matrix.Reduce(a) },
	"Inverse":   func(a, _ [][]byte) ([][]byte, api.Errno) { return matrix.Inverse(a) },
}

// squares are pairs of matrices of as many rows as columns, of all sorts: reduced ones, such as the calls might
// tell as they are, are among them.
func squares() [][2][][]byte {
	all := [][2][][]byte{{nil, nil}, {plainIdentity(1), plainIdentity(1)}, {plainIdentity(4), plainIdentity(4)}, {noughts(3, 3), noughts(3, 3)}}
	for _, n := range []int{1, 2, 5, 16} {
		s := seeded(n)
		bad := s.regular(n)
		clear(bad[0])
		all = append(all, [2][][]byte{s.regular(n), s.matrix(n, n)}, [2][][]byte{bad, s.regular(n)}, [2][][]byte{s.reduced(n/2, n), nil})
	}
	return all
}

// roomy is m with its rows one behind the other in one piece of memory, room behind them, and room behind the list.
func roomy(m [][]byte) ([][]byte, []byte) {
	piece := append(bytes.Join(m, nil), bytes.Repeat([]byte{0xa5}, 9)...)
	l, at := make([][]byte, len(m), len(m)+3), 0
	for i := range m {
		l[i] = piece[at : at+len(m[i])]
		at += len(m[i])
	}
	return l, piece
}

// wipe turns each byte of a row, and of the room behind it, into another one.
func wipe(b []byte) {
	for i := range b[:cap(b)] {
		b[:cap(b)][i] ^= 0xff
	}
}

func TestGivenStays(t *testing.T) { // R3
	for _, pair := range squares() {
		a, pieceA := roomy(pair[0])
		b, pieceB := roomy(pair[1])
		keptA, keptB := bytes.Clone(pieceA), bytes.Clone(pieceB)
		for name, call := range calls {
			call(a, b)
			matrix.Size(a)
			matrix.Rank(a)
			matrix.Same(a, b)
			equal(t, name+": given", a, pair[0])
			equal(t, name+": given", b, pair[1])
			if !bytes.Equal(pieceA, keptA) || !bytes.Equal(pieceB, keptB) {
				t.Fatalf("%s: what lies behind a row was written to", name)
			}
		}
	}
}

func TestToldIsNew(t *testing.T) { // R3
	for _, pair := range squares() {
		for name, call := range calls {
			a, b := clone(pair[0]), clone(pair[1])
			told, e := call(a, b)
			want := clone(told)
			if e != api.OK {
				continue
			}
			for _, row := range slices.Concat(a, b) {
				wipe(row)
			}
			clear(a)
			clear(b)
			equal(t, name+": told, and the given written to", told, want)
			for i, row := range told {
				wipe(row)
				told[i] = want[i]
				equal(t, name+": told, and one row of it written to", told, want)
			}
		}
	}
}

func TestGivenStaysWhenToldIsWrittenTo(t *testing.T) { // R3
	for _, pair := range squares() {
		for name, call := range calls {
			a, b := clone(pair[0]), clone(pair[1])
			told, e := call(a, b)
			want := clone(told)
			for _, row := range told {
				wipe(row)
			}
			clear(told[:cap(told)])
			equal(t, name+": given", a, pair[0])
			equal(t, name+": given", b, pair[1])
			again, f := call(a, b)
			equal(t, name+": told again", again, want)
			if e != f {
				t.Fatalf("%s: error %d, then %d", name, e, f)
			}
		}
	}
}

func TestRowsThatShare(t *testing.T) { // R3: one row given several times, rows that lie over each other, a matrix with itself
	piece := []byte{1, 2, 3, 4, 5, 6, 7, 9}
	over := [][]byte{piece[0:3], piece[1:4], piece[2:5], piece[0:3], piece[5:8]}
	apart := clone(over)
	equal(t, "Reduce", reduce(t, over), reduce(t, apart))
	equal(t, "Transpose", transpose(t, over), transpose(t, apart))
	equal(t, "Mul", mul(t, over, over[:3]), mul(t, apart, clone(apart[:3])))
	square := [][]byte{piece[0:2], piece[3:5]}
	equal(t, "Inverse", inverted(t, square), inverted(t, clone(square)))
	equal(t, "Mul with itself", mul(t, square, square), plainProduct(square, square, 2))
	equal(t, "given", [][]byte{piece}, [][]byte{{1, 2, 3, 4, 5, 6, 7, 9}})
}

func TestWhateverRunsBeside(t *testing.T) { // R7
	m := seeded(1).regular(12)
	want := inverted(t, m)
	answers := make(chan [][]byte)
	for range 8 {
		go func() {
			got, _ := matrix.Inverse(m)
			matrix.Reduce(m)
			answers <- got
		}()
	}
	for range 8 {
		equal(t, "Inverse", <-answers, want)
	}
}
