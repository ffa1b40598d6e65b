package span_test

import (
	"bytes"
	"maps"
	"slices"
	"testing"

	"braidwork/api"
	"braidwork/field"
	"braidwork/matrix"
	"braidwork/span"
	"braidwork/vector"
)

// some makes numbers, always the same ones of one seed.
type some uint64

func seeded(seed int) *some {
	s := some(seed)*7919 + 5
	return &s
}

func (s *some) below(n int) int {
	*s = *s*6364136223846793005 + 1442695040888963407
	return int(uint64(*s)>>33) % n
}

// factor is not 0.
func (s *some) factor() byte { return byte(1 + s.below(255)) }

// vector has 0 more often than other numbers.
func (s *some) vector(n int) []byte {
	v := make([]byte, n)
	for i := range v {
		v[i] = byte(s.below(256) * min(s.below(3), 1))
	}
	return v
}

func (s *some) matrix(rows, columns int) [][]byte {
	m := make([][]byte, rows)
	for i := range m {
		m[i] = s.vector(columns)
	}
	return m
}

// turned has the span of m, laid by as many other rows.
func (s *some) turned(m [][]byte) [][]byte {
	m = clone(m)
	for range 4 * len(m) {
		i, k := s.below(len(m)), s.below(len(m))
		if i != k {
			addTo(m[i], m[k], s.factor())
		}
		m[k] = vector.Scale(m[k], s.factor())
	}
	return m
}

// mixed has the span of m, laid by other rows, some of them noughts, some twice.
func (s *some) mixed(m [][]byte) [][]byte {
	m = s.turned(m)
	for i := range s.below(3) * min(len(m), 1) {
		m = append(m, bytes.Clone(m[i%len(m)]), make([]byte, len(m[i%len(m)])))
	}
	for i := range m {
		k := i + s.below(len(m)-i)
		m[i], m[k] = m[k], m[i]
	}
	return m
}

// regular is so many rows of so many numbers of which none is made by the others.
func (s *some) regular(n int) [][]byte {
	m := make([][]byte, n)
	for i := range m {
		m[i] = unit(n, i)
	}
	return s.turned(m)
}

// makes is a vector of the span of m, of so many columns.
func (s *some) makes(m [][]byte, columns int) []byte {
	v := make([]byte, columns)
	for _, row := range m {
		addTo(v, row, byte(s.below(256)))
	}
	return v
}

func unit(n, i int) []byte {
	u := make([]byte, n)
	u[i] = 1
	return u
}

func noughts(rows, columns int) [][]byte {
	m := make([][]byte, rows)
	for i := range m {
		m[i] = make([]byte, columns)
	}
	return m
}

// addTo adds c times b to a.
func addTo(a, b []byte, c byte) {
	for i := range a {
		a[i] ^= field.Mul(b[i], c)
	}
}

func clone(m [][]byte) [][]byte {
	c := make([][]byte, len(m))
	for i := range c {
		c[i] = bytes.Clone(m[i])
	}
	return c
}

func together(lists ...[][]byte) [][]byte { return clone(slices.Concat(lists...)) }

// plainRank is worked out from the last column and the last row on, the other way round than the program goes.
func plainRank(m [][]byte) int {
	m = clone(m)
	rank := 0
	for len(m) > 0 {
		last := m[len(m)-1]
		m = m[:len(m)-1]
		at := len(last) - 1
		for at >= 0 && last[at] == 0 {
			at--
		}
		if at < 0 {
			continue
		}
		rank++
		inverse, _ := field.Inv(last[at])
		for _, row := range m {
			addTo(row, last, field.Mul(inverse, row[at]))
		}
	}
	return rank
}

// lies asks whether v is made by the rows: whether the rank stays with it.
func lies(l [][]byte, v []byte) bool { return plainRank(together(l, [][]byte{v})) == plainRank(l) }

// lie asks whether each of the vectors is made by the rows.
func lie(l, vectors [][]byte) bool { return plainRank(together(l, vectors)) == plainRank(l) }

// isReduced asks by chapter 6's words.
func isReduced(m [][]byte) bool {
	before := -1
	for i, row := range m {
		lead := slices.IndexFunc(row, func(x byte) bool { return x != 0 })
		if lead <= before || row[lead] != 1 {
			return false
		}
		for k := range m {
			if k != i && m[k][lead] != 0 {
				return false
			}
		}
		before = lead
	}
	return true
}

// equal holds lists of rows against each other, without the program's help.
func equal(t *testing.T, what string, got, want [][]byte) {
	t.Helper()
	if !slices.EqualFunc(got, want, bytes.Equal) {
		t.Fatalf("%s: %d rows %.60x, not %d rows %.60x", what, len(got), got, len(want), want)
	}
}

// These are for calls that have to go well.

func reduce(t *testing.T, m [][]byte) [][]byte {
	t.Helper()
	r, e := matrix.Reduce(m)
	if e != api.OK {
		t.Fatalf("Reduce of %.60x: error %d", m, e)
	}
	return r
}

func sum(t *testing.T, a, b [][]byte) [][]byte {
	t.Helper()
	m, e := span.Sum(a, b)
	if e != api.OK {
		t.Fatalf("Sum of %.60x and %.60x: error %d", a, b, e)
	}
	return m
}

func meet(t *testing.T, a, b [][]byte) [][]byte {
	t.Helper()
	m, e := span.Meet(a, b)
	if e != api.OK {
		t.Fatalf("Meet of %.60x and %.60x: error %d", a, b, e)
	}
	return m
}

func contained(t *testing.T, a, b [][]byte) bool {
	t.Helper()
	is, e := span.Contains(a, b)
	if e != api.OK {
		t.Fatalf("Contains of %.60x and %.60x: error %d", a, b, e)
	}
	return is
}

// These are for calls that have to answer this.

func has(t *testing.T, l [][]byte, v []byte, want bool) {
	t.Helper()
	if is, e := span.Has(l, v); is != want || e != api.OK {
		t.Fatalf("Has of %.60x and %.60x: %v, error %d, not %v", l, v, is, e, want)
	}
}

func contains(t *testing.T, a, b [][]byte, want bool) {
	t.Helper()
	if contained(t, a, b) != want {
		t.Fatalf("Contains of %.60x and %.60x: not %v", a, b, want)
	}
}

// same asks either way round.
func same(t *testing.T, a, b [][]byte, want bool) {
	t.Helper()
	forth, e := span.Same(a, b)
	back, f := span.Same(b, a)
	if forth != want || back != want || e != api.OK || f != api.OK {
		t.Fatalf("Same of %.60x and %.60x: %v, error %d, and %v, error %d, not %v", a, b, forth, e, back, f, want)
	}
}

// witnessed asks for the draw that picks that row of own; -1 for none.
func witnessed(t *testing.T, own, other [][]byte, want int) {
	t.Helper()
	draw, ok, e := span.Witness(own, other)
	if e != api.OK || ok != (want >= 0) {
		t.Fatalf("Witness of %.60x and %.60x: %v, error %d, not row %d", own, other, ok, e, want)
	}
	if !ok && len(draw) != 0 {
		t.Fatalf("Witness of %.60x and %.60x: false, and %.60x", own, other, draw)
	}
	if ok && !bytes.Equal(draw, unit(len(own), want)) {
		t.Fatalf("Witness of %.60x and %.60x: %.60x, not row %d", own, other, draw, want)
	}
}

// pairs are lists of rows that fit, of as many columns, of all sorts.
func pairs() [][2][][]byte {
	var all [][2][][]byte
	for columns := range 6 {
		for rowsA := range 5 {
			for rowsB := range 5 {
				s := seeded(100*columns + 10*rowsA + rowsB)
				a, b := s.matrix(rowsA, columns), s.matrix(rowsB, columns)
				all = append(all, [2][][]byte{a, b}, [2][][]byte{s.mixed(together(a, b)), b}, [2][][]byte{a, s.mixed(a)},
					[2][][]byte{noughts(rowsA, columns), b}, [2][][]byte{together(a, a, noughts(1, columns)), s.mixed(together(a, b[:rowsB/2]))})
			}
		}
	}
	for seed, size := range [][3]int{{1, 1, 300}, {3, 7, 9}, {7, 3, 9}, {16, 16, 20}, {20, 20, 16}, {40, 2, 40}, {2, 300, 2}} {
		s := seeded(seed)
		a, b := s.matrix(size[0], size[2]), s.matrix(size[1], size[2])
		all = append(all, [2][][]byte{a, b}, [2][][]byte{together(a, b[:1]), s.mixed(together(b, a[:1]))})
	}
	return append(all, [2][][]byte{nil, nil}, [2][][]byte{{}, nil}, [2][][]byte{{nil, {}}, {{}}}, [2][][]byte{nil, {{}, nil}})
}

func TestExamples(t *testing.T) { // P8.1 to P8.3
	has(t, [][]byte{{1, 2}}, []byte{2, 4}, true)
	has(t, [][]byte{{1, 2}}, []byte{1, 1}, false)
	has(t, nil, []byte{0, 0}, true)
	equal(t, "Meet", meet(t, [][]byte{{1, 0, 0}, {0, 1, 0}}, [][]byte{{0, 1, 0}, {0, 0, 1}}), [][]byte{{0, 1, 0}})
	witnessed(t, [][]byte{{1, 1}, {0, 1}}, [][]byte{{1, 1}}, 1)
}

// unfit are lists that do not fit: some are no matrices, some have unlike numbers of columns.
var unfit = map[string][2][][]byte{
	"a longer last row":                     {{{1, 2}, {1, 2, 3}}, {{1, 2}}},
	"a shorter last row":                    {{{1, 2}, {3}}, {{1, 2}}},
	"a longer first row":                    {{{1, 2, 3}, {1, 2}}, {{1, 2}}},
	"a longer middle row":                   {{{1, 2}, {1, 2, 3}, {1, 2}}, {{1, 2}}},
	"rows of unlike lengths, of noughts":    {{{0, 0}, {0}}, {{0, 0}}},
	"a row without numbers behind others":   {{{1, 2}, {}}, {{1, 2}}},
	"a row without numbers ahead of others": {{nil, {1, 2}}, {{1, 2}}},
	"no matrices, neither":                  {{{1}, {1, 2}}, {{1}, {1, 2}}},
	"no matrix, and no rows":                {{{1}, {1, 2}}, {}},
	"no matrix of noughts, and no rows":     {{{0}, {0, 0}}, nil},
	"no matrix, and rows without numbers":   {{{1}, {}}, {{}}},
	"more room than numbers":                {{{1, 2}, make([]byte, 1, 2)}, {{1, 2}}},
	"many rows, one of them unlike":         {append(noughts(300, 2), []byte{0}), {{0, 0}}},
	"one column more":                       {{{1, 2}}, {{1, 2, 3}}},
	"one column more, of noughts":           {{{0, 0}}, {{0, 0, 0}}},
	"as many numbers in all":                {{{1, 2, 3}, {4, 5, 6}}, {{1, 2}, {3, 4}, {5, 6}}},
	"twice as many columns":                 {{{1, 2}}, {{1, 2, 0, 0}}},
	"rows, and rows without numbers":        {{{1, 2}}, {{}}},
	"noughts, and rows without numbers":     {{{0}}, {nil, {}}},
	"many columns":                          {noughts(2, 70001), noughts(1, 70000)},
}

func TestUnfit(t *testing.T) { // Errors
	for what, pair := range unfit {
		unfitPair(t, what, pair[0], pair[1])
		unfitPair(t, what+", the other way round", pair[1], pair[0])
	}
}

func unfitPair(t *testing.T, what string, a, b [][]byte) {
	t.Helper()
	if is, e := span.Contains(a, b); is || e != api.ErrDim {
		t.Errorf("Contains: %s: %v, error %d", what, is, e)
	}
	if is, e := span.Same(a, b); is || e != api.ErrDim {
		t.Errorf("Same: %s: %v, error %d", what, is, e)
	}
	if m, e := span.Sum(a, b); m != nil || e != api.ErrDim {
		t.Errorf("Sum: %s: %.60x, error %d", what, m, e)
	}
	if m, e := span.Meet(a, b); m != nil || e != api.ErrDim {
		t.Errorf("Meet: %s: %.60x, error %d", what, m, e)
	}
	if draw, ok, e := span.Witness(a, b); draw != nil || ok || e != api.ErrDim {
		t.Errorf("Witness: %s: %.60x, %v, error %d", what, draw, ok, e)
	}
	if len(b) != 1 {
		return
	}
	if is, e := span.Has(a, b[0]); is || e != api.ErrDim {
		t.Errorf("Has: %s: %v, error %d", what, is, e)
	}
}

func TestUnfitVectors(t *testing.T) { // Errors: Has of each number of columns against each other one
	for columns := range 6 {
		for n := range 6 {
			for rows := 1; rows < 4; rows++ {
				if columns == n {
					has(t, noughts(rows, columns), make([]byte, n), true)
					continue
				}
				if is, e := span.Has(noughts(rows, columns), make([]byte, n)); is || e != api.ErrDim {
					t.Errorf("Has of %d rows, %d columns, and %d numbers: %v, error %d", rows, columns, n, is, e)
				}
			}
		}
	}
	for what, l := range map[string][][]byte{"numbers as in the first": {{1, 2}, {1}}, "as in the last": {{1}, {1, 2}}, "as in none": {{}, {1}}} {
		if is, e := span.Has(l, []byte{1, 2}); is || e != api.ErrDim {
			t.Errorf("Has of rows of unlike lengths, %s: %v, error %d", what, is, e)
		}
	}
}

func TestNoRowsFitAny(t *testing.T) { // Errors, P8.1 to P8.3
	for _, none := range [][][]byte{nil, {}} {
		for columns := range 5 {
			for seed := range 4 {
				s := seeded(10*columns + seed)
				for _, l := range [][][]byte{nil, s.matrix(1, columns), s.matrix(3, columns), noughts(2, columns)} {
					isNought := plainRank(l) == 0
					contains(t, l, none, true)
					contains(t, none, l, isNought)
					same(t, l, none, isNought)
					equal(t, "Sum", sum(t, l, none), reduce(t, l))
					equal(t, "Sum", sum(t, none, l), reduce(t, l))
					equal(t, "Meet", meet(t, l, none), nil)
					equal(t, "Meet", meet(t, none, l), nil)
					witnessed(t, none, l, -1)
					witnessed(t, l, none, slices.IndexFunc(l, func(v []byte) bool { return !vector.IsZero(v) }))
				}
			}
			has(t, none, make([]byte, columns), true)
			for i := range columns {
				has(t, none, unit(columns, i), false)
			}
		}
	}
}

func TestRowsWithoutNumbersFitEachOther(t *testing.T) { // P8.1 to P8.3: they make all of their span, which is one vector
	for _, a := range [][][]byte{nil, {nil}, {{}, {}}, noughts(300, 0), {[]byte{1, 2}[:0]}} {
		for _, b := range [][][]byte{nil, {nil}, {{}, {}}, noughts(300, 0)} {
			contains(t, a, b, true)
			same(t, a, b, true)
			equal(t, "Sum", sum(t, a, b), nil)
			equal(t, "Meet", meet(t, a, b), nil)
			witnessed(t, a, b, -1)
		}
		has(t, a, nil, true)
		has(t, a, []byte{}, true)
	}
}

func TestHas(t *testing.T) { // P8.1
	for i, pair := range pairs() {
		l, columns := pair[0], len(slices.Concat(pair[0], pair[1], [][]byte{nil})[0])
		s := seeded(i)
		for _, row := range l {
			has(t, l, row, true)
			has(t, l, vector.Scale(row, s.factor()), true)
			has(t, l, vector.Scale(row, 0), true)
		}
		for range 3 {
			has(t, l, s.makes(l, columns), true)
			v := s.vector(columns)
			has(t, l, v, lies(l, v))
		}
		has(t, l, make([]byte, columns), true)
		for at := range min(columns, 9) {
			has(t, l, unit(columns, at), lies(l, unit(columns, at)))
		}
	}
}

func TestHasAtTheEdges(t *testing.T) { // P8.1
	for what, x := range map[string]struct {
		l    [][]byte
		v    []byte
		want bool
	}{
		"a row":                          {[][]byte{{1, 2, 3}, {0, 0, 9}}, []byte{1, 2, 3}, true},
		"the last row":                   {[][]byte{{1, 2, 3}, {0, 0, 9}}, []byte{0, 0, 9}, true},
		"a sum of rows":                  {[][]byte{{1, 2, 3}, {4, 5, 6}}, []byte{5, 7, 5}, true},
		"a row, but for its last number": {[][]byte{{1, 2, 3}, {4, 5, 6}}, []byte{1, 2, 2}, false},
		"something ahead of all leads":   {[][]byte{{0, 1, 0}, {0, 0, 1}}, []byte{1, 0, 0}, false},
		"something between leads":        {[][]byte{{1, 0, 0}, {0, 0, 1}}, []byte{1, 1, 1}, false},
		"something behind the lead":      {[][]byte{{1, 0, 0}}, []byte{1, 0, 1}, false},
		"nothing at any lead":            {[][]byte{{1, 0, 5}, {0, 1, 7}}, []byte{0, 0, 5}, false},
		"any, of all":                    {[][]byte{{0, 2}, {3, 0}}, []byte{0x53, 0xca}, true},
		"rows of noughts":                {noughts(3, 2), []byte{0, 1}, false},
		"noughts of rows of noughts":     {noughts(3, 2), []byte{0, 0}, true},
		"rows twice":                     {[][]byte{{3, 5}, {3, 5}, {3, 5}}, []byte{3, 4}, false},
		"rows twice, and one of them":    {[][]byte{{3, 5}, {3, 5}, {3, 5}}, []byte{3, 5}, true},
		"one number":                     {[][]byte{{0x53}}, []byte{1}, true},
		"one number, 0":                  {[][]byte{{0}}, []byte{1}, false},
	} {
		if is, e := span.Has(x.l, x.v); is != x.want || e != api.OK {
			t.Errorf("%s: %v, error %d, not %v", what, is, e, x.want)
		}
	}
}

func TestHasOfEveryVector(t *testing.T) { // P8.1: all of two numbers
	for _, row := range [][]byte{{1, 2}, {0, 7}, {0x53, 0}, {0xff, 0xfe}, {0, 0}} {
		made := map[[2]byte]struct{}{}
		for c := range 256 {
			made[[2]byte{field.Mul(byte(c), row[0]), field.Mul(byte(c), row[1])}] = struct{}{}
		}
		for x := range 256 {
			for y := range 256 {
				_, want := made[[2]byte{byte(x), byte(y)}]
				has(t, [][]byte{row}, []byte{byte(x), byte(y)}, want)
			}
		}
	}
}

func TestContains(t *testing.T) { // P8.1
	for _, pair := range pairs() {
		a, b := pair[0], pair[1]
		forth, back := lie(a, b), lie(b, a)
		contains(t, a, b, forth)
		contains(t, b, a, back)
		same(t, a, b, forth && back)
		all := true
		for _, row := range b {
			is, _ := span.Has(a, row)
			all = all && is
		}
		contains(t, a, b, all)
	}
}

func TestContainsAtTheEdges(t *testing.T) { // P8.1
	plane, line := [][]byte{{1, 0, 2}, {0, 1, 3}}, [][]byte{{1, 1, 1}}
	contains(t, plane, line, true)
	contains(t, line, plane, false)
	contains(t, plane, together(line, noughts(2, 3), line), true)
	contains(t, plane, together(line, [][]byte{{0, 0, 1}}), false)
	contains(t, plane, together([][]byte{{0, 0, 1}}, line), false)
	contains(t, noughts(4, 3), line, false)
	contains(t, line, noughts(4, 3), true)
	same(t, plane, [][]byte{{1, 1, 1}, {1, 0, 2}}, true)
	same(t, plane, [][]byte{{2, 0, 4}, {2, 0, 4}, {0, 0, 0}, {1, 1, 1}}, true)
	same(t, plane, [][]byte{{1, 1, 1}, {1, 0, 3}}, false)
	same(t, plane, line, false)
	same(t, noughts(4, 3), noughts(1, 3), true)
	same(t, noughts(4, 3), line, false)
}

func TestSameSpansOfUnlikeRows(t *testing.T) { // P8.1
	for columns := 1; columns < 12; columns++ {
		for rows := 1; rows < 9; rows++ {
			s := seeded(100*columns + rows)
			m := s.matrix(rows, columns)
			same(t, m, s.mixed(m), true)
			same(t, m, reduce(t, m), true)
			same(t, s.mixed(m), together(m, m, noughts(3, columns)), true)
			same(t, s.mixed(m), together(m, [][]byte{s.makes(m, columns)}), true)
			v := s.vector(columns)
			same(t, s.mixed(m), together(m, [][]byte{v}), lies(m, v))
		}
	}
}

// spread puts columns in that no row has: so many numbers, 0 but at the places.
func spread(m [][]byte, places []int, columns int) [][]byte {
	wide := noughts(len(m), columns)
	for r, row := range m {
		for i, x := range row {
			wide[r][places[i]] = x
		}
	}
	return wide
}

func (s *some) places(n, columns int) []int {
	var l []int
	for i := range columns {
		if s.below(columns-i) < n-len(l) {
			l = append(l, i)
		}
	}
	return l
}

func TestSumAndMeetOfPickedRows(t *testing.T) { // P8.2: of rows that none of the others make, those that both have are what both spans have
	for _, n := range []int{1, 2, 3, 5, 8, 20} {
		for seed := range 40 {
			s := seeded(100*n + seed)
			columns := n + s.below(4)
			m := spread(s.regular(n), s.places(n, columns), columns)
			if plainRank(m) != n {
				t.Fatalf("rows that make each other: %x", m)
			}
			var a, b, both, either [][]byte
			for _, row := range m {
				picks := s.below(4)
				if picks&1 != 0 {
					a = append(a, row)
				}
				if picks&2 != 0 {
					b = append(b, row)
				}
				if picks == 3 {
					both = append(both, row)
				}
				if picks != 0 {
					either = append(either, row)
				}
			}
			a, b = s.mixed(a), s.mixed(b)
			equal(t, "Sum", sum(t, a, b), reduce(t, either))
			equal(t, "Sum", sum(t, b, a), reduce(t, either))
			equal(t, "Meet", meet(t, a, b), reduce(t, both))
			equal(t, "Meet", meet(t, b, a), reduce(t, both))
		}
	}
}

func TestSumAndMeet(t *testing.T) { // P8.2, P8.4
	for i, pair := range pairs() {
		a, b := pair[0], pair[1]
		union, common := sum(t, a, b), meet(t, a, b)
		if !isReduced(union) || !isReduced(common) {
			t.Fatalf("not reduced: Sum %.60x, Meet %.60x", union, common)
		}
		if !lie(union, together(a, b)) || !lie(together(a, b), union) {
			t.Fatalf("Sum of %.60x and %.60x has another span: %.60x", a, b, union)
		}
		if !lie(a, common) || !lie(b, common) {
			t.Fatalf("Meet of %.60x and %.60x does not lie in both: %.60x", a, b, common)
		}
		if len(union)+len(common) != plainRank(a)+plainRank(b) {
			t.Fatalf("Sum and Meet of %.60x and %.60x: %d and %d rows", a, b, len(union), len(common))
		}
		drawn(t, seeded(i), a, b, union, common)
		equal(t, "Sum, the other way round", sum(t, b, a), union)
		equal(t, "Meet, the other way round", meet(t, b, a), common)
	}
}

// drawn holds vectors of all four spans against Sum and Meet.
func drawn(t *testing.T, s *some, a, b, union, common [][]byte) {
	t.Helper()
	columns := len(slices.Concat(a, b, [][]byte{nil})[0])
	for range 3 {
		ofA, ofB := s.makes(a, columns), s.makes(b, columns)
		has(t, common, ofA, lies(b, ofA))
		has(t, common, ofB, lies(a, ofB))
		has(t, a, s.makes(common, columns), true)
		has(t, b, s.makes(common, columns), true)
		has(t, union, ofA, true)
		has(t, union, ofB, true)
		addTo(ofA, ofB, 1)
		has(t, union, ofA, true)
		v := s.vector(columns)
		has(t, union, v, lies(together(a, b), v))
		has(t, common, v, lies(a, v) && lies(b, v))
	}
}

func TestSumAndMeetAtTheEdges(t *testing.T) { // P8.2
	for what, x := range map[string]struct{ a, b, sum, meet [][]byte }{
		"nothing in common":       {[][]byte{{1, 0, 0}}, [][]byte{{0, 2, 0}}, [][]byte{{1, 0, 0}, {0, 1, 0}}, nil},
		"all, and nothing common": {[][]byte{{1, 1}}, [][]byte{{1, 2}}, [][]byte{{1, 0}, {0, 1}}, nil},
		"one inside the other":    {[][]byte{{0, 2, 4}, {3, 0, 0}}, [][]byte{{3, 2, 4}}, [][]byte{{1, 0, 0}, {0, 1, 2}}, [][]byte{{1, field.Mul(2, 0xf6), field.Mul(4, 0xf6)}}},
		"the same rows":           {[][]byte{{2, 4}}, [][]byte{{2, 4}}, [][]byte{{1, 2}}, [][]byte{{1, 2}}},
		"rows twice":              {[][]byte{{2, 4}, {2, 4}}, [][]byte{{3, 6}, {3, 6}}, [][]byte{{1, 2}}, [][]byte{{1, 2}}},
		"a row of neither":        {[][]byte{{1, 0, 0, 0}, {0, 1, 0, 0}}, [][]byte{{1, 1, 0, 0}, {0, 0, 0, 1}}, [][]byte{{1, 0, 0, 0}, {0, 1, 0, 0}, {0, 0, 0, 1}}, [][]byte{{1, 1, 0, 0}}},
		"no first column":         {[][]byte{{0, 0, 5}, {0, 7, 0}}, [][]byte{{0, 1, 1}}, [][]byte{{0, 1, 0}, {0, 0, 1}}, [][]byte{{0, 1, 1}}},
		"no last column":          {[][]byte{{5, 0, 0}}, [][]byte{{9, 0, 0}, {0, 9, 0}}, [][]byte{{1, 0, 0}, {0, 1, 0}}, [][]byte{{1, 0, 0}}},
		"noughts of one":          {noughts(3, 2), [][]byte{{0, 3}}, [][]byte{{0, 1}}, nil},
		"noughts of both":         {noughts(3, 2), noughts(1, 2), nil, nil},
		"noughts among rows":      {[][]byte{{0, 0}, {0, 3}, {0, 0}}, [][]byte{{0, 0}, {0, 4}}, [][]byte{{0, 1}}, [][]byte{{0, 1}}},
		"one number":              {[][]byte{{0x53}}, [][]byte{{2}}, [][]byte{{1}}, [][]byte{{1}}},
		"one number, and 0":       {[][]byte{{0x53}}, [][]byte{{0}}, [][]byte{{1}}, nil},
		"two planes":              {[][]byte{{1, 0, 1}, {0, 1, 1}}, [][]byte{{1, 0, 2}, {0, 1, 2}}, [][]byte{{1, 0, 0}, {0, 1, 0}, {0, 0, 1}}, [][]byte{{1, 1, 0}}},
	} {
		equal(t, "Sum: "+what, sum(t, x.a, x.b), x.sum)
		equal(t, "Sum, the other way round: "+what, sum(t, x.b, x.a), x.sum)
		equal(t, "Meet: "+what, meet(t, x.a, x.b), x.meet)
		equal(t, "Meet, the other way round: "+what, meet(t, x.b, x.a), x.meet)
	}
}

// made is all that two rows of three numbers make.
func made(m [][]byte) map[[3]byte]struct{} {
	two := together(m, noughts(2, 3))[:2]
	all := map[[3]byte]struct{}{}
	for c := range 256 {
		for d := range 256 {
			var v [3]byte
			addTo(v[:], two[0], byte(c))
			addTo(v[:], two[1], byte(d))
			all[v] = struct{}{}
		}
	}
	return all
}

func TestSumAndMeetOneByOne(t *testing.T) { // P8.2: all that few rows make
	lists := [][][]byte{
		nil, {{0, 0, 0}}, {{1, 2, 3}}, {{0, 2, 3}}, {{1, 2, 3}, {0, 2, 3}}, {{1, 0, 0}, {7, 2, 3}},
		{{1, 0, 0}, {0, 0, 9}}, {{2, 4, 6}, {1, 2, 3}}, {{0, 0, 8}, {0, 9, 0}},
	}
	vectors := make([]map[[3]byte]struct{}, len(lists))
	for i, l := range lists {
		vectors[i] = made(l)
	}
	for i, a := range lists {
		for k, b := range lists {
			common := maps.Clone(vectors[i])
			maps.DeleteFunc(common, func(v [3]byte, _ struct{}) bool {
				_, ok := vectors[k][v]
				return !ok
			})
			if !maps.Equal(made(meet(t, a, b)), common) {
				t.Fatalf("Meet of %x and %x: %x", a, b, meet(t, a, b))
			}
			if len(a)+len(b) <= 2 && !maps.Equal(made(sum(t, a, b)), made(together(a, b))) {
				t.Fatalf("Sum of %x and %x: %x", a, b, sum(t, a, b))
			}
		}
	}
}

func TestGreatSpans(t *testing.T) { // P8.1 to P8.3
	m := noughts(255, 255)
	for i := range m {
		m[i][254-i] = 1
		m[i][(254-i+100)%255] = 9
	}
	a, b := m[:200], m[100:]
	equal(t, "Sum", sum(t, a, b), reduce(t, m))
	equal(t, "Meet", meet(t, a, b), reduce(t, m[100:200]))
	contains(t, m, a, true)
	contains(t, a, m, false)
	witnessed(t, m, a, 200)
	witnessed(t, a, m, -1)
}

func TestWitness(t *testing.T) { // P8.3, P8.6
	for i, pair := range pairs() {
		own, other := pair[0], pair[1]
		want := slices.IndexFunc(own, func(row []byte) bool { return !lies(other, row) })
		witnessed(t, own, other, want)
		if want < 0 {
			s := seeded(i)
			for range 3 * min(len(own), 1) {
				v, _ := vector.Combine(own, s.vector(len(own)))
				has(t, other, v, true)
			}
			contains(t, other, own, true)
			continue
		}
		contains(t, other, own, false)
		draw, _, _ := span.Witness(own, other)
		v, e := vector.Combine(own, draw)
		if e != api.OK {
			t.Fatalf("Combine of %.60x: error %d", draw, e)
		}
		has(t, own, v, true)
		has(t, other, v, false)
		if plainRank(together(other, [][]byte{v})) != plainRank(other)+1 {
			t.Fatalf("the rank of %.60x does not grow by %.60x", other, v)
		}
	}
}

func TestWitnessAtTheEdges(t *testing.T) { // P8.3
	one, two := []byte{1, 0, 0}, []byte{0, 1, 0}
	witnessed(t, [][]byte{one}, [][]byte{two}, 0)
	witnessed(t, [][]byte{one}, [][]byte{one}, -1)
	witnessed(t, [][]byte{one, two}, [][]byte{two}, 0)
	witnessed(t, [][]byte{two, one}, [][]byte{two}, 1)
	witnessed(t, [][]byte{two, two, one, one}, [][]byte{two}, 2)
	witnessed(t, [][]byte{{0, 0, 0}, two, {0, 0, 0}, {0, 5, 6}}, [][]byte{two}, 3)
	witnessed(t, noughts(3, 3), [][]byte{two}, -1)
	witnessed(t, noughts(3, 3), noughts(1, 3), -1)
	witnessed(t, noughts(3, 3), nil, -1)
	witnessed(t, [][]byte{{0, 0, 0}, two}, nil, 1)
	witnessed(t, [][]byte{{0, 0, 0}, two}, noughts(9, 3), 1)
	witnessed(t, nil, [][]byte{one}, -1)
	witnessed(t, nil, nil, -1)
	witnessed(t, [][]byte{{1, 1, 0}, {1, 1, 1}}, [][]byte{two, one}, 1)
}

func TestWitnessOfManyRows(t *testing.T) { // P8.3: of more than api.MaxG, and than api.MaxFrame
	for _, n := range []int{255, 256, 300, 70000, 70001, 80000} {
		own := noughts(n, 1)
		witnessed(t, own, nil, -1)
		own[n-1][0] = 7
		witnessed(t, own, nil, n-1)
		witnessed(t, own, [][]byte{{3}}, -1)
		own[n/2][0] = 1
		witnessed(t, own, noughts(1, 1), n/2)
	}
}

// spans are lists of rows of three numbers, some with one span.
func spans() [][][]byte {
	s := seeded(3)
	all := [][][]byte{nil, noughts(2, 3), {{1, 0, 0}, {0, 1, 0}, {0, 0, 1}}}
	for _, m := range [][][]byte{
		{{1, 0, 0}}, {{0, 1, 0}}, {{0, 0, 1}}, {{1, 1, 0}}, {{1, 2, 3}}, {{1, 0, 0}, {0, 1, 0}}, {{1, 0, 0}, {0, 0, 1}}, {{1, 2, 3}, {0, 1, 0}}, {{1, 2, 0}, {0, 0, 1}},
	} {
		all = append(all, m, s.mixed(m))
	}
	return append(all, s.regular(3))
}

func TestOrderOfSpans(t *testing.T) { // P8.5
	all := spans()
	for _, a := range all {
		contains(t, a, a, true)
		for _, b := range all {
			both := contained(t, a, b) && contained(t, b, a)
			same(t, a, b, both)
			if both != slices.EqualFunc(reduce(t, a), reduce(t, b), bytes.Equal) {
				t.Fatalf("%x and %x contain each other: %v", a, b, both)
			}
			union, common := sum(t, a, b), meet(t, a, b)
			contains(t, union, a, true)
			contains(t, union, b, true)
			contains(t, a, common, true)
			contains(t, b, common, true)
			for _, c := range all {
				if contained(t, a, b) && contained(t, b, c) {
					contains(t, a, c, true)
				}
				contains(t, c, union, contained(t, c, a) && contained(t, c, b))
				contains(t, common, c, contained(t, a, c) && contained(t, b, c))
			}
		}
	}
}

func TestWhereOneContainsTheOther(t *testing.T) { // P8.5
	lists := append(pairs(), [2][][]byte{seeded(1).regular(9), seeded(2).matrix(4, 9)})
	for _, a := range spans() {
		for _, b := range spans() {
			lists = append(lists, [2][][]byte{a, b})
		}
	}
	count := 0
	for _, pair := range lists {
		for _, x := range [][2][][]byte{pair, {pair[1], pair[0]}} {
			if contained(t, x[0], x[1]) {
				count++
				equal(t, "Sum", sum(t, x[0], x[1]), reduce(t, x[0]))
				equal(t, "Meet", meet(t, x[0], x[1]), reduce(t, x[1]))
			}
		}
	}
	if count < 300 {
		t.Errorf("only %d pairs of which one contains the other", count)
	}
}

func TestWhatADrawMakes(t *testing.T) { // P8.6
	for i, pair := range pairs() {
		s, l := seeded(i), pair[0]
		for range 3 * min(len(l), 1) {
			v, e := vector.Combine(l, s.vector(len(l)))
			if e != api.OK {
				t.Fatalf("Combine of %.60x: error %d", l, e)
			}
			has(t, l, v, true)
			has(t, sum(t, l, pair[1]), v, true)
		}
	}
}

// calls are all, each with what it tells as rows.
var calls = map[string]func(a, b [][]byte) ([][]byte, api.Errno){
	"Sum":  span.Sum,
	"Meet": span.Meet,
	"Witness": func(a, b [][]byte) ([][]byte, api.Errno) {
		draw, ok, e := span.Witness(a, b)
		return [][]byte{draw, yes(ok)}, e
	},
	"Contains": func(a, b [][]byte) ([][]byte, api.Errno) {
		is, e := span.Contains(a, b)
		return [][]byte{yes(is)}, e
	},
	"Same": func(a, b [][]byte) ([][]byte, api.Errno) {
		is, e := span.Same(a, b)
		return [][]byte{yes(is)}, e
	},
	"Has": func(a, b [][]byte) ([][]byte, api.Errno) {
		if len(b) == 0 {
			return nil, api.OK
		}
		is, e := span.Has(a, b[0])
		return [][]byte{yes(is)}, e
	},
}

// yes is a byte of 1 for true, none for false.
func yes(is bool) []byte {
	if is {
		return []byte{1}
	}
	return nil
}

// sharing are pairs of lists of all sorts: reduced ones, such as might be told as they are, are among them.
func sharing() [][2][][]byte {
	all := [][2][][]byte{
		{nil, nil}, {{{1, 0}, {0, 1}}, nil}, {nil, {{1, 0}, {0, 1}}}, {{{1, 0}, {0, 1}}, {{1, 0}, {0, 1}}}, {{{1, 0, 0}}, {{0, 1, 2}}},
		{{{1, 0, 0}, {0, 1, 0}}, {{0, 1, 0}, {0, 0, 1}}}, {{{1}}, {{1}}}, {noughts(2, 2), noughts(2, 2)}, {{{1, 2}, {1}}, {{1, 2}}}, {{{1}}, {{1, 2}}},
	}
	for _, n := range []int{1, 2, 5, 9} {
		s := seeded(n)
		a := s.matrix(n, n+1)
		all = append(all, [2][][]byte{a, s.mixed(a)}, [2][][]byte{a, s.matrix(n, n+1)}, [2][][]byte{s.mixed(a), a[:1]})
	}
	return all
}

// roomy is m with its rows one behind the other in one piece of memory, room behind them, and room behind the list.
func roomy(m [][]byte) ([][]byte, []byte) {
	piece := append(bytes.Join(m, nil), bytes.Repeat([]byte{0xa5}, 9)...)
	l, at := make([][]byte, len(m), len(m)+3), 0
	for i := range m {
		l[i] = piece[at : at+len(m[i])]
		at += len(m[i])
	}
	return l, piece
}

// wipe turns each byte of a row, and of the room behind it, into another one.
func wipe(b []byte) {
	for i := range b[:cap(b)] {
		b[:cap(b)][i] ^= 0xff
	}
}

func TestGivenStays(t *testing.T) { // R3
	for _, pair := range sharing() {
		a, pieceA := roomy(pair[0])
		b, pieceB := roomy(pair[1])
		keptA, keptB := bytes.Clone(pieceA), bytes.Clone(pieceB)
		for name, call := range calls {
			call(a, b)
			call(b, a)
			equal(t, name+": given", a, pair[0])
			equal(t, name+": given", b, pair[1])
			if !bytes.Equal(pieceA, keptA) || !bytes.Equal(pieceB, keptB) {
				t.Fatalf("%s: what lies behind a row was written to", name)
			}
			for _, row := range slices.Concat(a[len(a):cap(a)], b[len(b):cap(b)]) {
				if row != nil {
					t.Fatalf("%s: what lies behind a list was written to", name)
				}
			}
		}
	}
}

func TestToldIsNew(t *testing.T) { // R3
	for _, pair := range sharing() {
		for name, call := range calls {
			a, b := clone(pair[0]), clone(pair[1])
			told, _ := call(a, b)
			want := clone(told)
			for _, row := range slices.Concat(a, b) {
				wipe(row)
			}
			clear(a)
			clear(b)
			equal(t, name+": told, and the given written to", told, want)
			for i, row := range told {
				wipe(row)
				told[i] = want[i]
				equal(t, name+": told, and one row of it written to", told, want)
			}
		}
	}
}

func TestGivenStaysWhenToldIsWrittenTo(t *testing.T) { // R3
	for _, pair := range sharing() {
		for name, call := range calls {
			a, b := clone(pair[0]), clone(pair[1])
			told, e := call(a, b)
			want := clone(told)
			for _, row := range told {
				wipe(row)
			}
			clear(told[:cap(told)])
			equal(t, name+": given", a, pair[0])
			equal(t, name+": given", b, pair[1])
			again, f := call(a, b)
			equal(t, name+": told again", again, want)
			if e != f {
				t.Fatalf("%s: error %d, then %d", name, e, f)
			}
		}
	}
}

func TestRowsThatShare(t *testing.T) { // R3: one row given several times, rows that lie over each other, a list with itself
	piece := []byte{1, 2, 3, 4, 5, 6, 7, 9}
	over, other := [][]byte{piece[0:3], piece[1:4], piece[0:3]}, [][]byte{piece[4:7], piece[2:5]}
	for name, call := range calls {
		for _, x := range [][2][][]byte{{over, other}, {other, over}, {over, over}, {over[:2], over[1:]}} {
			got, e := call(x[0], x[1])
			want, f := call(clone(x[0]), clone(x[1]))
			equal(t, name, got, want)
			if e != f {
				t.Fatalf("%s: error %d, not %d", name, e, f)
			}
		}
	}
	equal(t, "given", [][]byte{piece}, [][]byte{{1, 2, 3, 4, 5, 6, 7, 9}})
	equal(t, "Meet with itself", meet(t, over, over), reduce(t, over))
}

func TestWhateverRunsBeside(t *testing.T) { // R7
	s := seeded(1)
	a, b := s.matrix(12, 20), s.matrix(12, 20)
	want := meet(t, a, b)
	answers := make(chan [][]byte)
	for range 8 {
		go func() {
			got, _ := span.Meet(a, b)
			span.Sum(a, b)
			span.Witness(a, b)
			answers <- got
		}()
	}
	for range 8 {
		equal(t, "Meet", <-answers, want)
	}
}
