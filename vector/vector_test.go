package vector_test

import (
	"bytes"
	"math"
	"slices"
	"testing"

	"braidwork/api"
	"braidwork/vector"
)

// product is worked out by the words of chapter 1 alone, so that the answers can be held against it:
// the product of the polynomials, less multiples of 11b, from the highest one down.
func product(a, b byte) byte {
	p := 0
	for i := range 8 {
		if b>>i&1 == 1 {
			p ^= int(a) << i
		}
	}
	for i := 14; i >= 8; i-- {
		if p>>i&1 == 1 {
			p ^= 0x11b << (i - 8)
		}
	}
	return byte(p)
}

// lengths are those of which vectors are tried.
var lengths = []int{0, 1, 2, 3, 15, 16, 17, 255, 256, 1000}

// factors are nought, one, and others of all sorts.
var factors = []byte{0, 1, 2, 3, 0x0f, 0x10, 0x53, 0x80, 0xf0, 0xff}

// sample is a vector of n numbers, other ones for another seed; some of them are 0.
func sample(n, seed int) []byte {
	a := make([]byte, n)
	x := uint32(seed)*2654435761 + 12345
	for i := range a {
		x = x*1664525 + 1013904223
		if x>>28 != 0 {
			a[i] = byte(x >> 20)
		}
	}
	return a
}

// plain is the sum of a and of c times b, number by number.
func plain(a, b []byte, c byte) []byte {
	sum := make([]byte, len(a))
	for i := range a {
		sum[i] = a[i] ^ product(b[i], c)
	}
	return sum
}

// plainDot is the sum of the products of a's and b's numbers.
func plainDot(a, b []byte) byte {
	sum := byte(0)
	for i := range a {
		sum ^= product(a[i], b[i])
	}
	return sum
}

// plainCombine is the sum of the rows, each multiplied with its number in c.
func plainCombine(rows [][]byte, c []byte) []byte {
	sum := make([]byte, len(rows[0]))
	for i, row := range rows {
		sum = plain(sum, row, c[i])
	}
	return sum
}

// table is some rows of n numbers.
func table(rows, n, seed int) [][]byte {
	t := make([][]byte, rows)
	for i := range t {
		t[i] = sample(n, seed+i)
	}
	return t
}

// cloneTable is a table that shares nothing with the other one.
func cloneTable(rows [][]byte) [][]byte {
	t := make([][]byte, len(rows))
	for i := range t {
		t[i] = bytes.Clone(rows[i])
	}
	return t
}

func sameTable(a, b [][]byte) bool { return slices.EqualFunc(a, b, bytes.Equal) }

// must is for calls that have to go well.
func must(t *testing.T, a []byte, e api.Errno) []byte {
	t.Helper()
	if e != api.OK {
		t.Fatalf("error %d", e)
	}
	return a
}

func add(t *testing.T, a, b []byte) []byte {
	t.Helper()
	sum, e := vector.Add(a, b)
	return must(t, sum, e)
}

func combine(t *testing.T, rows [][]byte, c []byte) []byte {
	t.Helper()
	sum, e := vector.Combine(rows, c)
	return must(t, sum, e)
}

func dot(t *testing.T, a, b []byte) byte {
	t.Helper()
	x, e := vector.Dot(a, b)
	if e != api.OK {
		t.Fatalf("error %d", e)
	}
	return x
}

func unit(t *testing.T, n, i int) []byte {
	t.Helper()
	a, e := vector.Unit(n, i)
	return must(t, a, e)
}

func equal(t *testing.T, what string, got, want []byte) {
	t.Helper()
	if !bytes.Equal(got, want) {
		t.Errorf("%s: %x, not %x", what, got, want)
	}
}

func TestExamples(t *testing.T) { // P2.1, P2.2, P2.3
	equal(t, "Add", add(t, []byte{1, 2, 3}, []byte{1, 1, 1}), []byte{0, 3, 2})
	if a, e := vector.Add([]byte{1, 2}, []byte{1}); a != nil || e != api.ErrDim {
		t.Error("Add:", a, e)
	}
	equal(t, "Scale", vector.Scale([]byte{1, 2, 0xff}, 2), []byte{2, 4, 0xe5})
	if x := dot(t, []byte{2, 3}, []byte{4, 1}); x != 0xb {
		t.Error("Dot:", x)
	}
	if x := dot(t, nil, nil); x != 0 {
		t.Error("Dot of none:", x)
	}
	equal(t, "Combine", combine(t, [][]byte{{1, 0}, {0, 1}}, []byte{5, 7}), []byte{5, 7})
	if vector.Lead([]byte{0, 0, 9}) != 2 || vector.Lead([]byte{0, 0}) != -1 || vector.Lead(nil) != -1 {
		t.Error("Lead")
	}
}

func TestSumsAndProducts(t *testing.T) { // P2.1
	for _, n := range lengths {
		a, b := sample(n, 1), sample(n, 2)
		sum := add(t, a, b)
		equal(t, "Add", sum, plain(a, b, 1))
		if x := dot(t, a, b); x != plainDot(a, b) {
			t.Errorf("Dot of %d: %x", n, x)
		}
		for _, c := range factors {
			equal(t, "Scale", vector.Scale(a, c), plain(make([]byte, n), a, c))
			s, e := vector.AddScaled(a, b, c)
			equal(t, "AddScaled", must(t, s, e), plain(a, b, c))
		}
		equal(t, "Scale by 0", vector.Scale(a, 0), make([]byte, n))
		equal(t, "Scale by 1", vector.Scale(a, 1), a)
	}
}

func TestEveryProduct(t *testing.T) { // P2.1
	all := make([]byte, 256)
	for i := range all {
		all[i] = byte(i)
	}
	for c := range 256 {
		want := plain(make([]byte, 256), all, byte(c))
		equal(t, "Scale", vector.Scale(all, byte(c)), want)
		s, e := vector.AddScaled(make([]byte, 256), all, byte(c))
		equal(t, "AddScaled", must(t, s, e), want)
		equal(t, "Combine", combine(t, [][]byte{all}, []byte{byte(c)}), want)
		for i := range all {
			if x := dot(t, []byte{byte(c)}, all[i:i+1]); x != want[i] {
				t.Fatalf("Dot of %x and %x: %x", c, i, x)
			}
		}
	}
}

func TestEmptyAndNilAreOne(t *testing.T) { // P2.1, P2.2, R4
	for _, a := range [][]byte{nil, {}} {
		for _, b := range [][]byte{nil, {}} {
			if s, e := vector.Add(a, b); len(s) != 0 || e != api.OK {
				t.Error("Add:", s, e)
			}
			if s, e := vector.AddScaled(a, b, 9); len(s) != 0 || e != api.OK {
				t.Error("AddScaled:", s, e)
			}
			if x, e := vector.Dot(a, b); x != 0 || e != api.OK {
				t.Error("Dot:", x, e)
			}
			if s, e := vector.Combine([][]byte{a, b}, []byte{1, 2}); len(s) != 0 || e != api.OK {
				t.Error("Combine:", s, e)
			}
		}
		if s := vector.Scale(a, 9); len(s) != 0 {
			t.Error("Scale:", s)
		}
		if vector.Lead(a) != -1 || !vector.IsZero(a) {
			t.Error("Lead or IsZero of none")
		}
	}
}

func TestWhatDoesNotFit(t *testing.T) { // P2.1
	for _, n := range lengths {
		for _, m := range lengths {
			if n == m {
				continue
			}
			a, b := sample(n, 1), sample(m, 2)
			if s, e := vector.Add(a, b); s != nil || e != api.ErrDim {
				t.Error("Add:", n, m, s, e)
			}
			for _, c := range factors {
				if s, e := vector.AddScaled(a, b, c); s != nil || e != api.ErrDim {
					t.Error("AddScaled:", n, m, c, s, e)
				}
			}
			if x, e := vector.Dot(a, b); x != 0 || e != api.ErrDim {
				t.Error("Dot:", n, m, x, e)
			}
		}
	}
}

func TestGivenStaysAndToldIsNew(t *testing.T) { // P2.1, R3
	for _, n := range lengths {
		for _, c := range factors {
			a, b := sample(n, 1), sample(n, 2)
			keptA, keptB := bytes.Clone(a), bytes.Clone(b)
			scaled := vector.Scale(a, c)
			sum := add(t, a, b)
			both, e := vector.AddScaled(a, b, c)
			must(t, both, e)
			dot(t, a, b)
			equal(t, "given", a, keptA)
			equal(t, "given", b, keptB)
			told := [][]byte{scaled, sum, both}
			wants := cloneTable(told)
			wipe(a)
			wipe(b)
			if !sameTable(told, wants) {
				t.Error("what was told hangs on what was given", n, c)
			}
			copy(a, keptA)
			copy(b, keptB)
			for _, x := range told {
				wipe(x[:cap(x)])
			}
			equal(t, "given, behind the answer was written to", a, keptA)
			equal(t, "given, behind the answer was written to", b, keptB)
		}
	}
}

// wipe turns each number into another one.
func wipe(a []byte) {
	for i := range a {
		a[i] ^= 0xff
	}
}

func TestOneVectorGivenTwice(t *testing.T) { // P2.1, P2.2
	a := sample(20, 3)
	kept := bytes.Clone(a)
	s, e := vector.AddScaled(a, a, 2)
	equal(t, "AddScaled", must(t, s, e), plain(kept, kept, 2))
	equal(t, "Combine", combine(t, [][]byte{a, a}, []byte{5, 4}), kept)
	equal(t, "given", a, kept)
}

func TestCombine(t *testing.T) { // P2.2
	for _, rows := range []int{1, 2, 3, 16, api.MaxG} {
		for _, n := range []int{0, 1, 2, 17, 255} {
			for _, c := range [][]byte{sample(rows, 50), make([]byte, rows), bytes.Repeat([]byte{1}, rows), bytes.Repeat([]byte{0xff, 0}, rows)[:rows]} {
				given, numbers := table(rows, n, 60), bytes.Clone(c)
				kept := cloneTable(given)
				sum := combine(t, given, numbers)
				want := plainCombine(kept, c)
				equal(t, "Combine", sum, want)
				if !sameTable(given, kept) || !bytes.Equal(numbers, c) {
					t.Error("what was given has changed", rows, n)
				}
				for _, row := range given {
					wipe(row)
				}
				wipe(numbers)
				equal(t, "Combine, behind the rows were written to", sum, want)
				for _, row := range given {
					wipe(row)
				}
				wipe(sum[:cap(sum)])
				if !sameTable(given, kept) {
					t.Error("the answer shares what was given", rows, n)
				}
			}
		}
	}
}

func TestCombineOfNoughts(t *testing.T) { // P2.2
	equal(t, "noughts", combine(t, table(4, 9, 1), make([]byte, 4)), make([]byte, 9))
	rows := table(3, 9, 1)
	equal(t, "the middle one alone", combine(t, rows, []byte{0, 1, 0}), rows[1])
	equal(t, "none of the middle one", combine(t, rows, []byte{1, 0, 1}), plain(rows[0], rows[2], 1))
}

func TestWrongCombine(t *testing.T) { // P2.2
	for _, c := range [][]byte{nil, {}, {1}, {1, 2}} {
		for _, rows := range [][][]byte{nil, {}} {
			if s, e := vector.Combine(rows, c); s != nil || e != api.ErrArg {
				t.Error("of no rows:", c, s, e)
			}
		}
	}
	for name, x := range map[string]struct {
		rows [][]byte
		c    []byte
	}{
		"no numbers":              {[][]byte{{1}}, nil},
		"one number short":        {[][]byte{{1}, {2}}, []byte{1}},
		"one number more":         {[][]byte{{1}, {2}}, []byte{1, 2, 3}},
		"one more of empty rows":  {[][]byte{{}, {}}, []byte{1, 2, 3}},
		"as many as columns":      {[][]byte{{1, 2, 3}, {4, 5, 6}}, []byte{1, 2, 3}},
		"the last row is longer":  {[][]byte{{1}, {2}, {3, 4}}, []byte{1, 2, 3}},
		"the last row is shorter": {[][]byte{{1, 2}, {2, 3}, {3}}, []byte{1, 2, 3}},
		"the first row is none":   {[][]byte{nil, {2}}, []byte{1, 2}},
		"a later row is none":     {[][]byte{{2}, nil}, []byte{1, 2}},
		"the middle row, by 0":    {[][]byte{{1, 2}, {3}, {4, 5}}, []byte{1, 0, 1}},
		"all by 0":                {[][]byte{{1, 2}, {3}}, []byte{0, 0}},
	} {
		if s, e := vector.Combine(x.rows, x.c); s != nil || e != api.ErrDim {
			t.Error(name, s, e)
		}
	}
}

func TestLead(t *testing.T) { // P2.3
	for _, n := range []int{1, 2, 8, 255, 1000} {
		noughts := make([]byte, n)
		if vector.Lead(noughts) != -1 || !vector.IsZero(noughts) {
			t.Error("noughts", n)
		}
		for _, i := range []int{0, n / 2, n - 1} {
			for _, x := range []byte{1, 2, 0x7f, 0x80, 0xff} {
				a := make([]byte, n)
				a[n-1] = 1
				a[i] = x
				kept := bytes.Clone(a)
				if vector.Lead(a) != i || vector.IsZero(a) {
					t.Error("Lead or IsZero", n, i, x, vector.Lead(a))
				}
				equal(t, "given", a, kept)
			}
		}
	}
}

func TestUnit(t *testing.T) { // P2.3
	for _, n := range []int{1, 2, 3, 255, 256, api.MaxFrame - 1, api.MaxFrame} {
		for _, i := range []int{0, n / 2, n - 1} {
			want := make([]byte, n)
			want[i] = 1
			if !bytes.Equal(unit(t, n, i), want) {
				t.Error("Unit", n, i)
			}
		}
	}
	for n := range 9 {
		for i := range n {
			if a := unit(t, n, i); len(a) != n || vector.Lead(a) != i || a[i] != 1 {
				t.Error("Unit", n, i, a)
			}
		}
	}
}

func TestWrongUnit(t *testing.T) { // P2.3
	for _, x := range [][2]int{
		{-1, 0}, {-1, -1}, {-1, -2}, {math.MinInt, 0}, {math.MinInt, math.MinInt},
		{0, 0}, {0, -1}, {0, 1},
		{1, -1}, {1, 1}, {5, -1}, {5, 5}, {5, 6}, {5, math.MaxInt}, {5, math.MinInt},
		{api.MaxFrame, api.MaxFrame}, {api.MaxFrame, -1},
		{api.MaxFrame + 1, 0}, {api.MaxFrame + 1, api.MaxFrame}, {math.MaxInt, 0}, {math.MaxInt, math.MaxInt - 1},
	} {
		if a, e := vector.Unit(x[0], x[1]); a != nil || e != api.ErrArg {
			t.Error("Unit", x, len(a), e)
		}
	}
}

func TestUnitsAreApart(t *testing.T) { // P2.3, R3
	a := unit(t, 4, 2)
	wipe(a)
	equal(t, "another unit", unit(t, 4, 2), []byte{0, 0, 1, 0})
}

func TestSpace(t *testing.T) { // P2.4
	for _, n := range lengths {
		a, b, c := sample(n, 1), sample(n, 2), sample(n, 3)
		equal(t, "order", add(t, a, b), add(t, b, a))
		equal(t, "brackets", add(t, add(t, a, b), c), add(t, a, add(t, b, c)))
		equal(t, "nothing", add(t, a, make([]byte, n)), a)
		if twice := add(t, a, a); len(twice) != n || !vector.IsZero(twice) {
			t.Error("a vector added to itself:", twice)
		}
		for _, x := range factors {
			equal(t, "through sums of vectors", vector.Scale(add(t, a, b), x), add(t, vector.Scale(a, x), vector.Scale(b, x)))
			s, e := vector.AddScaled(a, b, x)
			equal(t, "AddScaled", must(t, s, e), add(t, a, vector.Scale(b, x)))
			for _, y := range factors {
				equal(t, "through sums of numbers", vector.Scale(a, x^y), add(t, vector.Scale(a, x), vector.Scale(a, y)))
				equal(t, "twice", vector.Scale(vector.Scale(a, x), y), vector.Scale(a, product(x, y)))
			}
		}
	}
}

func TestDotIsLinear(t *testing.T) { // P2.5
	for _, n := range lengths {
		a, b, c := sample(n, 1), sample(n, 2), sample(n, 3)
		if dot(t, add(t, a, b), c) != dot(t, a, c)^dot(t, b, c) || dot(t, c, add(t, a, b)) != dot(t, c, a)^dot(t, c, b) {
			t.Error("of sums", n)
		}
		for _, x := range factors {
			want := product(dot(t, a, c), x)
			if dot(t, vector.Scale(a, x), c) != want || dot(t, a, vector.Scale(c, x)) != want {
				t.Error("of what was scaled", n, x)
			}
		}
		for i := range min(n, 20) {
			if dot(t, a, unit(t, n, i)) != a[i] || dot(t, unit(t, n, i), a) != a[i] {
				t.Error("with a unit", n, i)
			}
		}
	}
}

func TestCombineIsLinear(t *testing.T) { // P2.5
	const rows = 7
	for _, n := range []int{0, 1, 2, 30} {
		a, b := table(rows, n, 10), table(rows, n, 30)
		c, d := sample(rows, 5), sample(rows, 6)
		sums := make([][]byte, rows)
		for i := range sums {
			sums[i] = add(t, a[i], b[i])
		}
		equal(t, "sums of rows", combine(t, sums, c), add(t, combine(t, a, c), combine(t, b, c)))
		equal(t, "sums of numbers", combine(t, a, add(t, c, d)), add(t, combine(t, a, c), combine(t, a, d)))
		for _, x := range factors {
			scaled := make([][]byte, rows)
			for i := range scaled {
				scaled[i] = vector.Scale(a[i], x)
			}
			want := vector.Scale(combine(t, a, c), x)
			equal(t, "scaled rows", combine(t, scaled, c), want)
			equal(t, "scaled numbers", combine(t, a, vector.Scale(c, x)), want)
		}
		for i := range rows {
			equal(t, "with a unit", combine(t, a, unit(t, rows, i)), a[i])
		}
	}
}

func TestLeadOfScaled(t *testing.T) { // P2.5
	for _, n := range lengths {
		for noughts := range min(n+1, 40) {
			a := sample(n, 4)
			clear(a[:noughts])
			for c := 1; c < 256; c++ {
				if scaled := vector.Scale(a, byte(c)); vector.Lead(scaled) != vector.Lead(a) || vector.IsZero(scaled) != vector.IsZero(a) {
					t.Fatal("Lead of what was scaled", n, noughts, c)
				}
			}
			if vector.Lead(vector.Scale(a, 0)) != -1 {
				t.Fatal("Lead of what was scaled by 0", n, noughts)
			}
		}
	}
}
