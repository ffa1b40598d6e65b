package field_test

import (
	"math"
	"testing"

	"braidwork/api"
	"braidwork/field"
)

// product is worked out by the words of the chapter alone, so that it can be held against Mul:
// the product of the polynomials, less multiples of 11b, from the highest one down.
func product(a, b byte) byte {
	p := 0
	for i := range 8 {
		if b>>i&1 == 1 {
			p ^= int(a) << i
		}
	}
	for i := 14; i >= 8; i-- {
		if p>>i&1 == 1 {
			p ^= 0x11b << (i - 8)
		}
	}
	return byte(p)
}

// power is worked out by products of halves: it is right of very great n too.
func power(a byte, n int) byte {
	if n == 0 {
		return 1
	}
	half := power(a, n/2)
	whole := product(half, half)
	if n%2 == 1 {
		whole = product(whole, a)
	}
	return whole
}

// inverse is looked for among all elements.
func inverse(t *testing.T, a byte) byte {
	t.Helper()
	for b := range 256 {
		if product(a, byte(b)) == 1 {
			return byte(b)
		}
	}
	t.Fatalf("no inverse of %x", a)
	return 0
}

// pairs calls f with any two elements.
func pairs(f func(a, b byte)) {
	for a := range 256 {
		for b := range 256 {
			f(byte(a), byte(b))
		}
	}
}

// triples calls f with any three elements.
func triples(f func(a, b, c byte)) {
	pairs(func(a, b byte) {
		for c := range 256 {
			f(a, b, byte(c))
		}
	})
}

func TestExamplesOfSumsAndProducts(t *testing.T) { // P1.1
	for _, x := range []struct{ a, b, sum, product byte }{
		{0x57, 0x83, 0xd4, 0xc1},
		{0x57, 0x13, 0x44, 0xfe},
		{0x80, 0x02, 0x82, 0x1b},
		{0xff, 0xff, 0x00, 0x13},
		{0, 0, 0, 0},
		{0, 1, 1, 0},
		{1, 1, 0, 1},
	} {
		if got := field.Add(x.a, x.b); got != x.sum {
			t.Errorf("Add(%x, %x) = %x, want %x", x.a, x.b, got, x.sum)
		}
		if got := field.Mul(x.a, x.b); got != x.product {
			t.Errorf("Mul(%x, %x) = %x, want %x", x.a, x.b, got, x.product)
		}
	}
}

func TestSumsAndProducts(t *testing.T) { // P1.1
	pairs(func(a, b byte) {
		if got := field.Add(a, b); got != a^b {
			t.Fatalf("Add(%x, %x) = %x, want %x", a, b, got, a^b)
		}
		if got := field.Mul(a, b); got != product(a, b) {
			t.Fatalf("Mul(%x, %x) = %x, want %x", a, b, got, product(a, b))
		}
	})
}

func TestInverses(t *testing.T) { // P1.1
	for _, x := range []struct{ a, inverse byte }{{0x53, 0xca}, {0xca, 0x53}, {1, 1}, {2, 0x8d}} {
		if got, e := field.Inv(x.a); got != x.inverse || e != api.OK {
			t.Errorf("Inv(%x) = %x, %d, want %x", x.a, got, e, x.inverse)
		}
	}
	for a := 1; a < 256; a++ {
		want := inverse(t, byte(a))
		if got, e := field.Inv(byte(a)); got != want || e != api.OK {
			t.Errorf("Inv(%x) = %x, %d, want %x", a, got, e, want)
		}
	}
	if got, e := field.Inv(0); got != 0 || e != api.ErrArg {
		t.Errorf("Inv(0) = %x, %d, want 0, ErrArg", got, e)
	}
}

func TestQuotients(t *testing.T) { // P1.1
	for b := 1; b < 256; b++ {
		by := inverse(t, byte(b))
		for a := range 256 {
			want := product(byte(a), by)
			if got, e := field.Div(byte(a), byte(b)); got != want || e != api.OK {
				t.Fatalf("Div(%x, %x) = %x, %d, want %x", a, b, got, e, want)
			}
		}
	}
	for a := range 256 {
		if got, e := field.Div(byte(a), 0); got != 0 || e != api.ErrArg {
			t.Errorf("Div(%x, 0) = %x, %d, want 0, ErrArg", a, got, e)
		}
	}
}

func TestPowersBelowNought(t *testing.T) { // P1.2
	for a := range 256 {
		for _, n := range []int{-1, -2, -254, -255, -256, math.MinInt + 1, math.MinInt} {
			if got, e := field.Pow(byte(a), n); got != 0 || e != api.ErrArg {
				t.Errorf("Pow(%x, %d) = %x, %d, want 0, ErrArg", a, n, got, e)
			}
		}
	}
}

func TestPowers(t *testing.T) { // P1.2
	for a := range 256 {
		want := byte(1)
		for n := range 600 {
			if got, e := field.Pow(byte(a), n); got != want || e != api.OK {
				t.Fatalf("Pow(%x, %d) = %x, %d, want %x", a, n, got, e, want)
			}
			want = product(want, byte(a))
		}
	}
}

func TestPowersAtTheEdges(t *testing.T) { // P1.2
	for _, x := range []struct {
		a    byte
		n    int
		want byte
	}{
		{0, 0, 1}, {0, 1, 0}, {0, 254, 0}, {0, 255, 0}, {0, 256, 0}, {0, math.MaxInt, 0},
		{1, 0, 1}, {1, 1, 1}, {1, 254, 1}, {1, 255, 1}, {1, 256, 1}, {1, math.MaxInt, 1},
		{2, 0, 1}, {2, 1, 2}, {2, 8, 0x1b}, {2, 254, 0x8d}, {2, 255, 1}, {2, 256, 2},
		{0x53, 0, 1}, {0x53, 1, 0x53}, {0x53, 254, 0xca}, {0x53, 255, 1}, {0x53, 256, 0x53},
	} {
		if got, e := field.Pow(x.a, x.n); got != x.want || e != api.OK {
			t.Errorf("Pow(%x, %d) = %x, %d, want %x", x.a, x.n, got, e, x.want)
		}
	}
}

func TestVeryGreatPowers(t *testing.T) { // P1.2
	for a := range 256 {
		for _, n := range []int{1 << 16, 1<<31 - 1, math.MaxInt / 255, math.MaxInt/2 + 1, math.MaxInt - 1, math.MaxInt} {
			want := power(byte(a), n)
			if got, e := field.Pow(byte(a), n); got != want || e != api.OK {
				t.Errorf("Pow(%x, %d) = %x, %d, want %x", a, n, got, e, want)
			}
		}
	}
}

func TestPowersOfThree(t *testing.T) { // P1.2
	for _, x := range []struct {
		n    int
		want byte
	}{{0, 1}, {1, 3}, {2, 5}, {254, 0xf6}} {
		if got, e := field.Exp(x.n); got != x.want || e != api.OK {
			t.Errorf("Exp(%d) = %x, %d, want %x", x.n, got, e, x.want)
		}
	}
	want := byte(1)
	for n := range 255 {
		if got, e := field.Exp(n); got != want || e != api.OK {
			t.Errorf("Exp(%d) = %x, %d, want %x", n, got, e, want)
		}
		want = product(want, 3)
	}
	for _, n := range []int{-1, -255, math.MinInt, 255, 256, 510, math.MaxInt} {
		if got, e := field.Exp(n); got != 0 || e != api.ErrArg {
			t.Errorf("Exp(%d) = %x, %d, want 0, ErrArg", n, got, e)
		}
	}
}

func TestExponents(t *testing.T) { // P1.2
	for _, x := range []struct {
		a    byte
		want int
	}{{1, 0}, {3, 1}, {5, 2}, {0xf6, 254}} {
		if got, e := field.Log(x.a); got != x.want || e != api.OK {
			t.Errorf("Log(%x) = %d, %d, want %d", x.a, got, e, x.want)
		}
	}
	for a := 1; a < 256; a++ {
		want := 0
		for p := byte(1); p != byte(a); p = product(p, 3) {
			want++
		}
		if got, e := field.Log(byte(a)); got != want || e != api.OK {
			t.Errorf("Log(%x) = %d, %d, want %d", a, got, e, want)
		}
	}
	if got, e := field.Log(0); got != 0 || e != api.ErrArg {
		t.Errorf("Log(0) = %d, %d, want 0, ErrArg", got, e)
	}
}

func TestOrderDoesNotMatter(t *testing.T) { // P1.3
	pairs(func(a, b byte) {
		if field.Add(a, b) != field.Add(b, a) || field.Mul(a, b) != field.Mul(b, a) {
			t.Fatal(a, b)
		}
	})
}

func TestBracketsDoNotMatter(t *testing.T) { // P1.3
	triples(func(a, b, c byte) {
		if field.Add(field.Add(a, b), c) != field.Add(a, field.Add(b, c)) {
			t.Fatal("sums", a, b, c)
		}
		if field.Mul(field.Mul(a, b), c) != field.Mul(a, field.Mul(b, c)) {
			t.Fatal("products", a, b, c)
		}
	})
}

func TestProductsGoThroughSums(t *testing.T) { // P1.3
	triples(func(a, b, c byte) {
		if field.Mul(a, field.Add(b, c)) != field.Add(field.Mul(a, b), field.Mul(a, c)) {
			t.Fatal(a, b, c)
		}
	})
}

func TestNoughtAndOne(t *testing.T) { // P1.3
	for i := range 256 {
		a := byte(i)
		if field.Add(a, 0) != a || field.Mul(a, 1) != a || field.Mul(a, 0) != 0 || field.Add(a, a) != 0 {
			t.Error(a)
		}
	}
}

func TestNoProductIsNought(t *testing.T) { // P1.3
	pairs(func(a, b byte) {
		if a != 0 && b != 0 && field.Mul(a, b) == 0 {
			t.Fatal(a, b)
		}
	})
}

func TestExponentsOfProducts(t *testing.T) { // P1.4
	for i := 1; i < 256; i++ {
		for k := 1; k < 256; k++ {
			a, b := byte(i), byte(k)
			m, e := field.Log(a)
			n, f := field.Log(b)
			got, g := field.Log(field.Mul(a, b))
			want := m + n
			if want > 254 {
				want -= 255
			}
			if got != want || e != api.OK || f != api.OK || g != api.OK {
				t.Fatalf("exponent of %x and %x: %d, want %d", a, b, got, want)
			}
		}
	}
}

func TestWholeRoundIsOne(t *testing.T) { // P1.4
	for a := 1; a < 256; a++ {
		if got, e := field.Pow(byte(a), 255); got != 1 || e != api.OK {
			t.Errorf("Pow(%x, 255) = %x, %d, want 1", a, got, e)
		}
	}
}
