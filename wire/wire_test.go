package wire_test

import (
	"bytes"
	"math"
	"math/big"
	"testing"

	"braidwork/api"
	"braidwork/wire"
)

// sizes are all sizes that numbers' forms have.
var sizes = []int{1, 2, 3, 4, 5, 6, 7, 8}

// wrongSizes are some that no form has, among them those that are a size when only their lowest bits are seen.
var wrongSizes = []int{0, -1, -2, -8, -255, 9, 10, 16, 64, 255, 256, 257, 264, 1<<32 + 1, math.MaxInt32, math.MinInt32, math.MaxInt, math.MinInt}

// ahead are the bytes behind which forms are laid.
var ahead = [][]byte{nil, {}, {7}, {0, 0, 0}, {1, 2, 3, 4, 5, 6, 7, 8, 9}, bytes.Repeat([]byte{0xee}, 1000)}

// greatest is the greatest number that has a form of that size.
func greatest(size int) uint64 { return math.MaxUint64 >> (64 - 8*size) }

// hasForm is worked out by the words of the chapter, apart from the numbers of 64 bits.
func hasForm(n uint64, size int) bool {
	end := new(big.Int).Exp(big.NewInt(256), big.NewInt(int64(size)), nil)
	return new(big.Int).SetUint64(n).Cmp(end) < 0
}

// plainForm is the form of n, which has one of that size: noughts, and the digits laid over their end.
func plainForm(n uint64, size int) []byte {
	form := make([]byte, size)
	digits := new(big.Int).SetUint64(n).Bytes()
	copy(form[size-len(digits):], digits)
	return form
}

// numbers are those of which forms are tried: round the greatest of each size, and some between.
func numbers() []uint64 {
	tried := []uint64{0, 1, 2, 0x0102030405060708, 0xf0e0d0c0b0a09080, 0x0100000000000000, 0x8000000000000000, math.MaxUint64 - 1, math.MaxUint64}
	for _, size := range sizes {
		most := greatest(size)
		tried = append(tried, most-1, most, most+1, most+2, most/2, most/2+1, 0x0102030405060708&most, 0xfedcba9876543210&most)
	}
	return tried
}

// wipe turns each byte into another one.
func wipe(b []byte) {
	for i := range b {
		b[i] ^= 0xff
	}
}

func equal(t *testing.T, what string, got, want []byte) {
	t.Helper()
	if !bytes.Equal(got, want) {
		t.Errorf("%s: %x, not %x", what, got, want)
	}
}

// left asks whether so many bytes are left, and End tells so.
func left(t *testing.T, r *wire.Reader, want int) {
	t.Helper()
	if n := r.Left(); n != want {
		t.Errorf("Left: %d, not %d", n, want)
	}
	end := api.OK
	if want > 0 {
		end = api.ErrLong
	}
	if e := r.End(); e != end {
		t.Errorf("End with %d left: error %d, not %d", want, e, end)
	}
}

// lay, take and number are for calls that have to go well.
func lay(t *testing.T, b []byte, n uint64, size int) []byte {
	t.Helper()
	laid, e := wire.Num(b, n, size)
	if e != api.OK {
		t.Fatalf("Num(%x, %d): error %d", n, size, e)
	}
	return laid
}

func take(t *testing.T, r *wire.Reader, n int) []byte {
	t.Helper()
	b, e := r.Take(n)
	if e != api.OK || len(b) != n {
		t.Fatalf("Take(%d): %d bytes, error %d", n, len(b), e)
	}
	return b
}

func number(t *testing.T, r *wire.Reader, size int) uint64 {
	t.Helper()
	n, e := r.Num(size)
	if e != api.OK {
		t.Fatalf("Num(%d): error %d", size, e)
	}
	return n
}

// noNumber and noBytes are for calls that have to go wrong, and to read nothing.
func noNumber(t *testing.T, r *wire.Reader, size int, want api.Errno) {
	t.Helper()
	before := r.Left()
	if n, e := r.Num(size); n != 0 || e != want {
		t.Errorf("Num(%d) of %d bytes: %x, error %d, not %d", size, before, n, e, want)
	}
	if r.Left() != before {
		t.Errorf("Num(%d) of %d bytes left %d", size, before, r.Left())
	}
}

func noBytes(t *testing.T, r *wire.Reader, n int, want api.Errno) {
	t.Helper()
	before := r.Left()
	if b, e := r.Take(n); len(b) != 0 || e != want {
		t.Errorf("Take(%d) of %d bytes: %x, error %d, not %d", n, before, b, e, want)
	}
	if r.Left() != before {
		t.Errorf("Take(%d) of %d bytes left %d", n, before, r.Left())
	}
}

func TestExamples(t *testing.T) { // P3.1, P3.2, P3.3
	equal(t, "Num", lay(t, nil, 258, 3), []byte{0, 1, 2})
	if b, e := wire.Num(nil, 256, 1); len(b) != 0 || e != api.ErrLong {
		t.Error("256 in 1 byte:", b, e)
	}
	if b, e := wire.Num(nil, 0, 9); len(b) != 0 || e != api.ErrArg {
		t.Error("0 in 9 bytes:", b, e)
	}
	r := wire.New([]byte{1, 2, 3})
	if n := number(t, r, 2); n != 258 {
		t.Error("Num:", n)
	}
	noBytes(t, r, 2, api.ErrShort)
	equal(t, "Take", take(t, r, 1), []byte{3})
	left(t, r, 0)
}

func TestForms(t *testing.T) { // P3.1
	for _, n := range numbers() {
		for _, size := range sizes {
			for _, b := range ahead {
				laid, e := wire.Num(b, n, size)
				if !hasForm(n, size) {
					if len(laid) != 0 || e != api.ErrLong {
						t.Errorf("Num(%x, %d): %x, error %d", n, size, laid, e)
					}
					continue
				}
				if e != api.OK || len(laid) != len(b)+size {
					t.Fatalf("Num(%x, %d): %x, error %d", n, size, laid, e)
				}
				equal(t, "ahead of the form", laid[:len(b)], b)
				equal(t, "the form", laid[len(b):], plainForm(n, size))
			}
		}
	}
}

func TestEdgesOfForms(t *testing.T) { // P3.1
	for _, size := range sizes {
		equal(t, "of 0", lay(t, nil, 0, size), make([]byte, size))
		equal(t, "of the greatest", lay(t, nil, greatest(size), size), bytes.Repeat([]byte{0xff}, size))
		if size == 8 {
			continue
		}
		for _, n := range []uint64{greatest(size) + 1, greatest(size) + 2, greatest(size + 1), 1 << 63, math.MaxUint64 - greatest(size), math.MaxUint64} {
			if b, e := wire.Num([]byte{9}, n, size); len(b) != 0 || e != api.ErrLong {
				t.Errorf("Num(%x, %d): %x, error %d", n, size, b, e)
			}
		}
		equal(t, "of the next number, a byte longer", lay(t, nil, greatest(size)+1, size+1), append([]byte{1}, make([]byte, size)...))
	}
	if greatest(8) != math.MaxUint64 {
		t.Error("the greatest number of 64 bits is not tried")
	}
}

func TestWrongSizesOfForms(t *testing.T) { // P3.1
	for _, size := range wrongSizes {
		for _, n := range []uint64{0, 1, 255, 256, 1 << 63, math.MaxUint64} {
			for _, b := range ahead {
				if laid, e := wire.Num(b, n, size); len(laid) != 0 || e != api.ErrArg {
					t.Errorf("Num(%x, %d): %x, error %d", n, size, laid, e)
				}
			}
		}
	}
}

func TestFormsAreNewMemory(t *testing.T) { // P3.1, R3
	for _, size := range sizes {
		for _, room := range []int{0, 1, size, 100} {
			for _, length := range []int{0, 1, 5, 100} {
				given := make([]byte, length+room)
				for i := range given {
					given[i] = byte(i + 1)
				}
				kept := bytes.Clone(given)
				laid := lay(t, given[:length], greatest(size)-1, size)
				again := lay(t, given[:length], 0, size)
				equal(t, "given, and the room behind it", given, kept)
				want := append(bytes.Clone(kept[:length]), plainForm(greatest(size)-1, size)...)
				equal(t, "told, behind another form was laid", laid, want)
				wipe(given)
				equal(t, "told, behind what was given was written to", laid, want)
				copy(given, kept)
				wipe(laid[:cap(laid)])
				equal(t, "given, behind what was told was written to", given, kept)
				equal(t, "another form, behind what was told was written to", again, append(bytes.Clone(kept[:length]), make([]byte, size)...))
			}
		}
	}
}

func TestWrongFormsChangeNothing(t *testing.T) { // P3.1, R2
	given := []byte{1, 2, 3, 4, 5, 6, 7, 8, 9, 10, 11, 12}
	kept := bytes.Clone(given)
	for _, size := range append([]int{1, 2, 7}, wrongSizes...) {
		if _, e := wire.Num(given[:2], math.MaxUint64, size); e == api.OK {
			t.Error("no error:", size)
		}
		equal(t, "given", given, kept)
	}
}

func TestNewReader(t *testing.T) { // P3.2
	for _, none := range [][]byte{nil, {}} {
		r := wire.New(none)
		left(t, r, 0)
		noNumber(t, r, 1, api.ErrShort)
		noBytes(t, r, 1, api.ErrShort)
		take(t, r, 0)
		left(t, r, 0)
	}
	for _, n := range []int{1, 2, 3, 8, 255, 256, 70001} {
		b := make([]byte, n)
		left(t, wire.New(b), n)
		left(t, wire.New(b[:n:n]), n)
	}
}

func TestLeftBehindEachStep(t *testing.T) { // P3.2, P3.3
	b := make([]byte, 200)
	for i := range b {
		b[i] = byte(3*i + 1)
	}
	r, at := wire.New(b), 0
	left(t, r, 200)
	for _, size := range []int{1, 8, 2, 7, 3, 6, 4, 5, 5, 1, 1} {
		if n := number(t, r, size); !bytes.Equal(plainForm(n, size), b[at:at+size]) {
			t.Errorf("Num(%d) at %d: %x", size, at, n)
		}
		at += size
		left(t, r, 200-at)
		left(t, r, 200-at)
		equal(t, "Take", take(t, r, at%9), b[at:at+at%9])
		at += at % 9
		left(t, r, 200-at)
	}
	equal(t, "the rest", take(t, r, 200-at), b[at:])
	left(t, r, 0)
}

func TestNoReader(t *testing.T) { // P3.2, P3.3
	for name, r := range map[string]*wire.Reader{"nil": nil, "new": new(wire.Reader), "literal": {}} {
		if r.Left() != 0 || r.End() != api.ErrNil {
			t.Error(name, r.Left(), r.End())
		}
		for _, n := range append([]int{1, 2, 3, 4, 5, 6, 7, 8}, wrongSizes...) {
			noNumber(t, r, n, api.ErrNil)
			noBytes(t, r, n, api.ErrNil)
		}
		if r.Left() != 0 || r.End() != api.ErrNil {
			t.Error(name, "behind calls", r.Left(), r.End())
		}
	}
}

func TestReadNumbers(t *testing.T) { // P3.3
	for _, n := range numbers() {
		for _, size := range sizes {
			if !hasForm(n, size) {
				continue
			}
			for _, behind := range []int{0, 1, 20} {
				r := wire.New(append(plainForm(n, size), make([]byte, behind)...))
				if got := number(t, r, size); got != n {
					t.Errorf("Num(%d): %x, not %x", size, got, n)
				}
				left(t, r, behind)
			}
		}
	}
}

func TestReadWrongSizes(t *testing.T) { // P3.3
	for _, size := range wrongSizes {
		for n := range 12 {
			b := bytes.Repeat([]byte{5}, n)
			r := wire.New(b)
			noNumber(t, r, size, api.ErrArg)
			equal(t, "all of it", take(t, r, n), b)
			noNumber(t, r, size, api.ErrArg)
			left(t, r, 0)
		}
	}
}

func TestReadShortNumbers(t *testing.T) { // P3.3
	for _, size := range sizes {
		for n := range size {
			b := plainForm(0x0102030405060708&greatest(size), size)[size-n:]
			for _, first := range []int{0, 1, 9} {
				r := wire.New(append(make([]byte, first), b...))
				take(t, r, first)
				noNumber(t, r, size, api.ErrShort)
				noNumber(t, r, size, api.ErrShort)
				left(t, r, n)
				if n > 0 {
					if got := number(t, r, n); !bytes.Equal(plainForm(got, n), b) {
						t.Errorf("Num(%d) behind ErrShort: %x", n, got)
					}
				}
				left(t, r, 0)
				noNumber(t, r, size, api.ErrShort)
			}
		}
	}
}

func TestTake(t *testing.T) { // P3.3
	b := []byte{10, 11, 12, 13, 14, 15, 16, 17, 18, 19}
	for first := range 11 {
		for n := range 13 - first {
			r := wire.New(b)
			equal(t, "the first bytes", take(t, r, first), b[:first])
			rest := len(b) - first
			if n > rest {
				noBytes(t, r, n, api.ErrShort)
				n = 0
			}
			equal(t, "the next bytes", take(t, r, n), b[first:first+n])
			equal(t, "no bytes", take(t, r, 0), nil)
			left(t, r, rest-n)
			equal(t, "the rest", take(t, r, rest-n), b[first+n:])
			left(t, r, 0)
		}
	}
}

func TestTakeWrongNumbers(t *testing.T) { // P3.3
	for n := range 9 {
		b := bytes.Repeat([]byte{6}, n)
		for first := range n + 1 {
			r := wire.New(b)
			take(t, r, first)
			rest := n - first
			for _, below := range []int{-1, -2, -first, -n, -1 << 40, math.MinInt32, math.MinInt, math.MinInt + 1} {
				if below < 0 {
					noBytes(t, r, below, api.ErrArg)
				}
			}
			for _, more := range []int{rest + 1, rest + 2, n + 1, 256 + rest, api.MaxFrame, math.MaxInt32, 1<<32 + rest, 1 << 40, math.MaxInt - n, math.MaxInt - 1, math.MaxInt} {
				noBytes(t, r, more, api.ErrShort)
			}
			left(t, r, rest)
			equal(t, "the rest", take(t, r, rest), b[first:])
		}
	}
}

func TestReaderIsApartFromGiven(t *testing.T) { // P3.2, P3.3, R3
	given := []byte{1, 2, 3, 4, 5, 6, 7, 8, 9, 10}
	kept := bytes.Clone(given)
	r := wire.New(given)
	wipe(given)
	equal(t, "Take", take(t, r, 2), kept[:2])
	if n := number(t, r, 2); n != 0x0304 {
		t.Errorf("Num: %x", n)
	}
	clear(given)
	noBytes(t, r, 7, api.ErrShort)
	equal(t, "Take", take(t, r, 6), kept[4:])
	equal(t, "given", given, make([]byte, 10))
}

func TestTakenIsNewMemory(t *testing.T) { // P3.3, R3
	given := []byte{1, 2, 3, 4, 5, 6, 7, 8, 9, 10}
	kept := bytes.Clone(given)
	r := wire.New(given)
	var told [][]byte
	for at := range 5 {
		b := take(t, r, 2)
		equal(t, "Take", b, kept[2*at:2*at+2])
		for _, x := range told {
			wipe(x[:cap(x)])
		}
		equal(t, "Take, behind those ahead were written to", b, kept[2*at:2*at+2])
		told = append(told, b)
		wipe(b[:cap(b)])
	}
	left(t, r, 0)
	equal(t, "given", given, kept)
}

func TestReadersAreApart(t *testing.T) { // P3.2
	b := []byte{1, 2, 3}
	first, second := wire.New(b), wire.New(b)
	take(t, first, 3)
	left(t, first, 0)
	left(t, second, 3)
	equal(t, "the other one", take(t, second, 2), b[:2])
	wipe(take(t, wire.New(b), 3))
	equal(t, "given", b, []byte{1, 2, 3})
}

// item is a number of that size, or, if that is 0, bytes.
type item struct {
	size int
	n    uint64
	b    []byte
}

// length is how many bytes the item has, laid.
func (x item) length() int { return x.size + len(x.b) }

// some makes numbers, always the same ones of one seed.
type some uint64

func (s *some) next(below uint64) uint64 {
	*s = *s*6364136223846793005 + 1442695040888963407
	return uint64(*s>>11) % below
}

// items are so many items, other ones for another seed.
func items(count int, seed uint64) []item {
	s := some(seed)
	row := make([]item, count)
	for i := range row {
		row[i].size = int(s.next(9))
		if row[i].size > 0 {
			row[i].n = (s.next(1<<32)<<32 | s.next(1<<32)) & greatest(row[i].size)
			continue
		}
		row[i].b = make([]byte, s.next(20))
		for j := range row[i].b {
			row[i].b[j] = byte(s.next(256))
		}
	}
	return row
}

// layAll lays the items, one behind the other.
func layAll(t *testing.T, row []item) []byte {
	t.Helper()
	var laid []byte
	for _, x := range row {
		if x.size > 0 {
			laid = lay(t, laid, x.n, x.size)
		} else {
			laid = append(laid, x.b...)
		}
	}
	return laid
}

// read asks whether the next item is read as it was.
func read(t *testing.T, r *wire.Reader, x item) {
	t.Helper()
	if x.size == 0 {
		equal(t, "bytes", take(t, r, len(x.b)), x.b)
		return
	}
	if n := number(t, r, x.size); n != x.n {
		t.Errorf("Num(%d): %x, not %x", x.size, n, x.n)
	}
}

// readNot asks whether the next item is told to be short.
func readNot(t *testing.T, r *wire.Reader, x item) {
	t.Helper()
	if x.size == 0 {
		noBytes(t, r, len(x.b), api.ErrShort)
		return
	}
	noNumber(t, r, x.size, api.ErrShort)
}

func TestBack(t *testing.T) { // P3.4
	for seed := range uint64(200) {
		row := items(int(seed%23), seed)
		r := wire.New(layAll(t, row))
		rest := 0
		for _, x := range row {
			rest += x.length()
		}
		left(t, r, rest)
		for _, x := range row {
			read(t, r, x)
			rest -= x.length()
			left(t, r, rest)
		}
		for _, size := range sizes {
			noNumber(t, r, size, api.ErrShort)
		}
	}
}

func TestBackOfBeginnings(t *testing.T) { // P3.4
	for seed := range uint64(40) {
		row := items(1+int(seed%12), seed+1000)
		laid := layAll(t, row)
		for end := range len(laid) {
			r, at := wire.New(laid[:end]), 0
			for _, x := range row {
				if at+x.length() > end {
					readNot(t, r, x)
					break
				}
				read(t, r, x)
				at += x.length()
			}
			left(t, r, end-at)
			equal(t, "the rest", take(t, r, end-at), laid[at:end])
		}
	}
}

func TestLaidAgain(t *testing.T) { // P3.4
	for seed := range uint64(200) {
		s := some(seed + 5000)
		b := make([]byte, s.next(120))
		for i := range b {
			b[i] = byte(s.next(256))
		}
		r := wire.New(b)
		var again []byte
		for r.Left() > 0 {
			size := int(s.next(9))
			n, e := r.Num(size)
			if e == api.OK {
				again = lay(t, again, n, size)
			} else {
				again = append(again, take(t, r, min(size, r.Left()))...)
			}
		}
		left(t, r, 0)
		equal(t, "laid again", again, b)
	}
}
