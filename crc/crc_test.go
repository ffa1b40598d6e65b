package crc_test

import (
	"bytes"
	"math"
	"slices"
	"testing"

	"braidwork/api"
	"braidwork/crc"
)

// most is how many bytes the second of two joined rows has at most.
const most = 1 << 20

// lengths are those of the rows that are tried everywhere.
var lengths = []int{0, 1, 2, 3, 4, 5, 6, 7, 8, 9, 15, 16, 17, 31, 33, 100, 255, 256, 257, 1000, 4095, 4097}

// takeIn is what the chapter's words say, bit by bit.
func takeIn(register uint32, x byte) uint32 {
	register ^= uint32(x)
	for range 8 {
		out := register & 1
		register >>= 1
		if out == 1 {
			register ^= 0xedb88320
		}
	}
	return register
}

// plainSum, plainJoin and plainSeal are worked out by the chapter's words, to be held against the program.
func plainSum(b []byte) uint32 {
	register := uint32(0xffffffff)
	for _, x := range b {
		register = takeIn(register, x)
	}
	return 0xffffffff - register
}

func plainJoin(a, b uint32, n int) uint32 {
	for range n {
		a = takeIn(a, 0)
	}
	return a ^ b
}

func plainSeal(b []byte) []byte {
	sum := plainSum(b)
	sealed := bytes.Clone(b)
	for range 4 {
		sealed = append(sealed, byte(sum%256))
		sum /= 256
	}
	return sealed
}

// some makes numbers, always the same ones of one seed.
type some uint64

func (s *some) next() uint32 {
	*s = *s*6364136223846793005 + 1442695040888963407
	return uint32(*s >> 32)
}

// row is n bytes, other ones for another seed.
func row(n int, seed uint64) []byte {
	s := some(seed*2654435761 + uint64(n))
	b := make([]byte, n)
	for i := range b {
		b[i] = byte(s.next() >> 11)
	}
	return b
}

// rows calls f with many rows of each of the lengths.
func rows(f func(b []byte)) {
	for _, n := range lengths {
		f(make([]byte, n))
		f(bytes.Repeat([]byte{0xff}, n))
		for seed := range uint64(10) {
			f(row(n, seed))
		}
	}
}

// roomy is b, with so many bytes of room behind it, which hold no noughts.
func roomy(b []byte, room int) []byte {
	return slices.Concat(b, bytes.Repeat([]byte{0xa5}, room))[:len(b)]
}

// whole is b and the room behind it.
func whole(b []byte) []byte { return b[:cap(b)] }

// wipe turns each byte into another one.
func wipe(b []byte) {
	for i := range b {
		b[i] ^= 0xff
	}
}

func equal(t *testing.T, what string, got, want []byte) {
	t.Helper()
	if !bytes.Equal(got, want) {
		t.Errorf("%s: %x, not %x", what, got, want)
	}
}

// sum asks whether Sum tells what it has to, and leaves b as it is.
func sum(t *testing.T, b []byte, want uint32) {
	t.Helper()
	kept := bytes.Clone(whole(b))
	if got := crc.Sum(b); got != want {
		t.Errorf("Sum of %d bytes: %08x, not %08x", len(b), got, want)
	}
	equal(t, "given", whole(b), kept)
}

// open is for calls that have to go well, and opens for those that have to go wrong.
func open(t *testing.T, b []byte) []byte {
	t.Helper()
	ahead, e := crc.Open(b)
	if e != api.OK {
		t.Fatalf("Open(%x): error %d", b, e)
	}
	return ahead
}

func opensNot(t *testing.T, b []byte, want api.Errno) {
	t.Helper()
	kept := bytes.Clone(whole(b))
	if ahead, e := crc.Open(b); len(ahead) != 0 || e != want {
		t.Errorf("Open(%x): %x, error %d, not %d", b, ahead, e, want)
	}
	equal(t, "given", whole(b), kept)
}

func joins(t *testing.T, a, b uint32, n int, want uint32) {
	t.Helper()
	if got, e := crc.Join(a, b, n); got != want || e != api.OK {
		t.Errorf("Join(%08x, %08x, %d): %08x, error %d, not %08x", a, b, n, got, e, want)
	}
}

func TestExamples(t *testing.T) { // P4.1, P4.2
	sum(t, []byte("123456789"), 0xcbf43926)
	sum(t, nil, 0)
	sum(t, []byte{}, 0)
	sum(t, []byte{0}, 0xd202ef8d)
	sum(t, []byte{0xff}, 0xff000000)
	equal(t, "Seal of none", crc.Seal(nil), []byte{0, 0, 0, 0})
	equal(t, "Seal of none", crc.Seal([]byte{}), []byte{0, 0, 0, 0})
	equal(t, "Seal", crc.Seal([]byte("123456789")), []byte("123456789\x26\x39\xf4\xcb"))
	opensNot(t, []byte{0, 0, 0}, api.ErrShort)
	opensNot(t, []byte{0, 0, 0, 1}, api.ErrSum)
	equal(t, "Open", open(t, []byte("123456789\x26\x39\xf4\xcb")), []byte("123456789"))
}

func TestSumsOfSingleBytes(t *testing.T) { // P4.1
	for x := range 256 {
		sum(t, []byte{byte(x)}, plainSum([]byte{byte(x)}))
	}
}

func TestSumsOfTwoBytes(t *testing.T) { // P4.1
	for x := range 256 {
		for y := range 256 {
			b := []byte{byte(x), byte(y)}
			sum(t, b, plainSum(b))
		}
	}
}

func TestSums(t *testing.T) { // P4.1
	rows(func(b []byte) {
		want := plainSum(b)
		sum(t, b, want)
		sum(t, roomy(b, 1), want)
		sum(t, roomy(b, 40), want)
		sum(t, b[:len(b):len(b)], want)
	})
}

func TestSumsOfLongRows(t *testing.T) { // P4.1
	for _, n := range []int{65535, 65536, api.MaxFrame, api.MaxFrame + 1, api.MaxStream, most, most + 3} {
		for seed := range uint64(2) {
			b := row(n, seed)
			sum(t, b, plainSum(b))
		}
		sum(t, make([]byte, n), plainSum(make([]byte, n)))
	}
}

func TestSeal(t *testing.T) { // P4.1
	rows(func(b []byte) { equal(t, "Seal", crc.Seal(b), plainSeal(b)) })
	for _, n := range []int{api.MaxFrame, api.MaxStream, most + 3} {
		b := row(n, 0)
		equal(t, "Seal", crc.Seal(b), plainSeal(b))
	}
}

func TestSealedIsNewMemory(t *testing.T) { // P4.1, R3
	for _, n := range []int{0, 1, 3, 4, 5, 100, 5000} {
		for _, room := range []int{0, 1, 3, 4, 5, 100} {
			given := roomy(row(n, 1), room)
			kept, want := bytes.Clone(whole(given)), plainSeal(given)
			first, second := crc.Seal(given), crc.Seal(given)
			equal(t, "given, and the room behind it", whole(given), kept)
			wipe(whole(given))
			equal(t, "told, when what was given was written to", first, want)
			copy(whole(given), kept)
			wipe(whole(first))
			equal(t, "given, when what was told was written to", whole(given), kept)
			equal(t, "told again, when what was told was written to", second, want)
			equal(t, "told behind all that", crc.Seal(given), want)
		}
	}
}

func TestOpenShort(t *testing.T) { // P4.2
	opensNot(t, nil, api.ErrShort)
	opensNot(t, []byte{}, api.ErrShort)
	sealed := plainSeal([]byte{7})
	for n := range 4 {
		opensNot(t, make([]byte, n), api.ErrShort)
		opensNot(t, bytes.Repeat([]byte{0xff}, n), api.ErrShort)
		opensNot(t, row(n, 3), api.ErrShort)
		opensNot(t, sealed[:n], api.ErrShort)
		opensNot(t, make([]byte, 40)[:n], api.ErrShort)
		opensNot(t, make([]byte, 40)[:n:n], api.ErrShort)
	}
}

func TestOpenOfNoneSealed(t *testing.T) { // P4.2
	equal(t, "Open of four noughts", open(t, make([]byte, 4)), nil)
	equal(t, "Open of four noughts", open(t, make([]byte, 40)[:4]), nil)
	for at := range 4 {
		for x := 1; x < 256; x++ {
			b := make([]byte, 4)
			b[at] = byte(x)
			opensNot(t, b, api.ErrSum)
		}
	}
	for n := 5; n < 12; n++ {
		opensNot(t, make([]byte, n), api.ErrSum)
	}
}

func TestOpen(t *testing.T) { // P4.2
	rows(func(b []byte) {
		sealed := plainSeal(b)
		kept := bytes.Clone(sealed)
		equal(t, "Open", open(t, sealed), b)
		equal(t, "Open, with room behind", open(t, roomy(sealed, 20)), b)
		equal(t, "given", sealed, kept)
	})
}

func TestOpenWithAnotherSum(t *testing.T) { // P4.2
	for _, n := range []int{0, 1, 2, 4, 9, 300} {
		b := row(n, 2)
		for at := range 4 {
			for x := 1; x < 256; x++ {
				sealed := plainSeal(b)
				sealed[n+at] ^= byte(x)
				opensNot(t, sealed, api.ErrSum)
			}
		}
	}
}

func TestOpenWithSumsThatAreNearlyRight(t *testing.T) { // P4.2
	for _, n := range []int{1, 2, 4, 9, 300} {
		b := row(n, 4)
		right := plainSeal(b)[n:]
		turned := bytes.Clone(right)
		wipe(turned)
		swapped := bytes.Clone(right)
		slices.Reverse(swapped)
		for _, wrong := range [][]byte{turned, swapped, plainSeal(b[1:])[n-1:], plainSeal(b[:n-1])[n-1:], plainSeal(append(b, 0))[n+1:]} {
			opensNot(t, slices.Concat(b, wrong), api.ErrSum)
		}
		opensNot(t, slices.Concat(right, b), api.ErrSum)
		opensNot(t, plainSeal(b)[:n+3], api.ErrSum)
		opensNot(t, plainSeal(b)[1:], api.ErrSum)
		opensNot(t, append(plainSeal(b), 0), api.ErrSum)
		opensNot(t, append([]byte{0}, plainSeal(b)...), api.ErrSum)
	}
}

func TestOpenedIsNewMemory(t *testing.T) { // P4.2, R3
	for _, n := range []int{0, 1, 3, 4, 5, 100, 5000} {
		b := row(n, 1)
		given := roomy(plainSeal(b), 9)
		kept := bytes.Clone(whole(given))
		first, second := open(t, given), open(t, given)
		equal(t, "given, and the room behind it", whole(given), kept)
		wipe(whole(given))
		equal(t, "told, when what was given was written to", first, b)
		copy(whole(given), kept)
		wipe(whole(first))
		equal(t, "given, when what was told was written to", whole(given), kept)
		equal(t, "told again, when what was told was written to", second, b)
		equal(t, "told behind all that", open(t, given), b)
	}
}

func TestJoinOfWrongLengths(t *testing.T) { // P4.3
	for _, n := range []int{-1, -2, -255, -most, math.MinInt32, math.MinInt + 1, math.MinInt, most + 1, most + 2, 2 * most, math.MaxInt32, 1 << 32, 1<<32 + 1, 1 << 40, math.MaxInt - 1, math.MaxInt} {
		for _, x := range []uint32{0, 1, 0xcbf43926, math.MaxUint32} {
			if got, e := crc.Join(x, 7*x, n); got != 0 || e != api.ErrArg {
				t.Errorf("Join(%08x, %08x, %d): %08x, error %d", x, 7*x, n, got, e)
			}
		}
	}
}

// numbers are a's and b's to be joined: most of them are the sum of no row of so few bytes.
func numbers() []uint32 {
	s := some(77)
	tried := []uint32{0, 1, 2, 0x80000000, 0xedb88320, 0x04c11db7, 0xcbf43926, 0xd202ef8d, 0xff000000, 0x0000ffff, math.MaxUint32}
	for bit := range 32 {
		tried = append(tried, 1<<bit)
	}
	for range 12 {
		tried = append(tried, s.next())
	}
	return tried
}

func TestJoinOfNone(t *testing.T) { // P4.3
	for _, a := range numbers() {
		for _, b := range numbers() {
			joins(t, a, b, 0, a^b)
		}
	}
}

func TestJoinOfAny(t *testing.T) { // P4.3
	for _, n := range []int{1, 2, 3, 4, 5, 7, 8, 9, 100, 255, 256, 257} {
		for _, a := range numbers() {
			behind := plainJoin(a, 0, n)
			for _, b := range numbers() {
				joins(t, a, b, n, behind^b)
			}
		}
	}
}

func TestJoinOfLongRows(t *testing.T) { // P4.3
	s := some(5)
	for _, n := range []int{1000, 4096, 65535, 65536, api.MaxFrame, 1 << 19, most - 1, most} {
		for _, a := range []uint32{0, 1, math.MaxUint32, s.next()} {
			b := s.next()
			joins(t, a, b, n, plainJoin(a, b, n))
		}
	}
}

func TestJoinOfRows(t *testing.T) { // P4.3
	for _, n := range append(lengths, 65536, api.MaxFrame) {
		for _, m := range lengths {
			first, second := row(m, 1), row(n, 2)
			joins(t, plainSum(first), plainSum(second), n, plainSum(slices.Concat(first, second)))
			joins(t, crc.Sum(first), crc.Sum(second), n, crc.Sum(slices.Concat(first, second)))
		}
	}
	for _, m := range []int{0, 1, 500, most} {
		first, second := row(m, 1), row(most, 2)
		joins(t, plainSum(first), plainSum(second), most, plainSum(slices.Concat(first, second)))
	}
}

func TestJoinOfThreeRows(t *testing.T) { // P4.3
	for _, n := range lengths {
		a, b, c := row(n, 1), row(2*n+1, 2), row(n+5, 3)
		ab, _ := crc.Join(crc.Sum(a), crc.Sum(b), len(b))
		bc, _ := crc.Join(crc.Sum(b), crc.Sum(c), len(c))
		want := plainSum(slices.Concat(a, b, c))
		joins(t, ab, crc.Sum(c), len(c), want)
		joins(t, crc.Sum(a), bc, len(b)+len(c), want)
	}
}

func TestOpenOfSealed(t *testing.T) { // P4.4
	rows(func(b []byte) {
		sealed := crc.Seal(b)
		equal(t, "Open of Seal", open(t, sealed), b)
		twice := crc.Seal(sealed)
		equal(t, "Open of Seal of Seal", open(t, twice), sealed)
		equal(t, "Open of Open", open(t, open(t, twice)), b)
	})
	for _, n := range []int{api.MaxFrame, api.MaxStream, most + 3} {
		b := row(n, 6)
		equal(t, "Open of Seal", open(t, crc.Seal(b)), b)
	}
}

func TestSealOfOpened(t *testing.T) { // P4.4
	rows(func(b []byte) {
		sealed := plainSeal(b)
		equal(t, "Seal of Open", crc.Seal(open(t, sealed)), sealed)
		again := plainSeal(sealed)
		equal(t, "Seal of Open", crc.Seal(open(t, again)), again)
	})
}

func TestSealOfWhateverOpens(t *testing.T) { // P4.4
	s := some(99)
	opened := 0
	for i := range 20000 {
		b := row(int(s.next()%9), uint64(i))
		if i%4 == 0 {
			b = plainSeal(b)
		}
		ahead, e := crc.Open(b)
		if e != api.OK {
			continue
		}
		opened++
		equal(t, "Seal of Open", crc.Seal(ahead), b)
	}
	if opened < 5000 {
		t.Error("opened but", opened)
	}
}

// turn turns the bits of the pattern, the first one at that place: bits are in a row as a register takes them in,
// the lowest one of each byte first. It tells whether all of them lie within b.
func turn(b []byte, place int, pattern uint32) bool {
	for i := range 32 {
		if pattern>>i&1 == 0 {
			continue
		}
		at := place + i
		if at/8 >= len(b) {
			return false
		}
		b[at/8] ^= 1 << (at % 8)
	}
	return true
}

// turned asks whether a turned form is told; patterns that go over its end are passed over.
func turned(t *testing.T, sealed []byte, place int, pattern uint32) {
	t.Helper()
	b := bytes.Clone(sealed)
	if !turn(b, place, pattern) {
		return
	}
	if ahead, e := crc.Open(b); len(ahead) != 0 || e != api.ErrSum {
		t.Errorf("%d bytes, %08x turned at bit %d: %x, error %d", len(b), pattern, place, ahead, e)
	}
}

// patterns are of 1 to 32 bits in a row, of which the first is turned.
func patterns() []uint32 {
	s := some(11)
	tried := []uint32{0x80000001, 0xffffffff, 0x55555555, 0xedb88321, 0xdb710641, 0x04c11db7, 0x82608edb}
	for bit := range 32 {
		tried = append(tried, 1|1<<bit, math.MaxUint32>>bit)
	}
	for range 60 {
		tried = append(tried, s.next()|1)
	}
	return tried
}

func TestEachBitTurned(t *testing.T) { // P4.5
	for _, n := range []int{0, 1, 2, 3, 4, 5, 9, 64, 300} {
		sealed := crc.Seal(row(n, 8))
		for place := range 8 * len(sealed) {
			turned(t, sealed, place, 1)
		}
	}
}

func TestBitsInARowTurned(t *testing.T) { // P4.5
	for _, n := range []int{0, 1, 2, 3, 4, 5, 8, 13, 40} {
		sealed := crc.Seal(row(n, 9))
		for place := range 8 * len(sealed) {
			for _, pattern := range patterns() {
				turned(t, sealed, place, pattern)
			}
		}
	}
}

func TestBitsTurnedInLongRows(t *testing.T) { // P4.5
	for _, n := range []int{255, 1000, 4097} {
		sealed := crc.Seal(row(n, 10))
		border, end := 8*n, 8*len(sealed)
		for i := range 40 {
			for _, pattern := range patterns() {
				turned(t, sealed, i, pattern)
				turned(t, sealed, border/2+i, pattern)
				turned(t, sealed, border-32+i, pattern)
				turned(t, sealed, end-40+i, pattern)
			}
		}
	}
	sealed := crc.Seal(row(api.MaxFrame, 10))
	for _, place := range []int{0, 8*api.MaxFrame - 13, 8 * api.MaxFrame} {
		turned(t, sealed, place, 0xffffffff)
		turned(t, sealed, place, 0x80000001)
	}
}

func TestAllShortPatternsTurned(t *testing.T) { // P4.5
	sealed := crc.Seal([]byte{1, 2, 3})
	for place := range 8 * len(sealed) {
		for pattern := uint32(1); pattern < 1<<12; pattern += 2 {
			turned(t, sealed, place, pattern)
			turned(t, sealed, place, pattern<<20|1)
		}
	}
}

// xored is the three rows, xored number by number.
func xored(a, b, c []byte) []byte {
	x := make([]byte, len(a))
	for i := range x {
		x[i] = a[i] ^ b[i] ^ c[i]
	}
	return x
}

func TestThreeRowsXored(t *testing.T) { // P4.6
	for _, n := range append(lengths, api.MaxFrame) {
		for seed := range uint64(8) {
			a, b, c := row(n, 3*seed), row(n, 3*seed+1), row(n, 3*seed+2)
			want := crc.Sum(a) ^ crc.Sum(b) ^ crc.Sum(c)
			sum(t, xored(a, b, c), want)
			sum(t, xored(a, a, b), crc.Sum(b))
			sum(t, xored(a, b, make([]byte, n)), crc.Sum(a)^crc.Sum(b)^crc.Sum(make([]byte, n)))
		}
	}
}
