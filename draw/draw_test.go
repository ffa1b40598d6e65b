package draw_test

import (
	"bytes"
	"math"
	"math/rand"
	"slices"
	"sync"
	"testing"

	"braidwork/api"
	"braidwork/draw"
)

// most is the greatest number of rows of which there is a draw.
const most = 255

// wrongCounts are numbers of rows that may not be, among them those that are right when only their lowest bits are seen.
var wrongCounts = []int{
	0, -1, -2, -3, -254, -255, -256, -257, -511, -1 << 16, -1<<16 + 3, -1 << 32, -1<<32 + 5, -1<<32 + 255, math.MinInt32, math.MinInt32 + 7, math.MinInt, math.MinInt + 1, math.MinInt + 255,
	256, 257, 258, 300, 511, 512, 513, 1<<16 - 1, 1 << 16, 1<<16 + 1, 1<<16 + 255, 70000, math.MaxInt32, 1<<32 - 1, 1 << 32, 1<<32 + 1, 1<<32 + 255, 1 << 62, 1<<62 + 5, math.MaxInt - 1, math.MaxInt,
}

// wrongTurns are turns that none of n rows has, among them those that are right when only their lowest bits are seen.
func wrongTurns(n int) []int {
	all := []int{
		-1, -2, -n, -n - 1, -255, -256, -256 + n - 1, -1 << 16, -1 << 32, -1<<32 + n - 1, math.MinInt32, math.MinInt, math.MinInt + n - 1, math.MinInt + n,
		n, n + 1, 2*n - 1, 2 * n, 2*n + 1, 254, 255, 256, 256 + n - 1, 1 << 16, 1<<16 + n - 1, 1 << 32, 1<<32 + n - 1, 1 << 62, math.MaxInt32, math.MaxInt - 1, math.MaxInt,
	}
	// By a small or a great n some of these are turns all the same.
	return slices.DeleteFunc(all, func(turn int) bool { return 0 <= turn && turn < n })
}

// turns are turns that one of n rows has: the first ones, those in the middle, the last ones.
func turns(n int) []int {
	all := []int{0, 1, 2, 3, 7, 8, 15, 16, 127, 128, n / 3, n / 2, n - 3, n - 2, n - 1}
	all = slices.DeleteFunc(all, func(turn int) bool { return turn < 0 || turn >= n })
	slices.Sort(all)
	return slices.Compact(all)
}

// coefs is what the chapter says of a draw for n rows, place by place.
func coefs(given []byte, n, turn int) []byte {
	var told []byte
	nought := true
	for i := range n {
		x := byte(0)
		if i < len(given) {
			x = given[i]
		}
		nought = nought && x == 0
		told = append(told, x)
	}
	if nought {
		told[turn] = 1
	}
	return told
}

// unit is 1 at place i of n, else 0.
func unit(n, i int) []byte {
	row := make([]byte, n)
	row[i] = 1
	return row
}

// check asks for one draw's coefficients, and holds them against the chapter's words and against what is promised of all.
func check(t *testing.T, given []byte, n, turn int) []byte {
	t.Helper()
	before := slices.Clone(given)
	told, e := draw.Coefs(given, n, turn)
	want := coefs(before, n, turn)
	if e != api.OK || !slices.Equal(told, want) {
		t.Fatalf("draw %v, %d rows, turn %d: %v, %d; want %v", before, n, turn, told, e, want)
	}
	if !slices.Equal(given, before) {
		t.Fatalf("the draw %v of %d rows became %v", before, n, given)
	}
	return told
}

// refuse asks for coefficients that may not be.
func refuse(t *testing.T, given []byte, n, turn int) {
	t.Helper()
	before := slices.Clone(given)
	if told, e := draw.Coefs(given, n, turn); len(told) != 0 || e != api.ErrArg {
		t.Fatalf("draw %v, %d rows, turn %d: %v, %d", before, n, turn, told, e)
	}
	if !slices.Equal(given, before) {
		t.Fatalf("the draw %v of %d rows became %v", before, n, given)
	}
}

// TestExamples: the chapter's examples (P11.1, P11.2).
func TestExamples(t *testing.T) {
	for _, x := range []struct {
		given   []byte
		n, turn int
		want    []byte
	}{
		{[]byte{7, 0, 9, 1}, 3, 0, []byte{7, 0, 9}},
		{[]byte{7}, 3, 0, []byte{7, 0, 0}},
		{[]byte{0, 0, 0, 5}, 3, 2, []byte{0, 0, 1}},
		{nil, 2, 1, []byte{0, 1}},
	} {
		if told, e := draw.Coefs(x.given, x.n, x.turn); e != api.OK || !slices.Equal(told, x.want) {
			t.Error(x.given, x.n, x.turn, told, e)
		}
	}
	if turn, e := draw.Turn(7, 3); turn != 1 || e != api.OK {
		t.Error(turn, e)
	}
	if told, e := draw.Coefs(nil, 0, 0); len(told) != 0 || e != api.ErrArg {
		t.Error(told, e)
	}
	if draw.Systematic(3, 3) {
		t.Error("a fourth of three rows")
	}
}

// TestLimit: api's bound is the one that the tests go by (P11.1, P11.2).
func TestLimit(t *testing.T) {
	if api.MaxG != most {
		t.Error(api.MaxG)
	}
}

// TestCoefsOfAnyLength: fewer bytes than rows, as many, more; what is told has n bytes always (P11.1, P11.3).
func TestCoefsOfAnyLength(t *testing.T) {
	random := rand.New(rand.NewSource(11))
	for n := 1; n <= most; n++ {
		for _, length := range []int{0, 1, 2, n / 2, n - 1, n, n + 1, 2 * n, 255, 256, 257, 1000, 70001} {
			given := make([]byte, length)
			random.Read(given)
			for _, turn := range turns(n) {
				if told := check(t, given, n, turn); len(told) != n {
					t.Fatal(n, length, turn, len(told))
				}
			}
			for i := range given {
				if random.Intn(3) > 0 {
					given[i] = 0
				}
			}
			check(t, given, n, random.Intn(n))
		}
	}
}

// TestCoefsOfNoughts: a draw that is none, or is all 0, makes the row at turn alone, of each turn (P11.1, P11.3).
func TestCoefsOfNoughts(t *testing.T) {
	for n := 1; n <= most; n++ {
		for _, given := range [][]byte{nil, {}, {0}, make([]byte, n-1), make([]byte, n), make([]byte, n+1), make([]byte, 600)} {
			for turn := range n {
				if told := check(t, given, n, turn); !slices.Equal(told, unit(n, turn)) {
					t.Fatal(n, len(given), turn, told)
				}
			}
		}
	}
}

// TestCoefsBeyond: a draw that is 0 in its first n bytes makes the row at turn, whatever follows (P11.1, P11.3).
func TestCoefsBeyond(t *testing.T) {
	for n := 1; n <= most; n++ {
		for _, later := range []int{1, 2, 3, 10, 255, 256} {
			for _, x := range []byte{1, 2, 5, 128, 255} {
				given := append(make([]byte, n+later-1), x)
				for _, turn := range turns(n) {
					if told := check(t, given, n, turn); !slices.Equal(told, unit(n, turn)) {
						t.Fatal(n, later, turn, told)
					}
				}
			}
		}
		given := append(make([]byte, n), bytes.Repeat([]byte{9}, n)...)
		check(t, given, n, n-1)
	}
}

// TestCoefsOfOneByte: a draw with but one byte that is not 0, at each place, as short as may be and longer (P11.1, P11.3).
func TestCoefsOfOneByte(t *testing.T) {
	for n := 1; n <= most; n++ {
		for place := range n {
			x := byte(1 + (n+place)%255)
			for _, length := range []int{place + 1, n, n + 1} {
				given := make([]byte, max(length, place+1))
				given[place] = x
				for _, turn := range []int{0, place, n - 1 - place, n - 1} {
					told := check(t, given, n, turn)
					if at := bytes.IndexByte(told, x); at != place || bytes.Count(told, []byte{0}) != n-1 {
						t.Fatal(n, place, length, turn, told)
					}
				}
			}
		}
	}
	for x := 1; x < 256; x++ {
		for place := range 3 {
			given := make([]byte, 3)
			given[place] = byte(x)
			check(t, given, 3, 1)
		}
	}
}

// TestWrongCounts: of no such number of rows is there a draw, whatever is drawn and whosever turn it is (P11.1).
func TestWrongCounts(t *testing.T) {
	for _, n := range wrongCounts {
		for _, given := range [][]byte{nil, {}, {0}, {5}, {7, 0, 9, 1}, make([]byte, 255), bytes.Repeat([]byte{3}, 255), bytes.Repeat([]byte{3}, 600)} {
			for _, turn := range []int{0, 1, 2, 254, 255, 256, -1, -255, n - 1, n, n + 1, 1 << 32, math.MaxInt, math.MinInt} {
				refuse(t, given, n, turn)
			}
		}
	}
}

// TestWrongTurns: there is no such row's turn, also where the draw needs none (P11.1).
func TestWrongTurns(t *testing.T) {
	for n := 1; n <= most; n++ {
		for _, turn := range wrongTurns(n) {
			for _, given := range [][]byte{nil, {}, {0}, {5}, make([]byte, n), bytes.Repeat([]byte{3}, n), bytes.Repeat([]byte{3}, n+9)} {
				refuse(t, given, n, turn)
			}
		}
	}
}

// TestTurn: the remainder of sent by n, for each n, of small numbers, round multiples, and of the greatest ones (P11.2).
func TestTurn(t *testing.T) {
	for n := 1; n <= most; n++ {
		want := 0
		for sent := range uint64(3*n + 3) {
			if turn, e := draw.Turn(sent, n); turn != want || e != api.OK {
				t.Fatal(sent, n, turn, e, want)
			}
			if want++; want == n {
				want = 0
			}
		}
		by := uint64(n)
		for _, times := range []uint64{7, 255, 256, 1 << 16, 1 << 31, 1 << 32, 1<<40 - 1, 1 << 50, 1 << 55, (math.MaxUint64 - by) / by} {
			for rest := range by {
				if turn, e := draw.Turn(times*by+rest, n); turn != int(rest) || e != api.OK {
					t.Fatal(times, rest, n, turn, e)
				}
			}
		}
	}
}

// TestTurnOfGreat: each power of two, the number below it, and the greatest one, by a remainder that is taken bit by bit (P11.2).
func TestTurnOfGreat(t *testing.T) {
	for n := 1; n <= most; n++ {
		rest := 1 % n
		for bit := range 64 {
			below := (rest + n - 1) % n
			if turn, e := draw.Turn(1<<bit, n); turn != rest || e != api.OK {
				t.Fatal(bit, n, turn, e, rest)
			}
			if turn, e := draw.Turn(1<<bit-1, n); turn != below || e != api.OK {
				t.Fatal(bit, n, turn, e, below)
			}
			rest = 2 * rest % n
		}
		if turn, e := draw.Turn(math.MaxUint64, n); turn != (rest+n-1)%n || e != api.OK {
			t.Fatal(n, turn, e)
		}
	}
}

// TestTurnOfWrongCounts: no remainder by numbers of rows that may not be (P11.2).
func TestTurnOfWrongCounts(t *testing.T) {
	for _, n := range wrongCounts {
		for _, sent := range []uint64{0, 1, 7, 255, 256, 257, 1 << 32, 1<<63 - 1, 1 << 63, math.MaxUint64 - 1, math.MaxUint64} {
			if turn, e := draw.Turn(sent, n); turn != 0 || e != api.ErrArg {
				t.Fatal(sent, n, turn, e)
			}
		}
	}
}

// TestSystematic: of n rows those from 0 to n - 1, for each n from 1 to MaxG (P11.2).
func TestSystematic(t *testing.T) {
	for n := 1; n <= most; n++ {
		for turn := -300; turn <= 600; turn++ {
			want := turn >= 0 && turn <= n-1
			if draw.Systematic(turn, n) != want {
				t.Fatal(turn, n, want)
			}
		}
		for _, turn := range wrongTurns(n) {
			if draw.Systematic(turn, n) {
				t.Fatal(turn, n)
			}
		}
	}
}

// TestSystematicOfNoRows: of 0 rows, and of numbers below 0, no turn is one of theirs (P11.2).
func TestSystematicOfNoRows(t *testing.T) {
	for _, n := range wrongCounts {
		if n > 0 {
			continue
		}
		for _, turn := range []int{0, 1, -1, 2, 254, 255, n, n - 1, n + 1, -n, 1 << 32, math.MaxInt, math.MinInt, math.MinInt + 1} {
			if draw.Systematic(turn, n) {
				t.Fatal(turn, n)
			}
		}
	}
}

// TestSystematicOfMany: the promise asks for no bound on n here (P11.2).
func TestSystematicOfMany(t *testing.T) {
	for _, n := range []int{256, 257, 1000, 1 << 16, 1 << 32, 1<<32 + 1, 1 << 62, math.MaxInt - 1, math.MaxInt} {
		for _, turn := range []int{0, 1, 255, n / 2, n - 2, n - 1} {
			if !draw.Systematic(turn, n) {
				t.Fatal(turn, n)
			}
		}
		for _, turn := range []int{-1, -n, n, math.MinInt, math.MaxInt} {
			if draw.Systematic(turn, n) {
				t.Fatal(turn, n)
			}
		}
	}
}

// TestNeverNought: of all short draws of few numbers, for few rows, none is told as all 0 (P11.3).
func TestNeverNought(t *testing.T) {
	numbers := []byte{0, 1, 2, 128, 255}
	var given []byte
	var each func(left int)
	each = func(left int) {
		for n := 1; n <= 4; n++ {
			for turn := range n {
				if told := check(t, given, n, turn); bytes.Count(told, []byte{0}) == n {
					t.Fatal(given, n, turn, told)
				}
			}
		}
		if left == 0 {
			return
		}
		for _, x := range numbers {
			given = append(given, x)
			each(left - 1)
			given = given[:len(given)-1]
		}
	}
	each(5)
}

// TestDrawnByItself: a row that is not all 0, drawn by itself, is told as it is, whatever the turn (P11.3).
func TestDrawnByItself(t *testing.T) {
	for a := range 256 {
		for b := range 256 {
			row := []byte{byte(a), byte(b)}
			for turn := range 2 {
				if told := check(t, row, 2, turn); a+b > 0 && !slices.Equal(told, row) {
					t.Fatal(row, turn, told)
				}
			}
		}
		if told := check(t, []byte{byte(a)}, 1, 0); a > 0 && told[0] != byte(a) {
			t.Fatal(a, told)
		}
	}
	random := rand.New(rand.NewSource(12))
	for n := 1; n <= most; n++ {
		row := make([]byte, n)
		for range 4 {
			random.Read(row)
			row[random.Intn(n)] = byte(1 + random.Intn(255))
			for turn := range n {
				if told := check(t, row, n, turn); !slices.Equal(told, row) {
					t.Fatal(row, turn, told)
				}
			}
		}
	}
}

// TestByTurns: with empty draws, and turns that go on by one from any number on, n draws are all units, each once (P11.4).
func TestByTurns(t *testing.T) {
	for n := 1; n <= most; n++ {
		for _, first := range []uint64{0, 1, uint64(n) - 1, uint64(n), uint64(n) + 1, 1000, 1<<32 - 3, 1<<63 - 7, math.MaxUint64 - uint64(n) + 1} {
			seen := make([]int, n)
			for i := range uint64(n) {
				turn, e := draw.Turn(first+i, n)
				if e != api.OK || !draw.Systematic(turn, n) {
					t.Fatal(n, first, i, turn, e)
				}
				told := check(t, nil, n, turn)
				at := bytes.IndexByte(told, 1)
				if at < 0 || bytes.Count(told, []byte{0}) != n-1 {
					t.Fatal(n, first, i, told)
				}
				seen[at]++
			}
			for at, times := range seen {
				if times != 1 {
					t.Fatal(n, first, at, times)
				}
			}
		}
	}
}

// TestToldIsNew: writing to an answer, or past its end as far as it has room, shows neither in the draw nor in another answer (R3).
func TestToldIsNew(t *testing.T) {
	for _, n := range []int{1, 2, 3, 8, 255} {
		for _, length := range []int{0, 1, n - 1, n, n + 1, 2*n + 5} {
			for _, x := range []byte{0, 9} {
				// The draw has room behind it, which no call is to write to either.
				room := bytes.Repeat([]byte{x}, length+2*n)
				for i := length; i < len(room); i++ {
					room[i] = 77
				}
				before := slices.Clone(room)
				given := room[:length]
				first, second := check(t, given, n, n-1), check(t, given, n, n-1)
				kept := slices.Clone(second)
				first = first[:cap(first)]
				for i := range first {
					first[i] = 200
				}
				if !slices.Equal(room, before) || !slices.Equal(second, kept) {
					t.Fatal(n, length, x, room, second)
				}
				for i := range room {
					room[i] = 100
				}
				if !slices.Equal(second, kept) {
					t.Fatal(n, length, x, second)
				}
				check(t, make([]byte, length), n, 0)
			}
		}
	}
}

// TestEmptyIsNil: no draw is one of no bytes, also beside an error (R4, R2).
func TestEmptyIsNil(t *testing.T) {
	for n := -2; n <= 258; n++ {
		for _, turn := range []int{-1, 0, n / 2, n - 1, n} {
			none, e := draw.Coefs(nil, n, turn)
			empty, f := draw.Coefs([]byte{}, n, turn)
			if e != f || !slices.Equal(none, empty) {
				t.Fatal(n, turn, none, e, empty, f)
			}
		}
	}
}

// TestWhateverRunsBeside: one draw, asked for many times at once, is told as if alone (R7).
func TestWhateverRunsBeside(t *testing.T) {
	var beside sync.WaitGroup
	given := append(make([]byte, 40), 7)
	for worker := range 8 {
		beside.Add(1)
		go func() {
			defer beside.Done()
			for n := 1; n <= most; n++ {
				turn, e := draw.Turn(uint64(worker)*1000, n)
				told, f := draw.Coefs(given, n, turn)
				if e != api.OK || f != api.OK || !slices.Equal(told, coefs(given, n, worker*1000%n)) {
					t.Error(worker, n, told, e, f)
				}
			}
		}()
	}
	beside.Wait()
}
