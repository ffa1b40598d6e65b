package pad_test

import (
	"bytes"
	"math"
	"slices"
	"testing"

	"braidwork/api"
	"braidwork/pad"
)

// size is how many symbols a generation has, of how many bytes each.
type size struct{ g, s int }

func (x size) room() int { return x.g*x.s - 4 }

// sizes are some that a generation may have, from the least products on, each of them laid in several ways.
var sizes = []size{
	{1, 5}, {5, 1}, {2, 3}, {3, 2}, {1, 6}, {6, 1}, {7, 1}, {4, 2}, {2, 4}, {3, 3}, {1, 8}, {8, 1}, {3, 5}, {5, 3}, {4, 5}, {5, 4}, {9, 7},
	{1, 260}, {4, 65}, {26, 10}, {255, 1}, {1, 255}, {255, 2}, {2, 255}, {2, 256}, {3, 257}, {16, 32}, {255, 3}, {64, 1024}, {1, 65535},
}

// greatSizes are those of which one call takes long.
var greatSizes = []size{{2, 65535}, {255, 258}, {255, 65535}}

// small are those of which every case can be gone through.
var small = []size{{1, 5}, {5, 1}, {2, 3}, {3, 2}, {1, 7}, {7, 1}, {3, 3}}

// odd are numbers that neither g nor s may be, among them those that may when only their lowest bits are seen.
var odd = []int{
	0, -1, -2, -3, -5, -255, -256, -65535, -65536, 65536, 65537, 65540, 70000, 1 << 20, 1<<32 - 1, 1 << 32, 1<<32 + 1, 1<<32 + 5, 1<<32 + 100,
	math.MaxInt32, math.MinInt32, math.MinInt32 + 7, 1 << 62, 1<<62 + 3, math.MaxInt - 1, math.MaxInt, math.MinInt, math.MinInt + 1, math.MinInt + 9,
}

// wrongSizes are those that no generation may have.
func wrongSizes() []size {
	all := []size{{1, 1}, {1, 2}, {1, 3}, {1, 4}, {2, 1}, {2, 2}, {3, 1}, {4, 1}}
	for _, x := range []int{1, 2, 3, 4, 5, 6, 100, 254, 255} {
		for _, wrong := range odd {
			all = append(all, size{x, wrong}, size{wrong, x})
		}
	}
	for _, s := range []int{1, 2, 3, 5, 255, 256, 1000, 65535} {
		for _, g := range []int{256, 257, 258, 260, 511, 512, 1000, 65535} {
			all = append(all, size{g, s})
		}
	}
	for _, g := range odd {
		for _, s := range odd {
			all = append(all, size{g, s})
		}
	}
	return all
}

// some makes numbers, always the same ones of one seed.
type some uint64

func seeded(seed int) *some {
	x := some(seed)*7919 + 5
	return &x
}

func (x *some) below(n int) int {
	*x = *x*6364136223846793005 + 1442695040888963407
	return int(uint64(*x)>>33) % n
}

// bytes are none of them 0.
func (x *some) bytes(n int) []byte {
	b := make([]byte, n)
	for i := range b {
		b[i] = byte(1 + x.below(255))
	}
	return b
}

// cuts are so many, rising, of a stream of so many bytes.
func (x *some) cuts(n, length int) []int {
	all := make([]int, n)
	for i := range all {
		all[i] = x.below(length + 1)
	}
	slices.Sort(all)
	return all
}

// plainLay goes by the words of the chapter from the other end: it asks of each place of each symbol what stands there.
func plainLay(chunk []byte, x size) [][]byte {
	symbols := make([][]byte, x.g)
	for i := range symbols {
		symbols[i] = make([]byte, x.s)
		for j := range symbols[i] {
			switch at := i*x.s + j; {
			case at < 4:
				symbols[i][j] = byte(len(chunk) / []int{256 * 256 * 256, 256 * 256, 256, 1}[at])
			case at < 4+len(chunk):
				symbols[i][j] = chunk[at-4]
			}
		}
	}
	return symbols
}

// plainTake looks for the one chunk, among all that stand behind the number, whose symbols these are.
func plainTake(symbols [][]byte, x size) []byte {
	laid := bytes.Join(symbols, nil)
	for n := 1; n <= x.room(); n++ {
		if same(plainLay(laid[4:4+n], x), symbols) {
			return laid[4 : 4+n]
		}
	}
	return nil
}

// plainChunks goes byte by byte.
func plainChunks(stream []byte, cuts []int, x size) ([][]byte, []byte) {
	var chunks [][]byte
	var open []byte
	for i, b := range stream {
		open = append(open, b)
		if len(open) == x.room() || slices.Contains(cuts, i+1) {
			chunks, open = append(chunks, open), nil
		}
	}
	return chunks, open
}

// rise asks whether the cuts may be, of a stream of so many bytes.
func rise(cuts []int, length int) bool {
	return slices.IsSorted(cuts) && (len(cuts) == 0 || slices.Min(cuts) >= 0 && slices.Max(cuts) <= length)
}

func same(a, b [][]byte) bool { return slices.EqualFunc(a, b, bytes.Equal) }

func clone(l [][]byte) [][]byte {
	c := make([][]byte, len(l))
	for i := range c {
		c[i] = bytes.Clone(l[i])
	}
	return c
}

// cutUp is b in symbols.
func cutUp(b []byte, x size) [][]byte { return clone(slices.Collect(slices.Chunk(b, x.s))) }

func equal(t *testing.T, what string, got, want [][]byte) {
	t.Helper()
	if !same(got, want) {
		t.Fatalf("%s: %d pieces %.60x, not %d pieces %.60x", what, len(got), got, len(want), want)
	}
}

// These are for calls that have to go well.

func lay(t *testing.T, chunk []byte, x size) [][]byte {
	t.Helper()
	symbols, e := pad.Lay(chunk, x.g, x.s)
	if e != api.OK {
		t.Fatalf("Lay of %d bytes for %v: error %d", len(chunk), x, e)
	}
	return symbols
}

func take(t *testing.T, symbols [][]byte, x size) []byte {
	t.Helper()
	chunk, e := pad.Take(symbols, x.g, x.s)
	if e != api.OK {
		t.Fatalf("Take of %.60x for %v: error %d", symbols, x, e)
	}
	return chunk
}

func chunked(t *testing.T, stream []byte, cuts []int, x size) ([][]byte, []byte) {
	t.Helper()
	chunks, open, e := pad.Chunks(stream, cuts, x.g, x.s)
	if e != api.OK {
		t.Fatalf("Chunks of %d bytes with cuts %v for %v: error %d", len(stream), cuts, x, e)
	}
	return chunks, open
}

// These are for calls that have to go wrong.

func layNot(t *testing.T, chunk []byte, x size, want api.Errno) {
	t.Helper()
	if symbols, e := pad.Lay(chunk, x.g, x.s); len(symbols) != 0 || e != want {
		t.Fatalf("Lay of %d bytes for %v: %.60x, error %d, not %d", len(chunk), x, symbols, e, want)
	}
}

func takeNot(t *testing.T, symbols [][]byte, x size, want api.Errno) {
	t.Helper()
	if chunk, e := pad.Take(symbols, x.g, x.s); len(chunk) != 0 || e != want {
		t.Fatalf("Take of %.60x for %v: %.60x, error %d, not %d", symbols, x, chunk, e, want)
	}
}

func chunkedNot(t *testing.T, stream []byte, cuts []int, x size) {
	t.Helper()
	if chunks, open, e := pad.Chunks(stream, cuts, x.g, x.s); len(chunks) != 0 || len(open) != 0 || e != api.ErrArg {
		t.Fatalf("Chunks of %d bytes with cuts %v for %v: %.60x, open %.60x, error %d", len(stream), cuts, x, chunks, open, e)
	}
}

// chunksAre holds Chunks against what goes by the chapter's words byte by byte.
func chunksAre(t *testing.T, stream []byte, cuts []int, x size) {
	t.Helper()
	if !rise(cuts, len(stream)) {
		chunkedNot(t, stream, cuts, x)
		return
	}
	chunks, open := chunked(t, stream, cuts, x)
	wantChunks, wantOpen := plainChunks(stream, cuts, x)
	if !same(chunks, wantChunks) || !bytes.Equal(open, wantOpen) {
		t.Fatalf("Chunks of %x with cuts %v for %v: %.60x, open %.60x, not %.60x, open %.60x", stream, cuts, x, chunks, open, wantChunks, wantOpen)
	}
}

func TestExamples(t *testing.T) { // P9.1, P9.2, P9.3
	x := size{2, 3}
	if n, e := pad.Room(2, 3); n != 2 || e != api.OK {
		t.Error("Room:", n, e)
	}
	if n, e := pad.Room(1, 4); n != 0 || e != api.ErrArg {
		t.Error("Room of 1, 4:", n, e)
	}
	equal(t, "Lay", lay(t, []byte("a"), x), [][]byte{{0, 0, 0}, {1, 'a', 0}})
	equal(t, "Lay", lay(t, []byte("ab"), x), [][]byte{{0, 0, 0}, {2, 'a', 'b'}})
	takeNot(t, [][]byte{{0, 0, 0}, {1, 'a', 1}}, x, api.ErrForm)
	takeNot(t, [][]byte{{0, 0, 0}, {3, 'a', 'b'}}, x, api.ErrForm)
	chunks, open := chunked(t, []byte("abcdefg"), []int{3, 3}, x)
	equal(t, "Chunks", chunks, [][]byte{[]byte("ab"), []byte("c"), []byte("de"), []byte("fg")})
	if len(open) != 0 {
		t.Errorf("open: %q", open)
	}
}

func TestRoom(t *testing.T) { // P9.1: of all that a generation may have
	for g := 1; g <= 255; g++ {
		want := -4
		for s := 1; s <= 65535; s++ {
			want += g
			n, e := pad.Room(g, s)
			if want > 0 && (n != want || e != api.OK) || want <= 0 && (n != 0 || e != api.ErrArg) {
				t.Fatalf("Room(%d, %d): %d, error %d, not %d", g, s, n, e, want)
			}
		}
	}
}

func TestWrongSizes(t *testing.T) { // P9.1, P9.2, P9.3: ErrArg, ahead of all others
	five := [][]byte{{0, 0, 0, 1, 7}}
	for _, x := range wrongSizes() {
		if n, e := pad.Room(x.g, x.s); n != 0 || e != api.ErrArg {
			t.Fatalf("Room(%d, %d): %d, error %d", x.g, x.s, n, e)
		}
		for _, chunk := range [][]byte{nil, {}, {7}, make([]byte, 300)} {
			layNot(t, chunk, x, api.ErrArg)
			chunkedNot(t, chunk, nil, x)
			chunkedNot(t, chunk, []int{len(chunk)}, x)
			chunkedNot(t, chunk, []int{len(chunk) + 1}, x)
		}
		for _, symbols := range [][][]byte{nil, {}, {nil}, five, {{0}, {0}, {0}, {1}, {7}}, {{}, {}, {}, {}, {}}} {
			takeNot(t, symbols, x, api.ErrArg)
		}
	}
}

func TestTakeOfWrongSizesThatFit(t *testing.T) { // P9.2: as many symbols, each of as many bytes, as no generation may have
	for _, x := range []size{{1, 1}, {1, 2}, {1, 3}, {1, 4}, {2, 1}, {2, 2}, {3, 1}, {4, 1}, {256, 1}, {256, 5}, {300, 2}, {1, 65536}, {2, 65537}, {5, 0}, {255, 0}, {0, 5}} {
		symbols := make([][]byte, x.g)
		for i := range symbols {
			symbols[i] = make([]byte, x.s)
		}
		takeNot(t, symbols, x, api.ErrArg)
		if x.g*x.s > 4 {
			symbols[3/x.s][3%x.s] = 1
			takeNot(t, symbols, x, api.ErrArg)
		}
	}
}

// lengths are how many bytes a chunk may have, round all edges.
func lengths(x size) []int {
	all := []int{1, 2, 3, 4, 5, x.s - 1, x.s, x.s + 1, 127, 128, 254, 255, 256, 257, 511, 512, 1000, 65530, 65535, 65536, 65537, x.room() / 2, x.room() - 2, x.room() - 1, x.room()}
	slices.Sort(all)
	return slices.DeleteFunc(slices.Compact(all), func(n int) bool { return n < 1 || n > x.room() })
}

// fillings are chunks of so many bytes: without a 0, only noughts, noughts first, noughts last, the greatest bytes.
func fillings(n int) [][]byte {
	b := seeded(n).bytes(n)
	first, last := bytes.Clone(b), bytes.Clone(b)
	first[0], last[n-1] = 0, 0
	return [][]byte{b, make([]byte, n), first, last, bytes.Repeat([]byte{255}, n)}
}

func TestLayAndTake(t *testing.T) { // P9.1, P9.2, P9.4
	for _, x := range sizes {
		for _, n := range lengths(x) {
			for _, chunk := range fillings(n) {
				symbols := lay(t, chunk, x)
				equal(t, "Lay", symbols, plainLay(chunk, x))
				equal(t, "Take of what Lay told", [][]byte{take(t, symbols, x)}, [][]byte{chunk})
			}
		}
	}
}

func TestGreatLayAndTake(t *testing.T) { // P9.1, P9.2, P9.4
	for _, x := range greatSizes {
		for _, n := range []int{1, 65535, 65536, 65537, x.room() - 1, x.room()} {
			chunk := seeded(n).bytes(min(n, x.room()))
			symbols := lay(t, chunk, x)
			laid := slices.Concat(symbols...)
			if len(symbols) != x.g || slices.ContainsFunc(symbols, func(symbol []byte) bool { return len(symbol) != x.s }) {
				t.Fatalf("Lay of %d bytes for %v: not so many symbols, or not of so many bytes", n, x)
			}
			number := []byte{0, byte(len(chunk) >> 16), byte(len(chunk) >> 8), byte(len(chunk))}
			equal(t, "Lay", [][]byte{laid}, [][]byte{slices.Concat(number, chunk, make([]byte, x.room()-len(chunk)))})
			equal(t, "Take of what Lay told", [][]byte{take(t, symbols, x)}, [][]byte{chunk})
		}
		layNot(t, make([]byte, x.room()+1), x, api.ErrLong)
	}
}

func TestLayTheWrongNumberOfBytes(t *testing.T) { // P9.1
	for _, x := range sizes {
		layNot(t, nil, x, api.ErrShort)
		layNot(t, []byte{}, x, api.ErrShort)
		layNot(t, []byte{1, 2, 3}[:0], x, api.ErrShort)
		for _, n := range []int{1, 2, 3, 4, 5, 8, 255, 256, 65535, 65536, x.room(), 2 * x.room()} {
			layNot(t, make([]byte, x.room()+n), x, api.ErrLong)
		}
		lay(t, make([]byte, x.room()), x)
	}
}

func TestTakeOfOtherSizes(t *testing.T) { // P9.2: ErrDim, ahead of ErrForm
	for _, x := range sizes {
		for _, symbols := range [][][]byte{plainLay([]byte{7}, x), plainLay(make([]byte, x.room()), x), cutUp(make([]byte, x.g*x.s), x), cutUp(bytes.Repeat([]byte{255}, x.g*x.s), x)} {
			takeNot(t, symbols[:x.g-1], x, api.ErrDim)
			takeNot(t, symbols[1:], x, api.ErrDim)
			for _, more := range [][]byte{nil, {}, {0}, {1}, make([]byte, x.s)} {
				takeNot(t, append(clone(symbols), more), x, api.ErrDim)
				takeNot(t, append([][]byte{more}, symbols...), x, api.ErrDim)
			}
			takeNot(t, slices.Concat(symbols, symbols), x, api.ErrDim)
			for _, i := range []int{0, 1, x.g / 2, x.g - 2, x.g - 1} {
				if i < 0 || i >= x.g {
					continue
				}
				for _, other := range [][]byte{nil, {}, symbols[i][1:], symbols[i][:x.s-1], append(bytes.Clone(symbols[i]), 0), append([]byte{0}, symbols[i]...), make([]byte, 2*x.s), make([]byte, x.s+256)} {
					wrong := clone(symbols)
					wrong[i] = other
					takeNot(t, wrong, x, api.ErrDim)
				}
			}
		}
		for _, none := range [][][]byte{nil, {}, make([][]byte, x.g+1), make([][]byte, x.g)} {
			takeNot(t, none, x, api.ErrDim)
		}
	}
}

func TestTakeOfAsManyBytesOtherwiseCut(t *testing.T) { // P9.2
	for _, x := range sizes {
		laid := bytes.Join(plainLay([]byte{7}, x), nil)
		if x.g > 1 {
			takeNot(t, [][]byte{laid}, x, api.ErrDim)
			all := make([][]byte, x.g)
			all[0] = laid
			takeNot(t, all, x, api.ErrDim)
			slices.Reverse(all)
			takeNot(t, all, x, api.ErrDim)
			symbols := cutUp(laid, x)
			symbols[0], symbols[x.g-1] = append(symbols[0], symbols[1][0]), symbols[x.g-1][:x.s-1]
			takeNot(t, symbols, x, api.ErrDim)
			slices.Reverse(symbols)
			takeNot(t, symbols, x, api.ErrDim)
		}
		if x.g != x.s {
			takeNot(t, cutUp(laid, size{x.s, x.g}), x, api.ErrDim)
		}
		if x.s > 1 {
			takeNot(t, cutUp(laid, size{x.g * x.s, 1}), x, api.ErrDim)
		}
	}
}

func TestTakeOfWrongNumbers(t *testing.T) { // P9.2: of 0, and of each sort above the room
	for _, x := range sizes {
		room := uint32(x.room())
		for _, fill := range []byte{0, 7, 255} {
			laid := bytes.Repeat([]byte{fill}, x.g*x.s)
			for _, n := range []uint32{
				0, room + 1, room + 2, room + 3, room + 4, room + 5, 2 * room, room + 256, room + 1<<16, room + 1<<24, room | 1<<31, 1<<24 + 1, 1 << 24, 1<<24 | 1<<31, 1 << 31, 1<<31 + 1,
				1<<31 - 1, math.MaxUint32, math.MaxUint32 - 1, math.MaxUint32 - 3, math.MaxUint32 - room, math.MaxUint32 - room + 1,
			} {
				copy(laid, []byte{byte(n >> 24), byte(n >> 16), byte(n >> 8), byte(n)})
				takeNot(t, cutUp(laid, x), x, api.ErrForm)
			}
			copy(laid, []byte{0, byte(room >> 16), byte(room >> 8), byte(room)})
			equal(t, "Take", [][]byte{take(t, cutUp(laid, x), x)}, [][]byte{laid[4:]})
		}
	}
}

func TestTakeOfBytesBehindTheChunk(t *testing.T) { // P9.2: at each place, whichever bit
	for _, x := range sizes[:24] {
		for _, n := range lengths(x) {
			chunk := seeded(n).bytes(n)
			laid := bytes.Join(plainLay(chunk, x), nil)
			for at := 4 + n; at < len(laid); at++ {
				for _, wrong := range []byte{1, 2, 4, 8, 16, 32, 64, 128, 255} {
					laid[at] = wrong
					takeNot(t, cutUp(laid, x), x, api.ErrForm)
				}
				laid[at] = 0
			}
			equal(t, "Take", [][]byte{take(t, cutUp(laid, x), x)}, [][]byte{chunk})
		}
	}
}

func TestTakeOfEverySort(t *testing.T) { // P9.2, P9.4: each place of seven or fewer bytes filled with each of some
	counts := [2]int{}
	for _, x := range []size{{1, 5}, {5, 1}, {2, 3}, {3, 2}, {7, 1}} {
		fill := []byte{0, 1, 2, 3, 255}
		laid := make([]byte, x.g*x.s)
		var fillFrom func(at int)
		fillFrom = func(at int) {
			if at < len(laid) {
				for _, laid[at] = range fill {
					fillFrom(at + 1)
				}
				return
			}
			symbols := cutUp(laid, x)
			want := plainTake(symbols, x)
			if want == nil {
				counts[0]++
				takeNot(t, symbols, x, api.ErrForm)
				return
			}
			counts[1]++
			chunk := take(t, symbols, x)
			equal(t, "Take", [][]byte{chunk}, [][]byte{want})
			equal(t, "Lay of what Take told", lay(t, chunk, x), symbols)
		}
		fillFrom(0)
	}
	if counts != [2]int{115400, 225} {
		t.Error("not all were gone through:", counts)
	}
}

func TestChunks(t *testing.T) { // P9.3
	x := size{2, 3} // two bytes are as many as there is room for
	for _, c := range []struct {
		stream string
		cuts   []int
		chunks []string
		open   string
	}{
		{"", nil, nil, ""},
		{"", []int{0}, nil, ""},
		{"", []int{0, 0, 0}, nil, ""},
		{"a", nil, nil, "a"},
		{"a", []int{0}, nil, "a"},
		{"a", []int{0, 0}, nil, "a"},
		{"a", []int{1}, []string{"a"}, ""},
		{"a", []int{1, 1}, []string{"a"}, ""},
		{"a", []int{0, 0, 1, 1}, []string{"a"}, ""},
		{"ab", nil, []string{"ab"}, ""},
		{"ab", []int{0}, []string{"ab"}, ""},
		{"ab", []int{1}, []string{"a"}, "b"},
		{"ab", []int{2}, []string{"ab"}, ""},
		{"ab", []int{2, 2}, []string{"ab"}, ""},
		{"ab", []int{1, 2}, []string{"a", "b"}, ""},
		{"abc", nil, []string{"ab"}, "c"},
		{"abc", []int{1}, []string{"a", "bc"}, ""},
		{"abc", []int{2}, []string{"ab"}, "c"},
		{"abc", []int{3}, []string{"ab", "c"}, ""},
		{"abc", []int{1, 2}, []string{"a", "b"}, "c"},
		{"abc", []int{1, 2, 3}, []string{"a", "b", "c"}, ""},
		{"abcd", []int{3}, []string{"ab", "c"}, "d"},
		{"abcd", []int{1}, []string{"a", "bc"}, "d"},
		{"abcd", []int{4}, []string{"ab", "cd"}, ""},
		{"abcd", []int{1, 4}, []string{"a", "bc", "d"}, ""},
		{"abcdefg", []int{5}, []string{"ab", "cd", "e", "fg"}, ""},
		{"abcdefgh", []int{3, 3}, []string{"ab", "c", "de", "fg"}, "h"},
		{"abcdefgh", []int{0, 3, 3, 6, 6, 8}, []string{"ab", "c", "de", "f", "gh"}, ""},
	} {
		chunks, open := chunked(t, []byte(c.stream), c.cuts, x)
		want := make([][]byte, len(c.chunks))
		for i := range want {
			want[i] = []byte(c.chunks[i])
		}
		equal(t, c.stream, chunks, want)
		equal(t, c.stream+": open", [][]byte{open}, [][]byte{[]byte(c.open)})
	}
}

func TestChunksOfEverySort(t *testing.T) { // P9.3: streams of up to eight bytes with up to three cuts, right and wrong ones
	counts := [2]int{}
	for _, x := range small {
		for length := range 9 {
			stream := seeded(length).bytes(length)
			chunksAre(t, stream, nil, x)
			for first := -2; first <= length+2; first++ {
				chunksAre(t, stream, []int{first}, x)
				for second := -2; second <= length+2; second++ {
					chunksAre(t, stream, []int{first, second}, x)
					for third := -2; third <= length+2; third++ {
						cuts := []int{first, second, third}
						chunksAre(t, stream, cuts, x)
						if rise(cuts, length) {
							counts[1]++
						} else {
							counts[0]++
						}
					}
				}
			}
		}
	}
	if counts != [2]int{53802, 3465} {
		t.Error("not all were gone through:", counts)
	}
}

func TestChunksOfLongerStreams(t *testing.T) { // P9.3
	for i, x := range sizes {
		r, s := seeded(i), x.room()
		for _, length := range []int{0, 1, s - 1, s, s + 1, 2*s - 1, 2 * s, 2*s + 1, 3*s + s/2} {
			if length > 200000 {
				continue
			}
			stream := r.bytes(length)
			for _, cuts := range [][]int{nil, {0}, {length}, {0, 0, length, length}, {length / 2}, {length / 2, length / 2}, r.cuts(2, length), r.cuts(9, length), r.cuts(30, length)} {
				chunksAre(t, stream, cuts, x)
			}
			for _, cut := range []int{s - 1, s, s + 1, 2*s - 1, 2 * s, 2*s + 1} {
				chunksAre(t, stream, []int{cut}, x)
				chunksAre(t, stream, []int{1, cut}, x)
				chunksAre(t, stream, []int{cut, cut + s}, x)
			}
		}
	}
}

func TestChunksOfTheLongestStreams(t *testing.T) { // P9.3: as long as a flow's may be, and longer
	for _, length := range []int{api.MaxStream, api.MaxStream + 1, 1 << 20} {
		stream := seeded(length).bytes(length)
		for _, x := range []size{{1, 5}, {5, 1}, {255, 3}, {2, 65535}, {255, 65535}} {
			chunksAre(t, stream, nil, x)
			chunksAre(t, stream, []int{0, 3, 4, 70001, 70001, length - 1}, x)
			chunksAre(t, stream, []int{length}, x)
		}
	}
	every := make([]int, 3000)
	for i := range every {
		every[i] = i + 1
	}
	chunksAre(t, make([]byte, 3000), every, size{2, 9})
	chunksAre(t, make([]byte, 3010), every, size{2, 9})
}

func TestChunksOfWrongCuts(t *testing.T) { // P9.3: ErrArg, wherever the wrong one stands, however far off it is
	for _, x := range sizes {
		for _, length := range []int{0, 1, 5, 300} {
			stream := make([]byte, length)
			for _, wrong := range []int{-1, -2, -length - 1, length + 1, length + 2, length + 256, length + 1<<32, math.MaxInt32, math.MinInt32, 1 << 62, math.MinInt + length, math.MaxInt - 1, math.MaxInt, math.MinInt, math.MinInt + 1} {
				for _, cuts := range [][]int{{wrong}, {wrong, length}, {0, wrong}, {0, wrong, length}, {wrong, wrong}, {0, length, wrong}, {wrong, 0, length}} {
					chunkedNot(t, stream, cuts, x)
				}
			}
			if length > 1 {
				for _, cuts := range [][]int{{1, 0}, {length, length - 1}, {0, 2, 1}, {length, 0}, {2, 1, 2}, {1, 1, 0}, {0, 1, 2, 3, 2}, {1, 0, 1, 2, 3}, {0, length, length, 1}} {
					chunkedNot(t, stream, cuts, x)
				}
			}
		}
	}
}

func TestACutClosesWhatIsAhead(t *testing.T) { // P9.3: also if that is as long as there is room for
	for _, x := range sizes {
		s := x.room()
		stream := seeded(s).bytes(2*s + 1)
		with, _ := chunked(t, stream[:s], []int{s}, x)
		without, open := chunked(t, stream[:s], nil, x)
		equal(t, "with a cut", with, [][]byte{stream[:s]})
		equal(t, "without one", without, [][]byte{stream[:s]})
		with, _ = chunked(t, stream[:s], []int{s, s}, x)
		equal(t, "with two of them", with, [][]byte{stream[:s]})
		if len(open) != 0 {
			t.Fatalf("open: %.60x", open)
		}
		if s == 1 {
			continue
		}
		with, open = chunked(t, stream, []int{2 * s}, x)
		equal(t, "with a cut further on", with, [][]byte{stream[:s], stream[s : 2*s]})
		equal(t, "behind it", [][]byte{open}, [][]byte{stream[2*s:]})
		with, open = chunked(t, stream[:s], []int{1}, x)
		equal(t, "with a cut ahead", with, [][]byte{stream[:1]})
		equal(t, "behind it", [][]byte{open}, [][]byte{stream[1:s]})
		with, open = chunked(t, stream[:s+1], []int{1}, x)
		equal(t, "with a cut ahead, and as much behind", with, [][]byte{stream[:1], stream[1 : s+1]})
		equal(t, "behind it", [][]byte{open}, [][]byte{nil})
	}
}

func TestBack(t *testing.T) { // P9.4
	for i, x := range sizes {
		r := seeded(i)
		for range 12 {
			length := r.below(min(4*x.room(), 5000)) + r.below(3)
			stream, cuts := r.bytes(length), r.cuts(r.below(6), length)
			chunks, open := chunked(t, stream, cuts, x)
			equal(t, "all of it", [][]byte{bytes.Join(append(clone(chunks), open), nil)}, [][]byte{stream})
			if len(open) >= x.room() {
				t.Fatalf("Chunks for %v: %d bytes are open", x, len(open))
			}
			for _, chunk := range chunks {
				if len(chunk) == 0 {
					t.Fatalf("Chunks of %d bytes with cuts %v for %v: a chunk without a byte", length, cuts, x)
				}
				equal(t, "Take of what Lay told", [][]byte{take(t, lay(t, chunk, x), x)}, [][]byte{chunk})
			}
		}
	}
}

func TestMoreBytesChangeNoChunk(t *testing.T) { // P9.4
	for i, x := range sizes[:22] {
		r := seeded(i)
		stream := r.bytes(3*x.room() + 5)
		for _, length := range []int{0, 1, 2, x.room() - 1, x.room(), x.room() + 1, 2 * x.room(), 2*x.room() + 1} {
			for _, cuts := range [][]int{nil, {0}, {length}, {length, length}, r.cuts(1, length), r.cuts(4, length)} {
				chunks, open := chunked(t, stream[:length], cuts, x)
				for more := range min(x.room(), 40) + 4 {
					longer, _ := chunked(t, stream[:length+more], cuts, x)
					if len(longer) < len(chunks) || len(open)+more < x.room() && len(longer) > len(chunks) {
						t.Fatalf("%d bytes behind %d with cuts %v for %v: %d chunks, then %d", more, length, cuts, x, len(chunks), len(longer))
					}
					equal(t, "the chunks ahead", longer[:len(chunks)], chunks)
				}
			}
		}
	}
}

// call is one of the calls that are given bytes: what it tells of them, in pieces.
type call func(given [][]byte, x size) [][]byte

// calls are given a chunk, symbols, and a stream.
var calls = map[string]call{
	"Lay": func(given [][]byte, x size) [][]byte {
		symbols, _ := pad.Lay(given[0], x.g, x.s)
		return symbols
	},
	"Take": func(given [][]byte, x size) [][]byte {
		chunk, _ := pad.Take(given, x.g, x.s)
		return [][]byte{chunk}
	},
	"Chunks": func(given [][]byte, x size) [][]byte {
		chunks, open, _ := pad.Chunks(given[0], []int{1, len(given[0]) / 2}, x.g, x.s)
		return append(chunks, open)
	},
}

// givens are what the call of that name is given in turn.
func givens(name string, x size) [][][]byte {
	var all [][][]byte
	for _, n := range lengths(x) {
		chunk := seeded(n).bytes(n)
		switch name {
		case "Lay":
			all = append(all, [][]byte{chunk})
		case "Take":
			all = append(all, plainLay(chunk, x))
		case "Chunks":
			all = append(all, [][]byte{slices.Concat(chunk, chunk, chunk, chunk[:n/2])})
		}
	}
	return all
}

// roomy is l with its lists one behind the other in one piece of memory, and room behind them.
func roomy(l [][]byte) ([][]byte, []byte) {
	piece := append(bytes.Join(l, nil), bytes.Repeat([]byte{0xa5}, 9)...)
	given, at := make([][]byte, len(l), len(l)+3), 0
	for i := range l {
		given[i] = piece[at : at+len(l[i])]
		at += len(l[i])
	}
	return given, piece
}

// wipe turns each byte, and of the room behind them, into another one.
func wipe(b []byte) {
	for i := range b[:cap(b)] {
		b[:cap(b)][i] ^= 0xff
	}
}

// each goes through all calls, with all that they are given, of some sizes.
func each(do func(name string, c call, given [][]byte, x size)) {
	for name, c := range calls {
		for _, x := range sizes[:24] {
			for _, given := range givens(name, x) {
				do(name, c, given, x)
			}
		}
	}
}

func TestGivenStays(t *testing.T) { // R3
	each(func(name string, c call, given [][]byte, x size) {
		laid, piece := roomy(given)
		kept := bytes.Clone(piece)
		told := c(laid, x)
		equal(t, name+": given", laid, given)
		if !bytes.Equal(piece, kept) {
			t.Fatalf("%s: what lies behind the given was written to", name)
		}
		for _, b := range told {
			wipe(b)
		}
		equal(t, name+": given, and the told written to", laid, given)
		if !bytes.Equal(piece, kept) {
			t.Fatalf("%s: what lies behind the given shares with the told", name)
		}
		for _, b := range laid[len(laid):cap(laid)] {
			if b != nil {
				t.Fatalf("%s: what lies behind the list was written to", name)
			}
		}
	})
}

func TestToldIsNew(t *testing.T) { // R3: apart from the given, and each piece apart from the others, also when more is laid behind it
	each(func(name string, c call, given [][]byte, x size) {
		given = clone(given)
		told := c(given, x)
		want := clone(told)
		for _, b := range given {
			wipe(b)
		}
		clear(given)
		equal(t, name+": told, and the given written to", told, want)
		for i := range told {
			if x.g*x.s > 300 && i%50 != 0 && i != len(told)-1 {
				continue
			}
			piece := told[i]
			_ = append(piece, 1, 2, 3)
			equal(t, name+": told, and more laid behind one piece", told, want)
			wipe(piece)
			told[i] = want[i]
			equal(t, name+": told, and one piece of it written to", told, want)
		}
	})
}

func TestToldAgain(t *testing.T) { // R3: nothing is kept of what was told or given
	each(func(name string, c call, given [][]byte, x size) {
		told := c(given, x)
		want := clone(told)
		for _, b := range told {
			wipe(b)
		}
		clear(told)
		equal(t, name+": told again", c(given, x), want)
	})
}

func TestCutsStay(t *testing.T) { // R3
	cuts := []int{1, 3, 3, 6, 9, 8}
	chunked(t, []byte("abcdefgh"), cuts[:4], size{2, 3})
	chunkedNot(t, []byte("abcdefgh"), cuts, size{2, 3})
	if !slices.Equal(cuts, []int{1, 3, 3, 6, 9, 8}) {
		t.Error("the cuts were written to:", cuts)
	}
}

func TestSymbolsThatShare(t *testing.T) { // R3: one symbol given several times, symbols that lie over each other
	piece := []byte{0, 0, 0, 1, 0, 0, 0, 2}
	x := size{3, 3}
	given := [][]byte{piece[0:3], piece[3:6], piece[4:7]}
	equal(t, "Take", [][]byte{take(t, given, x)}, [][]byte{{0}})
	given = [][]byte{piece[0:3], piece[3:6], piece[3:6]}
	takeNot(t, given, x, api.ErrForm)
	given = [][]byte{piece[0:3], piece[1:4], piece[0:3]}
	takeNot(t, given, x, api.ErrForm)
	equal(t, "given", [][]byte{piece}, [][]byte{{0, 0, 0, 1, 0, 0, 0, 2}})
}

func TestWhateverRunsBeside(t *testing.T) { // R7
	x := size{9, 7}
	stream := seeded(1).bytes(1000)
	want, _ := plainChunks(stream, []int{100, 500}, x)
	answers := make(chan [][]byte)
	for range 8 {
		go func() {
			chunks, _, _ := pad.Chunks(stream, []int{100, 500}, x.g, x.s)
			for i, chunk := range chunks {
				symbols, _ := pad.Lay(chunk, x.g, x.s)
				chunks[i], _ = pad.Take(symbols, x.g, x.s)
			}
			answers <- chunks
		}()
	}
	for range 8 {
		equal(t, "Chunks", <-answers, want)
	}
}
