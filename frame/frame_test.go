package frame_test

import (
	"math"
	"math/rand"
	"slices"
	"testing"

	"braidwork/api"
	"braidwork/frame"
)

// ask asks whether f may be, and whether asking left f as it was.
func ask(t *testing.T, name string, f api.Frame, want bool) {
	t.Helper()
	before := normal(f)
	if frame.May(f) != want {
		t.Errorf("%s, kind %d: May tells %t", name, f.Kind, !want)
	}
	if !alike(f, before) {
		t.Errorf("%s, kind %d: May wrote to it", name, f.Kind)
	}
}

// hold asks whether two frames are the same, either way round.
func hold(t *testing.T, name string, a, b api.Frame, want bool) {
	t.Helper()
	if frame.Same(a, b) != want || frame.Same(b, a) != want {
		t.Errorf("%s, kinds %d and %d: Same tells %t, %t", name, a.Kind, b.Kind, frame.Same(a, b), frame.Same(b, a))
	}
}

// TestExamples: the chapter's examples.
func TestExamples(t *testing.T) {
	for _, x := range []struct {
		f    api.Frame
		size int
	}{
		{api.Frame{Kind: api.Probe, From: 0, To: 1, Life: 1}, 31},
		{api.Frame{Kind: api.Data, From: 0, To: 1, Life: 1, Seq: 1, Row: api.Row{Coefs: []byte{3, 1}, Payload: []byte{2, 61, 62}}}, 48},
		{api.Frame{Kind: api.Member, Topo: api.Topo{Epoch: 1, Up: []bool{true, true, true}, Hops: [][]api.Edge{{{From: 0, To: 1}, {From: 1, To: 2}}}}}, 41},
	} {
		if b, e := frame.Put(x.f); len(b) != x.size || e != api.OK {
			t.Errorf("kind %d: %d bytes, error %d", x.f.Kind, len(b), e)
		}
	}
	for size, want := range map[int]api.Errno{0: api.ErrShort, 70001: api.ErrLong} {
		if f, e := frame.Take(make([]byte, size)); e != want || !alike(f, api.Frame{}) {
			t.Errorf("%d bytes: error %d", size, e)
		}
	}
}

// TestLimits: api's bounds, kinds and errors are those that the tests go by (P12.1 to P12.3).
func TestLimits(t *testing.T) {
	for i, kind := range []int{api.Data, api.Feedback, api.Credit, api.Probe, api.Member, api.Close} {
		if kind != kinds[i] {
			t.Error(i, kind)
		}
	}
	if api.MaxG != 255 || api.MaxS != 65535 || api.MaxNodes != 64 || api.MaxFlows != 4 || api.MaxEdges != 128 || api.MaxWindow != 16 {
		t.Error("another bound of a list")
	}
	if api.MaxGen != 1<<40 || api.MaxCount != 1<<50 || api.MaxFrame != 70000 {
		t.Error("another bound of a number")
	}
	if api.ErrArg != 1 || api.ErrLong != 3 || api.ErrShort != 4 || api.ErrForm != 5 || api.ErrSum != 20 {
		t.Error("another error")
	}
}

// TestRight: frames of each Kind that may be, at the ends of all bounds, with lists that are nil or without anything (P12.1).
func TestRight(t *testing.T) {
	for _, x := range right() {
		ask(t, x.name, x.f, true)
		ask(t, x.name+", in memory of its own", normal(x.f), true)
		ask(t, x.name+", with empty lists", emptied(x.f), true)
	}
	random := rand.New(rand.NewSource(1))
	for range 20000 {
		ask(t, "drawn", drawn(random), true)
	}
}

// emptied is f with empty lists, of which no one is nil.
func emptied(f api.Frame) api.Frame {
	f.Row = api.Row{Coefs: append([]byte{}, f.Row.Coefs...), Payload: append([]byte{}, f.Row.Payload...)}
	f.Ranks = append([]api.Rank{}, f.Ranks...)
	f.Topo.Up = append([]bool{}, f.Topo.Up...)
	hops := [][]api.Edge{}
	for _, edges := range f.Topo.Hops {
		hops = append(hops, append([]api.Edge{}, edges...))
	}
	f.Topo.Hops = hops
	return f
}

// TestWrong: frames of each Kind of which one thing is wrong (P12.1).
func TestWrong(t *testing.T) {
	for _, x := range wrong() {
		ask(t, x.name, x.f, false)
		ask(t, x.name+", with empty lists", emptied(x.f), false)
	}
	ask(t, "nothing", api.Frame{}, false)
}

// TestKinds: no other Kind may be, whatever it has (P12.1).
func TestKinds(t *testing.T) {
	for kind := -300; kind <= 300; kind++ {
		for _, own := range kinds {
			// A Probe's numbers are also those of a Feedback without ranks.
			want := kind == own || own == probe && kind == feedback
			ask(t, "another kind's frame", with(ordinary(own), func(f *api.Frame) { f.Kind = kind }), want)
		}
		if kind < 1 || kind > 6 {
			ask(t, "a head alone", api.Frame{Kind: kind, To: 1, Life: 1}, false)
			ask(t, "a head without life", api.Frame{Kind: kind}, false)
		}
	}
	for _, kind := range []int{1 << 8, 1<<16 + 1, 1<<32 + 4, 1<<62 + 4, math.MaxInt, math.MinInt, math.MinInt + 4} {
		ask(t, "a great kind", with(ordinary(probe), func(f *api.Frame) { f.Kind = kind }), false)
	}
}

// ints and uints are numbers round all bounds that there are, and far from them.
func ints() []int {
	return append([]int{0, 1, 2, 3, 4, 5, 6, 7, 62, 63}, wrongInts...)
}

func uints() []uint64 {
	all := []uint64{0, 1, 2, 3, 4, 10, 11, 12, 13, 255, 256, 1 << 32, 1<<50 - 1, 1 << 50}
	for n := uint64(1<<40 - 17); n <= 1<<40+2; n++ {
		all = append(all, n)
	}
	return append(all, wrongCounts...)
}

// setter sets one of a frame's numbers to one of many.
type setter struct {
	name string
	set  func(f *api.Frame)
}

func setters() []setter {
	var all []setter
	for _, x := range places {
		for _, n := range ints() {
			all = append(all, setter{x.name, func(f *api.Frame) { *x.of(f) = n }})
		}
	}
	for _, x := range counts {
		for _, n := range uints() {
			all = append(all, setter{x.name, func(f *api.Frame) { *x.of(f) = n }})
		}
	}
	return all
}

// TestNumbers: each number of each Kind at, round and far beyond its bounds, and each two numbers at once (P12.1).
func TestNumbers(t *testing.T) {
	all := setters()
	for _, kind := range kinds {
		for _, f := range []api.Frame{ordinary(kind), least(kind)} {
			for _, x := range all {
				one := with(f, x.set)
				ask(t, x.name, one, mayBe(one))
				for _, y := range all {
					// The lists are only read, so that they may be shared.
					two := one
					y.set(&two)
					if frame.May(two) != mayBe(two) {
						t.Fatalf("kind %d, %s and %s: %v", kind, x.name, y.name, two)
					}
				}
			}
		}
	}
}

// TestNodes: each two nodes, alike or not, of each Kind (P12.1).
func TestNodes(t *testing.T) {
	for _, kind := range kinds {
		for from := -2; from < 67; from++ {
			for to := -2; to < 67; to++ {
				f := ordinary(kind)
				f.From, f.To = from, to
				want := from >= 0 && from <= 63 && to >= 0 && to <= 63 && (from == to) == (kind == member)
				ask(t, "nodes", f, want)
			}
		}
	}
}

// TestSizesOfRows: each number of coefficients, and numbers of bytes of payload round their bounds (P12.1).
func TestSizesOfRows(t *testing.T) {
	payloads := []int{0, 1, 2, 255, 256, 65534, 65535, 65536, 65537, 70000, 1 << 17}
	for coefs := range 520 {
		for _, payload := range payloads {
			f := ordinary(data)
			f.Row = api.Row{Coefs: make([]byte, coefs), Payload: make([]byte, payload)}
			want := coefs >= 1 && coefs <= 255 && payload >= 1 && payload <= 65535
			if frame.May(f) != want {
				t.Fatal(coefs, payload, !want)
			}
		}
	}
}

// TestRanks: each two generations round a window, of each base round the ends, and each rank (P12.1).
func TestRanks(t *testing.T) {
	for _, base := range []uint64{0, 1, 5, 1 << 32, 1<<40 - 33, 1<<40 - 17, 1<<40 - 16, 1<<40 - 15, 1<<40 - 2, 1<<40 - 1, 1 << 40} {
		for first := base - 3; first != base+20; first++ {
			one := with(ordinary(feedback), func(f *api.Frame) { f.Gen, f.Ranks = base, ranks(first) })
			ask(t, "one rank", one, mayBe(one))
			for second := base - 3; second != base+20; second++ {
				two := with(one, func(f *api.Frame) { f.Ranks = ranks(first, second) })
				ask(t, "two ranks", two, mayBe(two))
			}
		}
	}
	for n := -2; n < 600; n++ {
		for i := range 3 {
			f := ordinary(feedback)
			f.Ranks[i].Rank = n
			ask(t, "a rank", f, n >= 1 && n <= 255)
		}
	}
	for n := range uint64(40) {
		f := ordinary(feedback)
		f.Ranks = nil
		for i := range n {
			f.Ranks = append(f.Ranks, api.Rank{Gen: f.Gen + i, Rank: 1})
		}
		ask(t, "so many ranks", f, n <= 16)
	}
}

// TestTopos: each number of nodes, flows and edges round their bounds, and each edge of few nodes, whoever is up (P12.1).
func TestTopos(t *testing.T) {
	topo := func(nodes, flows, edges int) api.Frame {
		f := ordinary(member)
		f.Topo.Up, f.Topo.Hops = ups(nodes), make([][]api.Edge, flows)
		if flows > 0 && nodes > 1 {
			f.Topo.Hops[flows-1] = ring(edges, nodes)
		}
		return f
	}
	for nodes := range 70 {
		for flows := range 8 {
			for _, edges := range []int{0, 1, 2, 127, 128, 129, 130} {
				tooMany := edges > 128 && flows > 0 && nodes > 1
				want := nodes >= 1 && nodes <= 64 && flows >= 1 && flows <= 4 && !tooMany
				ask(t, "sizes", topo(nodes, flows, edges), want)
			}
		}
	}
	for nodes := 1; nodes <= 64; nodes++ {
		for from := -1; from <= nodes; from++ {
			for _, to := range []int{-1, 0, 1, from - 1, from, from + 1, nodes - 1, nodes, nodes + 1, 64} {
				f := topo(nodes, 3, 2)
				f.Topo.Hops[1] = []api.Edge{{From: from, To: to}}
				ask(t, "an edge", f, from >= 0 && from < nodes && to >= 0 && to < nodes && from != to)
				f.Topo.Up = make([]bool, nodes)
				ask(t, "an edge, all down", f, from >= 0 && from < nodes && to >= 0 && to < nodes && from != to)
			}
		}
	}
}

// pool is frames, right, wrong, and with many a thing set at once, of which no two need be alike.
func pool() []api.Frame {
	all := []api.Frame{{}}
	for _, x := range slices.Concat(right(), wrong()) {
		// What is long is looked at by itself.
		if len(x.f.Row.Payload) < 1000 {
			all = append(all, x.f)
		}
	}
	full := ordinary(member)
	full.Kind, full.From, full.To, full.Flow = -1, -2, -3, -4
	full.Epoch, full.Life, full.Gen, full.Seq, full.For = math.MaxUint64, 1<<63, 1<<51, 1<<41, 1
	full.Row, full.Ranks = row(3, 3), ranks(3, 2, 1)
	all = append(all, full, with(full, func(f *api.Frame) { f.Row.Coefs, f.Row.Payload = row(3, 3).Payload, row(3, 3).Coefs }))
	all = append(all, with(full, func(f *api.Frame) { f.From, f.To = f.To, f.From }))
	for i, x := range counts {
		y := counts[(i+1)%len(counts)]
		all = append(all, with(full, func(f *api.Frame) { *x.of(f), *y.of(f) = *y.of(f), *x.of(f) }))
	}
	return append(all, hopped()...)
}

// hopped are frames whose edges are the same, one behind the other, but stand in other flows.
func hopped() []api.Frame {
	a, b, c := api.Edge{From: 0, To: 1}, api.Edge{From: 1, To: 2}, api.Edge{From: 2, To: 0}
	var all []api.Frame
	for _, hops := range [][][]api.Edge{
		nil, {{}}, {{}, {}}, {{a, b, c}}, {{a}, {b, c}}, {{a, b}, {c}}, {{a}, {b}, {c}}, {{}, {a, b, c}}, {{a, b, c}, {}}, {{b, a, c}}, {{a, a}}, {{a}}, {{a}, {a}},
	} {
		all = append(all, with(ordinary(member), func(f *api.Frame) { f.Topo.Hops = hops }))
	}
	return all
}

// TestSame: any two frames, may they be or not (P12.1).
func TestSame(t *testing.T) {
	all := pool()
	plain := make([]api.Frame, len(all))
	for i, f := range all {
		plain[i] = normal(f)
	}
	for i, a := range all {
		for k, b := range all[:i+1] {
			want := i == k || quickAlike(plain[i], plain[k])
			if frame.Same(a, b) != want || frame.Same(b, a) != want {
				t.Fatalf("%v, %v: Same tells %t", a, b, !want)
			}
		}
	}
}

// quickAlike is alike, asked of the numbers first: of the many pairs of a pool few are alike in these.
func quickAlike(a, b api.Frame) bool {
	if a.Kind != b.Kind {
		return false
	}
	for _, x := range places {
		if *x.of(&a) != *x.of(&b) {
			return false
		}
	}
	for _, x := range counts {
		if *x.of(&a) != *x.of(&b) {
			return false
		}
	}
	return alike(a, b)
}

// TestSameOfCopies: frames that are alike in all, with memory of their own, with lists that are nil or empty (P12.1).
func TestSameOfCopies(t *testing.T) {
	for _, x := range slices.Concat(right(), wrong()) {
		before := normal(x.f)
		hold(t, x.name, x.f, x.f, true)
		hold(t, x.name, x.f, normal(x.f), true)
		hold(t, x.name, emptied(x.f), normal(x.f), true)
		if !alike(x.f, before) {
			t.Errorf("%s of kind %d: Same wrote to it", x.name, x.f.Kind)
		}
	}
}

// TestSameOfUnlike: frames that are unlike in a single thing (P12.1).
func TestSameOfUnlike(t *testing.T) {
	for _, f := range append(pool(), greatest(data)) {
		// Copies of the longest lists would take long, and tell nothing new.
		if len(f.Topo.Up) > 64 || len(f.Ranks) > 17 || len(f.Topo.Hops) > 8 {
			continue
		}
		for _, other := range unlike(f) {
			hold(t, other.name, f, other.f, false)
		}
	}
}
