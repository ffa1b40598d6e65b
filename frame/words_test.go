package frame_test

import (
	"bytes"
	"encoding/binary"
	"hash/crc32"
	"math"
	"math/rand"
	"reflect"
	"slices"
	"testing"

	"braidwork/api"
)

// What the tests hold frame against: the chapter's words and tables, put down apart from the program, with its numbers written out.

const (
	data = 1 + iota
	feedback
	credit
	probe
	member
	closing
)

// kinds are all that there are.
var kinds = []int{data, feedback, credit, probe, member, closing}

// place is one of a frame's numbers that are ints, count one of those that are not.
type place struct {
	name string
	of   func(f *api.Frame) *int
}

type count struct {
	name string
	of   func(f *api.Frame) *uint64
}

// places are all but Kind, which bounds the others.
var places = []place{
	{"From", func(f *api.Frame) *int { return &f.From }},
	{"To", func(f *api.Frame) *int { return &f.To }},
	{"Flow", func(f *api.Frame) *int { return &f.Flow }},
}

var counts = []count{
	{"Epoch", func(f *api.Frame) *uint64 { return &f.Epoch }},
	{"Life", func(f *api.Frame) *uint64 { return &f.Life }},
	{"Gen", func(f *api.Frame) *uint64 { return &f.Gen }},
	{"Seq", func(f *api.Frame) *uint64 { return &f.Seq }},
	{"For", func(f *api.Frame) *uint64 { return &f.For }},
	{"Topo.Epoch", func(f *api.Frame) *uint64 { return &f.Topo.Epoch }},
}

// bound is from where to where a number may be.
type bound struct{ first, last uint64 }

// bounds are those of the chapter's table, by the Kind; what is not there is from 0 to 0.
func bounds(kind int) map[string]bound {
	const most = 1 << 50
	node, epoch, life, flow := bound{0, 63}, bound{0, most}, bound{1, most}, bound{0, 3}
	switch kind {
	case data:
		return map[string]bound{"From": node, "To": node, "Epoch": epoch, "Life": life, "Flow": flow, "Gen": {0, 1<<40 - 1}, "Seq": {1, most}}
	case feedback:
		return map[string]bound{"From": node, "To": node, "Epoch": epoch, "Life": life, "Flow": flow, "Gen": {0, 1 << 40}, "Seq": {1, most}}
	case credit:
		return map[string]bound{"From": node, "To": node, "Epoch": epoch, "Life": life, "Seq": {0, most}, "For": {1, most}}
	case probe:
		return map[string]bound{"From": node, "To": node, "Epoch": epoch, "Life": life, "Seq": {0, most}}
	case member:
		return map[string]bound{"From": node, "To": node, "Epoch": epoch, "Topo.Epoch": {1, most}}
	case closing:
		return map[string]bound{"From": node, "To": node, "Epoch": epoch, "Life": life, "Flow": flow, "Gen": {0, 1 << 40}}
	}
	return nil
}

// mayBe is what the chapter says of f.
func mayBe(f api.Frame) bool {
	within := bounds(f.Kind)
	if within == nil {
		return false
	}
	for _, x := range places {
		if n, b := *x.of(&f), within[x.name]; n < int(b.first) || n > int(b.last) {
			return false
		}
	}
	for _, x := range counts {
		if n, b := *x.of(&f), within[x.name]; n < b.first || n > b.last {
			return false
		}
	}
	if (f.From == f.To) != (f.Kind == member) {
		return false
	}
	return rowMayBe(f) && ranksMayBe(f) && topoMayBe(f)
}

func rowMayBe(f api.Frame) bool {
	coefs, payload := len(f.Row.Coefs), len(f.Row.Payload)
	if f.Kind != data {
		return coefs == 0 && payload == 0
	}
	return coefs >= 1 && coefs <= 255 && payload >= 1 && payload <= 65535
}

func ranksMayBe(f api.Frame) bool {
	if f.Kind != feedback {
		return len(f.Ranks) == 0
	}
	for i, r := range f.Ranks {
		isRising := i == 0 || f.Ranks[i-1].Gen < r.Gen
		if !isRising || r.Gen < f.Gen || r.Gen-f.Gen > 15 || r.Gen > 1<<40-1 || r.Rank < 1 || r.Rank > 255 {
			return false
		}
	}
	return len(f.Ranks) <= 16
}

func topoMayBe(f api.Frame) bool {
	nodes, flows := len(f.Topo.Up), len(f.Topo.Hops)
	if f.Kind != member {
		return nodes == 0 && flows == 0
	}
	for _, edges := range f.Topo.Hops {
		if len(edges) > 128 {
			return false
		}
		for _, e := range edges {
			if e.From < 0 || e.To < 0 || max(e.From, e.To) >= nodes || e.From == e.To {
				return false
			}
		}
	}
	return nodes >= 1 && nodes <= 64 && flows >= 1 && flows <= 4
}

// has tells whether the Kind has that field.
func has(kind int, name string) bool {
	_, ok := bounds(kind)[name]
	return ok
}

// plainForm is the form of f, as the chapter writes it; of a number that has no form of its size the lowest bytes.
func plainForm(f api.Frame) []byte {
	long := binary.BigEndian.AppendUint64
	b := []byte{byte(f.Kind), byte(f.From), byte(f.To)}
	b = long(long(b, f.Epoch), f.Life)
	switch f.Kind {
	case data:
		b = long(long(append(b, byte(f.Flow)), f.Gen), f.Seq)
		b = append(append(b, byte(len(f.Row.Coefs))), f.Row.Coefs...)
		b = binary.BigEndian.AppendUint16(b, uint16(len(f.Row.Payload)))
		b = append(b, f.Row.Payload...)
	case feedback:
		b = long(long(append(b, byte(f.Flow)), f.Gen), f.Seq)
		b = append(b, byte(len(f.Ranks)))
		for _, r := range f.Ranks {
			b = append(long(b, r.Gen), byte(r.Rank))
		}
	case credit:
		b = long(long(b, f.Seq), f.For)
	case probe:
		b = long(b, f.Seq)
	case member:
		b = append(long(b, f.Topo.Epoch), byte(len(f.Topo.Up)))
		for _, up := range f.Topo.Up {
			b = append(b, map[bool]byte{true: 1}[up])
		}
		b = append(b, byte(len(f.Topo.Hops)))
		for _, edges := range f.Topo.Hops {
			b = append(b, byte(len(edges)))
			for _, e := range edges {
				b = append(b, byte(e.From), byte(e.To))
			}
		}
	case closing:
		b = long(append(b, byte(f.Flow)), f.Gen)
	}
	return b
}

// seal lays the sum of a form behind it.
func seal(form []byte) []byte {
	return binary.LittleEndian.AppendUint32(bytes.Clone(form), crc32.ChecksumIEEE(form))
}

// cursor reads a form.
type cursor struct {
	left  []byte
	wrong bool
}

func (c *cursor) bytes(n int) []byte {
	if len(c.left) < n {
		c.left, c.wrong = nil, true
		return nil
	}
	b := c.left[:n]
	c.left = c.left[n:]
	return bytes.Clone(b)
}

func (c *cursor) number(size int) uint64 {
	n := uint64(0)
	for _, x := range c.bytes(size) {
		n = n*256 + uint64(x)
	}
	return n
}

func (c *cursor) topo() api.Topo {
	t := api.Topo{Epoch: c.number(8)}
	for _, x := range c.bytes(int(c.number(1))) {
		c.wrong = c.wrong || x > 1
		t.Up = append(t.Up, x == 1)
	}
	for range c.number(1) {
		var edges []api.Edge
		for range c.number(1) {
			from := int(c.number(1))
			edges = append(edges, api.Edge{From: from, To: int(c.number(1))})
		}
		t.Hops = append(t.Hops, edges)
	}
	return t
}

// plainTake is what the chapter says of any bytes.
func plainTake(b []byte) (api.Frame, api.Errno) {
	if len(b) > 70000 {
		return api.Frame{}, api.ErrLong
	}
	if len(b) < 4 {
		return api.Frame{}, api.ErrShort
	}
	if form := b[:len(b)-4]; !bytes.Equal(seal(form), b) {
		return api.Frame{}, api.ErrSum
	}
	c := &cursor{left: b[:len(b)-4]}
	var f api.Frame
	f.Kind = int(c.number(1))
	f.From = int(c.number(1))
	f.To = int(c.number(1))
	f.Epoch = c.number(8)
	f.Life = c.number(8)
	if has(f.Kind, "Flow") {
		f.Flow = int(c.number(1))
	}
	if has(f.Kind, "Gen") {
		f.Gen = c.number(8)
	}
	if has(f.Kind, "Seq") {
		f.Seq = c.number(8)
	}
	if has(f.Kind, "For") {
		f.For = c.number(8)
	}
	switch f.Kind {
	case data:
		f.Row.Coefs = c.bytes(int(c.number(1)))
		f.Row.Payload = c.bytes(int(c.number(2)))
	case feedback:
		for range c.number(1) {
			gen := c.number(8)
			f.Ranks = append(f.Ranks, api.Rank{Gen: gen, Rank: int(c.number(1))})
		}
	case member:
		f.Topo = c.topo()
	}
	if c.wrong || len(c.left) > 0 || !mayBe(f) {
		return api.Frame{}, api.ErrForm
	}
	return f, api.OK
}

// normal is f in memory of its own, with nil for each list without anything.
func normal(f api.Frame) api.Frame {
	f.Row = api.Row{Coefs: append([]byte(nil), f.Row.Coefs...), Payload: append([]byte(nil), f.Row.Payload...)}
	f.Ranks = append([]api.Rank(nil), f.Ranks...)
	f.Topo.Up = append([]bool(nil), f.Topo.Up...)
	var hops [][]api.Edge
	for _, edges := range f.Topo.Hops {
		hops = append(hops, append([]api.Edge(nil), edges...))
	}
	f.Topo.Hops = hops
	return f
}

// alike tells whether two frames have all the same.
func alike(a, b api.Frame) bool { return reflect.DeepEqual(normal(a), normal(b)) }

// with is f, in memory of its own, changed.
func with(f api.Frame, change func(f *api.Frame)) api.Frame {
	f = normal(f)
	change(&f)
	return f
}

// row is a row of so many coefficients and bytes of payload, none of them 0.
func row(coefs, payload int) api.Row {
	r := api.Row{Coefs: make([]byte, coefs), Payload: make([]byte, payload)}
	for i := range r.Coefs {
		r.Coefs[i] = byte(1 + (7*i+3)%255)
	}
	for i := range r.Payload {
		r.Payload[i] = byte(1 + (11*i+i/255+5)%255)
	}
	return r
}

// ups are so many nodes, not all of which are up.
func ups(n int) []bool {
	up := make([]bool, n)
	for i := range up {
		up[i] = i%3 != 1
	}
	return up
}

// ring is so many edges between so many nodes, some of them twice.
func ring(edges, nodes int) []api.Edge {
	l := make([]api.Edge, edges)
	for i := range l {
		l[i] = api.Edge{From: i % nodes, To: (i + 1 + i/nodes%(nodes-1)) % nodes}
	}
	return l
}

// ranks is one of each of these generations.
func ranks(gens ...uint64) []api.Rank {
	var l []api.Rank
	for i, gen := range gens {
		l = append(l, api.Rank{Gen: gen, Rank: 1 + 17*i%255})
	}
	return l
}

// ordinary is a frame of that Kind that may be, short, with nothing at an end of its bounds.
func ordinary(kind int) api.Frame {
	f := api.Frame{Kind: kind, From: 3, To: 5, Epoch: 7, Life: 9}
	switch kind {
	case data:
		f.Flow, f.Gen, f.Seq, f.Row = 1, 11, 13, row(2, 3)
	case feedback:
		f.Flow, f.Gen, f.Seq, f.Ranks = 1, 11, 13, ranks(12, 14, 25)
	case credit:
		f.Seq, f.For = 13, 15
	case probe:
		f.Seq = 13
	case member:
		f.From, f.Life = 5, 0
		f.Topo = api.Topo{Epoch: 17, Up: ups(3), Hops: [][]api.Edge{{{From: 0, To: 1}, {From: 1, To: 2}}, {}}}
	case closing:
		f.Flow, f.Gen = 1, 11
	}
	return f
}

// least and greatest are the frames of that Kind all of whose numbers are as small, or as great, as may be.
func least(kind int) api.Frame {
	f := atEnd(kind, func(b bound) uint64 { return b.first })
	switch kind {
	case data:
		f.To, f.Row = 1, row(1, 1)
	case member:
		f.Topo.Up, f.Topo.Hops = []bool{false}, [][]api.Edge{nil}
	default:
		f.To = 1
	}
	return f
}

func greatest(kind int) api.Frame {
	f := atEnd(kind, func(b bound) uint64 { return b.last })
	switch kind {
	case data:
		f.From, f.Row = 62, row(255, 65535)
	case feedback:
		f.From, f.Gen = 62, 1<<40-16
		for i := range uint64(16) {
			f.Ranks = append(f.Ranks, api.Rank{Gen: f.Gen + i, Rank: 255})
		}
	case member:
		f.Topo.Up = ups(64)
		for range 4 {
			f.Topo.Hops = append(f.Topo.Hops, ring(128, 64))
		}
	default:
		f.From = 62
	}
	return f
}

func atEnd(kind int, end func(b bound) uint64) api.Frame {
	f, within := api.Frame{Kind: kind}, bounds(kind)
	for _, x := range places {
		*x.of(&f) = int(end(within[x.name]))
	}
	for _, x := range counts {
		*x.of(&f) = end(within[x.name])
	}
	return f
}

// named is a frame, and what is to be said of it.
type named struct {
	name string
	f    api.Frame
}

// right are frames of each Kind that may be, from the least to the greatest.
func right() []named {
	var all []named
	for _, kind := range kinds {
		all = append(all, named{"ordinary", ordinary(kind)}, named{"least", least(kind)}, named{"greatest", greatest(kind)})
	}
	add := func(name string, kind int, change func(f *api.Frame)) {
		all = append(all, named{name, with(ordinary(kind), change)})
	}
	add("no ranks", feedback, func(f *api.Frame) { f.Ranks = nil })
	add("no ranks at the end", feedback, func(f *api.Frame) { f.Gen, f.Ranks = 1<<40, nil })
	add("the first generation's rank", feedback, func(f *api.Frame) { f.Gen, f.Ranks = 0, ranks(0) })
	add("the last generation's rank", feedback, func(f *api.Frame) { f.Gen, f.Ranks = 1<<40-1, ranks(1<<40-1) })
	add("the last rank of a window", feedback, func(f *api.Frame) { f.Ranks = ranks(26) })
	add("16 ranks", feedback, func(f *api.Frame) {
		f.Ranks = ranks(11, 12, 13, 14, 15, 16, 17, 18, 19, 20, 21, 22, 23, 24, 25, 26)
	})
	add("a long payload", data, func(f *api.Frame) { f.Row = row(1, 300) })
	add("many coefficients", data, func(f *api.Frame) { f.Row = row(255, 1) })
	add("noughts alone", data, func(f *api.Frame) { f.Row = api.Row{Coefs: make([]byte, 4), Payload: make([]byte, 5)} })
	add("four flows without edges", member, func(f *api.Frame) { f.Topo.Hops = make([][]api.Edge, 4) })
	add("two nodes that are down, with edges", member, func(f *api.Frame) {
		f.Topo.Up, f.Topo.Hops = []bool{false, false}, [][]api.Edge{{{From: 0, To: 1}, {From: 1, To: 0}, {From: 0, To: 1}}}
	})
	add("all up, but few nodes", member, func(f *api.Frame) { f.From, f.To, f.Topo.Up = 63, 63, []bool{true, true, true} })
	add("an elder topology than the epoch", member, func(f *api.Frame) { f.Epoch, f.Topo.Epoch = 100, 1 })
	add("64 nodes", member, func(f *api.Frame) {
		f.Topo.Up, f.Topo.Hops = ups(64), [][]api.Edge{ring(2, 64), {{From: 63, To: 0}, {From: 0, To: 63}}, ring(128, 3)}
	})
	return all
}

// wrongInts and wrongCounts are numbers beyond bounds, among them those that are within when only their lowest bits are seen.
var wrongInts = []int{-1, -2, -64, -253, -256, math.MinInt32, math.MinInt, math.MinInt + 1, 64, 65, 128, 255, 256, 257, 259, 1 << 16, 1 << 32, 1<<32 + 1, math.MaxInt32, math.MaxInt}

var wrongCounts = []uint64{1<<50 + 1, 1<<50 + 2, 1 << 51, 1<<56 + 1, 1 << 63, 1<<63 + 1, math.MaxUint64 - 1, math.MaxUint64}

// wrong are frames of which each has one thing wrong.
func wrong() []named {
	var all []named
	for _, kind := range kinds {
		add := func(name string, change func(f *api.Frame)) {
			all = append(all, named{name, with(ordinary(kind), change)})
		}
		for _, other := range append([]int{0, 7, 8, 1<<8 + kind, 1<<32 + kind, -kind}, wrongInts...) {
			add("Kind", func(f *api.Frame) { f.Kind = other })
		}
		for _, n := range wrongInts {
			add("From", func(f *api.Frame) { f.From = n })
			add("To", func(f *api.Frame) { f.To = n })
			add("From and To", func(f *api.Frame) { f.From, f.To = n, n })
			add("Flow", func(f *api.Frame) { f.Flow = n })
		}
		for _, n := range []int{4, 5, 6, 7, 63} {
			add("Flow", func(f *api.Frame) { f.Flow = n })
		}
		for _, n := range wrongCounts {
			for _, x := range counts {
				add(x.name, func(f *api.Frame) { *x.of(f) = n })
			}
		}
		add("From and To, or not", func(f *api.Frame) {
			if f.From = f.To; kind == member {
				f.To = 4
			}
		})
		add("Life", func(f *api.Frame) {
			if f.Life = 0; kind == member {
				f.Life = 1
			}
		})
		all = append(all, foreign(kind)...)
	}
	return slices.Concat(all, wrongRows(), wrongRanks(), wrongTopos())
}

// foreign are frames of that Kind in which something is set that it does not have.
func foreign(kind int) []named {
	var all []named
	add := func(name string, isOwn bool, change func(f *api.Frame)) {
		if !isOwn {
			all = append(all, named{"foreign " + name, with(ordinary(kind), change)})
		}
	}
	for _, n := range []uint64{1, 2, 3, 1 << 32, 1<<40 - 1, 1 << 40, 1 << 50} {
		for _, x := range counts {
			add(x.name, has(kind, x.name), func(f *api.Frame) { *x.of(f) = n })
		}
	}
	for _, n := range []int{1, 2, 3} {
		add("Flow", has(kind, "Flow"), func(f *api.Frame) { f.Flow = n })
	}
	add("Coefs", kind == data, func(f *api.Frame) { f.Row.Coefs = []byte{0} })
	add("Payload", kind == data, func(f *api.Frame) { f.Row.Payload = []byte{0} })
	add("Row", kind == data, func(f *api.Frame) { f.Row = row(2, 3) })
	add("Ranks", kind == feedback, func(f *api.Frame) { f.Ranks = make([]api.Rank, 1) })
	add("Ranks", kind == feedback, func(f *api.Frame) { f.Ranks = ranks(f.Gen) })
	add("Up", kind == member, func(f *api.Frame) { f.Topo.Up = []bool{false} })
	add("Hops", kind == member, func(f *api.Frame) { f.Topo.Hops = make([][]api.Edge, 1) })
	add("Hops", kind == member, func(f *api.Frame) { f.Topo.Hops = [][]api.Edge{{}, {{From: 0, To: 1}}} })
	add("Topo", kind == member, func(f *api.Frame) { f.Topo = ordinary(member).Topo })
	return all
}

func wrongRows() []named {
	var all []named
	add := func(name string, change func(f *api.Frame)) {
		all = append(all, named{name, with(ordinary(data), change)})
	}
	add("Gen", func(f *api.Frame) { f.Gen = 1 << 40 })
	add("Gen", func(f *api.Frame) { f.Gen = 1<<40 + 1 })
	add("Seq", func(f *api.Frame) { f.Seq = 0 })
	add("no Coefs", func(f *api.Frame) { f.Row.Coefs = nil })
	add("no Payload", func(f *api.Frame) { f.Row.Payload = nil })
	add("no Row", func(f *api.Frame) { f.Row = api.Row{} })
	for _, n := range []int{256, 257, 258, 511, 512, 65536, 65537, 70000} {
		add("Coefs", func(f *api.Frame) { f.Row = row(n, 3) })
	}
	for _, n := range []int{65536, 65537, 65539, 70000, 1<<17 + 1} {
		add("Payload", func(f *api.Frame) { f.Row = row(2, n) })
	}
	return all
}

func wrongRanks() []named {
	var all []named
	add := func(name string, change func(f *api.Frame)) {
		all = append(all, named{name, with(ordinary(feedback), change)})
	}
	add("Gen", func(f *api.Frame) { f.Gen, f.Ranks = 1<<40+1, nil })
	add("Gen", func(f *api.Frame) { f.Gen, f.Ranks = math.MaxUint64, nil })
	add("Gen, wrapped round", func(f *api.Frame) { f.Gen, f.Ranks = math.MaxUint64-3, ranks(0, 1) })
	add("Seq", func(f *api.Frame) { f.Seq = 0 })
	for name, gens := range map[string][]uint64{
		"the same twice": {12, 12}, "the same twice behind others": {11, 13, 20, 20}, "one less": {13, 12}, "one less behind others": {12, 14, 13},
		"falling": {14, 13, 12}, "ahead of Gen": {10}, "ahead of Gen, and behind it": {10, 12}, "far ahead": {0}, "behind the window": {27},
		"behind the window, behind others": {11, 12, 27}, "far behind": {1 << 30}, "a great one": {math.MaxUint64}, "with great ones": {12, 1<<56 + 13},
		"17": {11, 12, 13, 14, 15, 16, 17, 18, 19, 20, 21, 22, 23, 24, 25, 26, 27}, "17, one twice": {11, 12, 13, 14, 15, 16, 17, 18, 19, 20, 21, 22, 23, 24, 25, 26, 26},
	} {
		add("Ranks: "+name, func(f *api.Frame) { f.Ranks = ranks(gens...) })
	}
	add("Ranks at the end", func(f *api.Frame) { f.Gen, f.Ranks = 1<<40-3, ranks(1<<40-1, 1<<40) })
	add("Ranks at the end", func(f *api.Frame) { f.Gen, f.Ranks = 1<<40-1, ranks(1<<40) })
	add("Ranks at the end", func(f *api.Frame) { f.Gen, f.Ranks = 1<<40, ranks(1<<40) })
	add("Ranks at the end", func(f *api.Frame) { f.Gen, f.Ranks = 1<<40, ranks(1<<40-1) })
	add("300 Ranks", func(f *api.Frame) {
		for gen := range uint64(300) {
			f.Ranks = append(f.Ranks, api.Rank{Gen: gen, Rank: 1})
		}
	})
	for i := range 3 {
		for _, n := range []int{0, -1, 256, 257, 511, 512, 1 << 32, 1<<32 + 1, -255, math.MaxInt, math.MinInt, math.MinInt + 5} {
			add("Rank", func(f *api.Frame) { f.Ranks[i].Rank = n })
		}
	}
	return all
}

func wrongTopos() []named {
	var all []named
	add := func(name string, change func(t *api.Topo)) {
		all = append(all, named{name, with(ordinary(member), func(f *api.Frame) { change(&f.Topo) })})
	}
	add("Topo.Epoch", func(t *api.Topo) { t.Epoch = 0 })
	add("no Topo", func(t *api.Topo) { *t = api.Topo{} })
	add("no nodes", func(t *api.Topo) { t.Up = nil })
	add("no nodes and no edges", func(t *api.Topo) { t.Up, t.Hops = nil, make([][]api.Edge, 1) })
	add("no flows", func(t *api.Topo) { t.Hops = nil })
	for _, n := range []int{65, 66, 128, 255, 256, 257, 259, 320} {
		add("nodes", func(t *api.Topo) { t.Up = ups(n) })
		add("edges of one node too many", func(t *api.Topo) {
			t.Up, t.Hops = ups(n), [][]api.Edge{{{From: n - 1, To: 0}}}
		})
	}
	for _, n := range []int{5, 6, 8, 255, 256, 257, 260} {
		add("flows", func(t *api.Topo) { t.Hops = make([][]api.Edge, n) })
	}
	for _, n := range []int{129, 130, 255, 256, 257, 300, 512} {
		for flow := range 4 {
			add("edges", func(t *api.Topo) {
				t.Hops = make([][]api.Edge, 4)
				t.Hops[flow] = ring(n, 3)
			})
		}
	}
	for flow := range 2 {
		for n := range 3 {
			add("an edge to itself", func(t *api.Topo) { t.Hops[flow] = append(t.Hops[flow], api.Edge{From: n, To: n}) })
		}
		for _, n := range append([]int{3, 4, 63}, wrongInts...) {
			add("an edge to nowhere", func(t *api.Topo) { t.Hops[flow] = append(t.Hops[flow], api.Edge{From: 0, To: n}) })
			add("an edge from nowhere", func(t *api.Topo) { t.Hops[flow] = append(t.Hops[flow], api.Edge{From: n, To: 0}) })
			add("an edge from nowhere, ahead of others", func(t *api.Topo) {
				t.Hops[flow] = append([]api.Edge{{From: n, To: 2}}, t.Hops[flow]...)
			})
			add("an edge between such nodes", func(t *api.Topo) { t.Hops[flow] = append(t.Hops[flow], api.Edge{From: n, To: n ^ 1}) })
		}
	}
	return all
}

// unlike are frames that each differ from f in one thing, may they be or not.
func unlike(f api.Frame) []named {
	var all []named
	add := func(name string, change func(f *api.Frame)) { all = append(all, named{name, with(f, change)}) }
	for _, x := range append([]place{{"Kind", func(f *api.Frame) *int { return &f.Kind }}}, places...) {
		for _, by := range []int{1, -1, 2, 256, 1 << 16, 1 << 32, math.MinInt} {
			add(x.name, func(f *api.Frame) { *x.of(f) += by })
		}
	}
	for _, x := range counts {
		for _, by := range []uint64{1, math.MaxUint64, 2, 256, 1 << 32, 1 << 63} {
			add(x.name, func(f *api.Frame) { *x.of(f) += by })
		}
	}
	for _, of := range []func(f *api.Frame) *[]byte{
		func(f *api.Frame) *[]byte { return &f.Row.Coefs },
		func(f *api.Frame) *[]byte { return &f.Row.Payload },
	} {
		add("a byte more", func(f *api.Frame) { *of(f) = append(*of(f), 0) })
		add("a byte more ahead", func(f *api.Frame) { *of(f) = append([]byte{0}, *of(f)...) })
		for _, i := range somePlaces(len(*of(&f))) {
			add("a byte less", func(f *api.Frame) { *of(f) = slices.Delete(*of(f), i, len(*of(f))) })
			add("a byte", func(f *api.Frame) { (*of(f))[i]++ })
			add("a byte's highest bit", func(f *api.Frame) { (*of(f))[i] ^= 128 })
		}
	}
	add("a rank more", func(f *api.Frame) { f.Ranks = append(f.Ranks, api.Rank{}) })
	add("a rank more ahead", func(f *api.Frame) { f.Ranks = append(make([]api.Rank, 1), f.Ranks...) })
	for i := range f.Ranks {
		add("fewer ranks", func(f *api.Frame) { f.Ranks = f.Ranks[:i] })
		add("a rank's Gen", func(f *api.Frame) { f.Ranks[i].Gen++ })
		add("a rank's Gen", func(f *api.Frame) { f.Ranks[i].Gen ^= 1 << 63 })
		add("a rank's Rank", func(f *api.Frame) { f.Ranks[i].Rank++ })
		add("a rank's Rank", func(f *api.Frame) { f.Ranks[i].Rank -= 1 << 32 })
	}
	return append(all, unlikeTopos(f)...)
}

func unlikeTopos(f api.Frame) []named {
	var all []named
	add := func(name string, change func(t *api.Topo)) {
		all = append(all, named{name, with(f, func(f *api.Frame) { change(&f.Topo) })})
	}
	add("a node more", func(t *api.Topo) { t.Up = append(t.Up, false) })
	add("a flow more", func(t *api.Topo) { t.Hops = append(t.Hops, nil) })
	add("a flow more ahead, or a flow more", func(t *api.Topo) {
		if t.Hops = append([][]api.Edge{nil}, t.Hops...); alike(api.Frame{Topo: *t}, api.Frame{Topo: f.Topo}) {
			t.Hops = append(t.Hops, nil)
		}
	})
	for i := range f.Topo.Up {
		add("fewer nodes", func(t *api.Topo) { t.Up = t.Up[:i] })
		add("a node up or down", func(t *api.Topo) { t.Up[i] = !t.Up[i] })
	}
	for i := range f.Topo.Hops {
		add("fewer flows", func(t *api.Topo) { t.Hops = t.Hops[:i] })
		add("an edge more", func(t *api.Topo) { t.Hops[i] = append(t.Hops[i], api.Edge{}) })
		add("an edge more ahead", func(t *api.Topo) { t.Hops[i] = append([]api.Edge{{From: 1}}, t.Hops[i]...) })
		for _, k := range somePlaces(len(f.Topo.Hops[i])) {
			add("fewer edges", func(t *api.Topo) { t.Hops[i] = t.Hops[i][:k] })
			add("an edge's From", func(t *api.Topo) { t.Hops[i][k].From++ })
			add("an edge's To", func(t *api.Topo) { t.Hops[i][k].To-- })
			add("an edge's From, far away", func(t *api.Topo) { t.Hops[i][k].From += 256 })
			if e := f.Topo.Hops[i][k]; e.From != e.To {
				add("an edge the other way", func(t *api.Topo) { t.Hops[i][k] = api.Edge{From: e.To, To: e.From} })
			}
		}
	}
	return all
}

// somePlaces are all of a short list's places, and some of a long one's, the first and the last among them.
func somePlaces(n int) []int {
	var all []int
	for i := 0; i < n; i += max(1, n/20) {
		all = append(all, i)
	}
	if n > 0 && all[len(all)-1] != n-1 {
		all = append(all, n-1)
	}
	return all
}

// drawn is a frame that may be, drawn at random.
func drawn(random *rand.Rand) api.Frame {
	kind := kinds[random.Intn(len(kinds))]
	f := atEnd(kind, func(b bound) uint64 {
		span := b.last - b.first
		switch random.Intn(4) {
		case 0:
			span = min(span, 3)
		case 1:
			return b.last - random.Uint64()%(min(span, 3)+1)
		}
		return b.first + random.Uint64()%(span+1)
	})
	if f.To = (f.From + 1 + random.Intn(63)) % 64; kind == member {
		f.To = f.From
	}
	switch kind {
	case data:
		f.Row = row(1+random.Intn(20), 1+random.Intn(400))
		random.Read(f.Row.Coefs)
		random.Read(f.Row.Payload)
	case feedback:
		for gen := f.Gen; gen < min(f.Gen+16, 1<<40); gen++ {
			if random.Intn(3) == 0 {
				f.Ranks = append(f.Ranks, api.Rank{Gen: gen, Rank: 1 + random.Intn(255)})
			}
		}
	case member:
		nodes := 1 + random.Intn(64)
		for range nodes {
			f.Topo.Up = append(f.Topo.Up, random.Intn(2) == 0)
		}
		for range 1 + random.Intn(4) {
			var edges []api.Edge
			for range random.Intn(20) {
				if from, to := random.Intn(nodes), random.Intn(nodes); from != to {
					edges = append(edges, api.Edge{From: from, To: to})
				}
			}
			f.Topo.Hops = append(f.Topo.Hops, edges)
		}
	}
	return f
}

// TestWords: what the tests go by says of right and wrong frames what it has to, and of forms what it laid.
func TestWords(t *testing.T) {
	for _, x := range right() {
		if !mayBe(x.f) {
			t.Errorf("%s of kind %d may not be", x.name, x.f.Kind)
		}
		if f, e := plainTake(seal(plainForm(x.f))); e != api.OK || !alike(f, x.f) {
			t.Errorf("%s of kind %d is not read as it was: %d", x.name, x.f.Kind, e)
		}
		for _, other := range unlike(x.f) {
			if alike(x.f, other.f) {
				t.Errorf("%s of kind %d, unlike in %s, is alike", x.name, x.f.Kind, other.name)
			}
		}
	}
	for _, x := range wrong() {
		if mayBe(x.f) {
			t.Errorf("%s of kind %d may be", x.name, x.f.Kind)
		}
	}
	random := rand.New(rand.NewSource(12))
	for range 20000 {
		if f := drawn(random); !mayBe(f) {
			t.Fatalf("drawn, and may not be: %v", f)
		}
	}
	if crc32.ChecksumIEEE([]byte("123456789")) != 0xcbf43926 {
		t.Error("another sum than the chapter's")
	}
}
