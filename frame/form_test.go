package frame_test

import (
	"bytes"
	"encoding/hex"
	"math/rand"
	"slices"
	"strings"
	"sync"
	"testing"

	"braidwork/api"
	"braidwork/frame"
)

// put is for frames that may be: it holds their bytes against the chapter's form, under its sum.
func put(t *testing.T, name string, f api.Frame) []byte {
	t.Helper()
	before := normal(f)
	b, e := frame.Put(f)
	if want := seal(plainForm(before)); e != api.OK || !bytes.Equal(b, want) {
		t.Fatalf("%s, kind %d: error %d, %d bytes, %x; want %d, %x", name, f.Kind, e, len(b), head(b), len(want), head(want))
	}
	if !alike(f, before) {
		t.Fatalf("%s, kind %d: Put wrote to it", name, f.Kind)
	}
	return b
}

// take holds what is told of any bytes against what the chapter says.
func take(t *testing.T, name string, b []byte) (api.Frame, api.Errno) {
	t.Helper()
	before := bytes.Clone(b)
	f, e := frame.Take(b)
	if want, wantE := plainTake(before); e != wantE || !alike(f, want) {
		t.Fatalf("%s, %d bytes, %x: error %d, want %d; a frame as it has to be: %t", name, len(b), head(b), e, wantE, alike(f, want))
	}
	if !bytes.Equal(b, before) {
		t.Fatalf("%s, %d bytes, %x: Take wrote to them", name, len(b), head(before))
	}
	return f, e
}

// head is what is told of bytes that are many.
func head(b []byte) []byte { return b[:min(len(b), 100)] }

// refuse is for bytes that are no frame's.
func refuse(t *testing.T, name string, b []byte, want api.Errno) {
	t.Helper()
	if f, e := take(t, name, b); e != want || !alike(f, api.Frame{}) {
		t.Fatalf("%s, %d bytes, %x: error %d, not %d, or a frame", name, len(b), head(b), e, want)
	}
}

// short are the right frames that have few bytes.
func short() []named {
	return slices.DeleteFunc(right(), func(x named) bool { return len(plainForm(x.f)) > 200 })
}

// TestPut: frames of each Kind, byte by byte (P12.2).
func TestPut(t *testing.T) {
	for _, x := range right() {
		put(t, x.name, x.f)
		put(t, x.name+", with empty lists", emptied(x.f))
	}
	random := rand.New(rand.NewSource(2))
	for range 20000 {
		put(t, "drawn", drawn(random))
	}
}

// TestPutWrittenOut: a frame of each Kind, its form written out, and one with its sum (P12.2).
func TestPutWrittenOut(t *testing.T) {
	const from3to5 = "03 05 0000000000000102 0000000000000304 "
	f := api.Frame{From: 3, To: 5, Epoch: 0x102, Life: 0x304}
	of := func(kind int, change func(f *api.Frame)) api.Frame {
		return with(f, func(f *api.Frame) {
			f.Kind = kind
			change(f)
		})
	}
	for want, f := range map[string]api.Frame{
		"01 " + from3to5 + "02 000000ffa1a2a3a4 0000000000000506 03 070809 0002 0a0b": of(1, func(f *api.Frame) {
			f.Flow, f.Gen, f.Seq, f.Row = 2, 0xffa1a2a3a4, 0x506, api.Row{Coefs: []byte{7, 8, 9}, Payload: []byte{10, 11}}
		}),
		"02 " + from3to5 + "03 0000000000000b0c 0004000000000000 02 0000000000000b0c 01 0000000000000b1b ff": of(2, func(f *api.Frame) {
			f.Flow, f.Gen, f.Seq, f.Ranks = 3, 0xb0c, 1<<50, []api.Rank{{Gen: 0xb0c, Rank: 1}, {Gen: 0xb1b, Rank: 255}}
		}),
		"03 " + from3to5 + "0000000000000d0e 0000000000000f10": of(3, func(f *api.Frame) { f.Seq, f.For = 0xd0e, 0xf10 }),
		"04 " + from3to5 + "0001020304050607":                  of(4, func(f *api.Frame) { f.Seq = 0x01020304050607 }),
		"05 05 05 0000000000000102 0000000000000000 0000000000001112 03 010001 02 02 0001 0102 00": of(5, func(f *api.Frame) {
			f.From, f.Life = 5, 0
			f.Topo = api.Topo{Epoch: 0x1112, Up: []bool{true, false, true}, Hops: [][]api.Edge{{{From: 0, To: 1}, {From: 1, To: 2}}, nil}}
		}),
		"06 " + from3to5 + "01 0000010000000000": of(6, func(f *api.Frame) { f.Flow, f.Gen = 1, 1<<40 }),
	} {
		form, err := hex.DecodeString(strings.ReplaceAll(want, " ", ""))
		if err != nil {
			t.Fatal(err)
		}
		b := put(t, "written out", f)
		if !bytes.Equal(b[:len(b)-4], form) {
			t.Errorf("kind %d: %x, not %s", f.Kind, b, want)
		}
		if got, e := frame.Take(b); e != api.OK || !alike(got, f) {
			t.Errorf("kind %d: taken as %v, error %d", f.Kind, got, e)
		}
	}
}

// TestPutWrong: frames that may not be (P12.2).
func TestPutWrong(t *testing.T) {
	all := append(wrong(), named{"nothing", api.Frame{}})
	for _, x := range all {
		for _, f := range []api.Frame{x.f, emptied(x.f)} {
			before := normal(f)
			if b, e := frame.Put(f); len(b) != 0 || e != api.ErrArg {
				t.Errorf("%s, kind %d: %x, error %d", x.name, x.f.Kind, head(b), e)
			}
			if !alike(f, before) {
				t.Errorf("%s, kind %d: Put wrote to it", x.name, x.f.Kind)
			}
		}
	}
}

// TestTake: frames of each Kind, from bytes that are laid apart (P12.3, P12.4).
func TestTake(t *testing.T) {
	for _, x := range right() {
		f, e := take(t, x.name, seal(plainForm(x.f)))
		if e != api.OK || !alike(f, x.f) {
			t.Errorf("%s, kind %d: error %d, or another frame", x.name, x.f.Kind, e)
		}
	}
}

// TestTakeLong: more bytes than a frame has, whatever they are, and just so many (P12.3).
func TestTakeLong(t *testing.T) {
	for _, size := range []int{70001, 70002, 70004, 70255, 1 << 17, 1<<17 + 70000, 1 << 20} {
		refuse(t, "noughts", make([]byte, size), api.ErrLong)
		refuse(t, "noughts under their sum", seal(make([]byte, size-4)), api.ErrLong)
		form := append(plainForm(greatest(data)), make([]byte, size)...)[:size-4]
		refuse(t, "a frame's, and more, under their sum", seal(form), api.ErrLong)
		tail := seal(plainForm(greatest(data)))
		refuse(t, "a frame's last", append(make([]byte, size), tail...), api.ErrLong)
	}
	for _, size := range []int{65834, 69999, 70000} {
		refuse(t, "noughts", append(make([]byte, size-1), 1), api.ErrSum)
		refuse(t, "noughts under their sum", seal(make([]byte, size-4)), api.ErrForm)
		form := append(plainForm(greatest(data)), make([]byte, 5000)...)[:size-4]
		refuse(t, "a frame's, and more, under their sum", seal(form), api.ErrForm)
	}
}

// TestTakeShort: fewer bytes than a sum has, and just so many (P12.3).
func TestTakeShort(t *testing.T) {
	for _, b := range [][]byte{nil, {}, {0}, {1}, {4, 0}, {0, 0, 0}, {255, 255, 255}} {
		refuse(t, "short", b, api.ErrShort)
	}
	refuse(t, "the sum of none", make([]byte, 4), api.ErrForm)
	for i := range 32 {
		b := make([]byte, 4)
		b[i/8] = 1 << (i % 8)
		refuse(t, "no sum of none", b, api.ErrSum)
	}
	for _, x := range short() {
		b := seal(plainForm(x.f))
		for n := range 4 {
			refuse(t, x.name, b[:n], api.ErrShort)
			refuse(t, x.name, b[len(b)-n:], api.ErrShort)
		}
	}
}

// TestTakeWrongSum: a frame's form under no sum, another one, or its own the other way round (P12.3).
func TestTakeWrongSum(t *testing.T) {
	for _, x := range right() {
		form := plainForm(x.f)
		b := seal(form)
		sum := b[len(form):]
		refuse(t, x.name+", no sum", form, api.ErrSum)
		refuse(t, x.name+", noughts", append(bytes.Clone(form), 0, 0, 0, 0), api.ErrSum)
		refuse(t, x.name+", the other way round", append(bytes.Clone(form), sum[3], sum[2], sum[1], sum[0]), api.ErrSum)
		refuse(t, x.name+", each bit turned", append(bytes.Clone(form), ^sum[0], ^sum[1], ^sum[2], ^sum[3]), api.ErrSum)
		refuse(t, x.name+", the sum ahead", append(bytes.Clone(sum), form...), api.ErrSum)
		refuse(t, x.name+", a nought behind", append(bytes.Clone(b), 0), api.ErrSum)
		refuse(t, x.name+", a byte less", b[:len(b)-1], api.ErrSum)
		refuse(t, x.name+", another's sum", append(bytes.Clone(form), seal(append(form, 0))[len(form)+1:]...), api.ErrSum)
	}
}

// TestTakeCutOff: forms that end too early, at each place, or too late, under right sums (P12.3).
func TestTakeCutOff(t *testing.T) {
	for _, x := range right() {
		form := plainForm(x.f)
		at := len(form) - 1
		for at >= 0 {
			refuse(t, x.name+", cut off", seal(form[:at]), api.ErrForm)
			if at > 1500 {
				// Of the longest form there are too many places to try all.
				at -= 611
			}
			at--
		}
		for _, behind := range [][]byte{{0}, {1}, {255}, make([]byte, 2), make([]byte, 8), make([]byte, 9), bytes.Repeat([]byte{1}, 16), make([]byte, 300)} {
			refuse(t, x.name+", and more", seal(slices.Concat(form, behind)), api.ErrForm)
			refuse(t, x.name+", and more ahead", seal(slices.Concat(make([]byte, len(behind)), form)), api.ErrForm)
		}
		refuse(t, x.name+", twice", seal(slices.Concat(form, form)[:min(2*len(form), 69996)]), api.ErrForm)
		refuse(t, x.name+", sealed twice", seal(seal(form)), api.ErrForm)
	}
}

// TestTakeTorn: forms from within which some bytes were taken out, so that what is behind stands where they should, under right sums (P12.3).
func TestTakeTorn(t *testing.T) {
	for _, x := range short() {
		form := plainForm(x.f)
		for at := range form {
			for n := 1; n <= 17 && at+n <= len(form); n++ {
				torn := seal(slices.Delete(bytes.Clone(form), at, at+n))
				if f, e := take(t, x.name+", torn", torn); e == api.OK && alike(f, x.f) {
					t.Fatalf("%s, kind %d: the same without %d bytes at %d", x.name, x.f.Kind, n, at)
				}
			}
		}
	}
	// A rank's generation that is not there is not 0, though its rank be the last byte.
	noGen := with(ordinary(feedback), func(f *api.Frame) { f.Gen, f.Ranks = 0, ranks(0) })
	form := plainForm(noGen)
	for n := 1; n <= 8; n++ {
		refuse(t, "a rank without a generation", seal(slices.Delete(bytes.Clone(form), len(form)-1-n, len(form)-1)), api.ErrForm)
	}
}

// TestTakeEachByte: forms of which one byte is any other one, under right sums (P12.3).
func TestTakeEachByte(t *testing.T) {
	for _, x := range append(short(), named{"greatest", greatest(member)}) {
		form := plainForm(x.f)
		for i := range form {
			step := 1
			if len(form) > 60 {
				step = 17
			}
			for by := step; by < 256; by += step {
				form[i] += byte(by)
				f, e := take(t, x.name+", another byte", seal(form))
				if e == api.OK && alike(f, x.f) {
					t.Fatalf("%s, kind %d: byte %d, %d more, is the same frame", x.name, x.f.Kind, i, by)
				}
				form[i] -= byte(by)
			}
		}
	}
}

// TestTakeKinds: forms of all Kinds that there are not, with what any Kind has behind (P12.3).
func TestTakeKinds(t *testing.T) {
	for kind := range 256 {
		for _, own := range kinds {
			form := plainForm(ordinary(own))
			form[0] = byte(kind)
			_, e := take(t, "another kind", seal(form))
			// No two of them are of one length, but for what lists have, which does not go with another kind's.
			if (e == api.OK) != (kind == own) {
				t.Errorf("kind %d's form as kind %d: error %d", own, kind, e)
			}
		}
		if kind < 1 || kind > 6 {
			for n := range 40 {
				refuse(t, "a kind of its own", seal(append([]byte{byte(kind)}, make([]byte, n)...)), api.ErrForm)
			}
		}
	}
}

// TestTakeWrong: forms of frames that may not be, under right sums (P12.3).
func TestTakeWrong(t *testing.T) {
	refused := map[int]int{}
	for _, x := range wrong() {
		// Of numbers that have no form, or fields that the Kind does not have, the form may be that of a frame that may be.
		_, e := take(t, x.name, seal(plainForm(x.f)))
		if e == api.ErrForm {
			refused[x.f.Kind]++
		}
	}
	for kind, want := range map[int]int{0: 6, 7: 6, data: 60, feedback: 90, credit: 50, probe: 40, member: 150, closing: 50} {
		if refused[kind] < want {
			t.Errorf("kind %d: only %d forms were refused", kind, refused[kind])
		}
	}
	up := plainForm(ordinary(member))
	for _, x := range []byte{2, 3, 128, 254, 255} {
		for i := 28; i < 31; i++ {
			form := bytes.Clone(up)
			form[i] = x
			refuse(t, "neither up nor down", seal(form), api.ErrForm)
		}
	}
}

// TestTakeAny: bytes that are drawn at random, most of them as numbers that a form may have, under right sums (P12.3).
func TestTakeAny(t *testing.T) {
	random := rand.New(rand.NewSource(3))
	for range 100000 {
		form := make([]byte, random.Intn(80))
		for i := range form {
			switch random.Intn(5) {
			case 0:
				form[i] = byte(random.Intn(8))
			case 1:
				form[i] = byte(random.Intn(256))
			}
		}
		if len(form) > 0 {
			form[0] = byte(random.Intn(8))
		}
		take(t, "drawn", seal(form))
	}
	for range 20000 {
		form := plainForm(drawn(random))
		for range 1 + random.Intn(3) {
			switch i := random.Intn(len(form)); random.Intn(4) {
			case 0:
				form[i] = byte(random.Intn(256))
			case 1:
				form[i]++
			case 2:
				form = slices.Delete(form, i, i+1)
			case 3:
				form = slices.Insert(form, i, byte(random.Intn(4)))
			}
		}
		take(t, "drawn and changed", seal(form))
	}
	for range 2000 {
		b := make([]byte, random.Intn(300))
		random.Read(b)
		take(t, "noise", b)
		take(t, "noise under its sum", seal(b))
	}
}

// TestBack: what is put is taken as it was, what is taken is put as it was (P12.4).
func TestBack(t *testing.T) {
	back := func(name string, f api.Frame) {
		b := put(t, name, f)
		taken, e := frame.Take(b)
		if e != api.OK || !alike(taken, f) || !frame.Same(taken, f) || !frame.May(taken) {
			t.Fatalf("%s, kind %d: error %d, or another frame", name, f.Kind, e)
		}
		if again, e := frame.Put(taken); e != api.OK || !bytes.Equal(again, b) {
			t.Fatalf("%s, kind %d: error %d, or other bytes", name, f.Kind, e)
		}
	}
	for _, x := range right() {
		back(x.name, x.f)
		back(x.name+", with empty lists", emptied(x.f))
	}
	random := rand.New(rand.NewSource(4))
	for range 20000 {
		back("drawn", drawn(random))
	}
}

// TestBackOfBytes: any bytes that are taken are put as they were (P12.4).
func TestBackOfBytes(t *testing.T) {
	taken := 0
	for _, x := range short() {
		form := plainForm(x.f)
		for i := range form {
			for _, by := range []byte{1, 2, 16, 128, 255} {
				form[i] += by
				b := seal(form)
				if f, e := frame.Take(b); e == api.OK {
					taken++
					if again, e := frame.Put(f); e != api.OK || !bytes.Equal(again, b) {
						t.Errorf("%x: put as %x, error %d", b, again, e)
					}
				}
				form[i] -= by
			}
		}
	}
	if taken < 500 {
		t.Error("few were taken:", taken)
	}
}

// TestUnlikeBytes: unlike frames have unlike bytes, like ones like ones (P12.4).
func TestUnlikeBytes(t *testing.T) {
	of := map[string]api.Frame{}
	learn := func(f api.Frame) {
		b, e := frame.Put(f)
		if e != api.OK {
			return
		}
		if other, ok := of[string(b)]; ok && !frame.Same(f, other) {
			t.Fatalf("%v and %v have the same bytes", f, other)
		}
		of[string(b)] = f
	}
	all := hopped()
	for _, x := range right() {
		all = append(all, x.f)
	}
	for _, f := range all {
		learn(f)
		for _, x := range unlike(f) {
			learn(x.f)
		}
	}
	if len(of) < 1000 {
		t.Error("few frames:", len(of))
	}
}

// TestAny: frames that may be, changed in some things, may they be then or not, by all calls (P12.1, P12.2, P12.4).
func TestAny(t *testing.T) {
	random := rand.New(rand.NewSource(7))
	may := 0
	for range 1500 {
		first := drawn(random)
		f := first
		for range 1 + random.Intn(3) {
			others := unlike(f)
			f = others[random.Intn(len(others))].f
		}
		hold(t, "changed", f, first, alike(f, first))
		ask(t, "changed", f, mayBe(f))
		if mayBe(f) {
			may++
			put(t, "changed", f)
			continue
		}
		if b, e := frame.Put(f); len(b) != 0 || e != api.ErrArg {
			t.Fatalf("%v: %x, error %d", f, head(b), e)
		}
	}
	if may < 100 || may > 1400 {
		t.Error("of one sort are few:", may)
	}
}

// TestGreatest: no frame has more bytes than may be taken (P12.4).
func TestGreatest(t *testing.T) {
	for kind, want := range map[int]int{data: 65833, feedback: 185, credit: 39, probe: 31, member: 1125, closing: 32} {
		if b := put(t, "greatest", greatest(kind)); len(b) != want || len(b) > api.MaxFrame {
			t.Errorf("kind %d: %d bytes, not %d", kind, len(b), want)
		}
	}
	for kind, want := range map[int]int{data: 45, feedback: 41, credit: 39, probe: 31, member: 35, closing: 32} {
		if b := put(t, "least", least(kind)); len(b) != want {
			t.Errorf("kind %d: %d bytes, not %d", kind, len(b), want)
		}
	}
}

// turn turns, from bit at on, those that pattern has, of which the lowest comes first; each byte's lowest bit comes first, as in a sum's register.
func turn(b []byte, at int, pattern uint32) []byte {
	b = bytes.Clone(b)
	for i := range 32 {
		if bit := at + i; bit < 8*len(b) && pattern>>i&1 == 1 {
			b[bit/8] ^= 1 << (bit % 8)
		}
	}
	return b
}

// turned asks whether it is seen that some of b's bits were turned.
func turned(t *testing.T, name string, b []byte, at int, pattern uint32) {
	t.Helper()
	if f, e := frame.Take(turn(b, at, pattern)); e != api.ErrSum || !alike(f, api.Frame{}) {
		t.Fatalf("%s, %x, bits from %d on by %b: error %d", name, head(b), at, pattern, e)
	}
}

// patternAt is one that turns at least its first bit, so that it turns some wherever it begins.
func patternAt(random *rand.Rand) uint32 {
	pattern := random.Uint32() | 1
	switch random.Intn(4) {
	case 0:
		pattern |= 1 << 31
	case 1:
		pattern &= random.Uint32() & random.Uint32() & random.Uint32()
		pattern |= 1
	case 2:
		pattern >>= random.Intn(32)
		pattern |= 1
	}
	return pattern
}

// TestTurnedBits: each single bit of short frames, and bits within 32 in a row at each place (P12.5).
func TestTurnedBits(t *testing.T) {
	random := rand.New(rand.NewSource(5))
	for _, x := range short() {
		b := put(t, x.name, x.f)
		for at := range 8 * len(b) {
			turned(t, x.name, b, at, 1)
			turned(t, x.name, b, at, 1<<31|1)
			turned(t, x.name, b, at, 1<<32-1)
			for range 40 {
				turned(t, x.name, b, at, patternAt(random))
			}
		}
	}
	b := put(t, "least", least(probe))
	for at := 0; at < 8*len(b); at += 24 {
		for pattern := uint32(1); pattern < 1<<13; pattern += 2 {
			turned(t, "least", b, at, pattern)
		}
	}
}

// TestTurnedBitsOfLong: each single bit of a frame of a thousand bytes; bits within 32 in a row, at the ends and at many places of long ones (P12.5).
func TestTurnedBitsOfLong(t *testing.T) {
	random := rand.New(rand.NewSource(6))
	middle := put(t, "greatest", greatest(member))
	for at := range 8 * len(middle) {
		turned(t, "greatest", middle, at, 1)
		turned(t, "greatest", middle, at, patternAt(random))
	}
	long := put(t, "greatest", greatest(data))
	places := []int{8*len(long) - 1, 8*len(long) - 2}
	for i := range 64 {
		places = append(places, i, 8*len(long)-64+i)
	}
	for range 1500 {
		places = append(places, random.Intn(8*len(long)))
	}
	for _, at := range places {
		turned(t, "greatest", long, at, 1)
		turned(t, "greatest", long, at, patternAt(random))
	}
}

// wipe writes to all that f has in lists, and to the room behind them.
func wipe(f api.Frame) {
	for _, b := range [][]byte{f.Row.Coefs, f.Row.Payload} {
		for i := range b[:cap(b)] {
			b[:cap(b)][i] ^= 0xff
		}
	}
	for i := range f.Ranks[:cap(f.Ranks)] {
		f.Ranks[:cap(f.Ranks)][i] = api.Rank{Gen: 999, Rank: 99}
	}
	for i := range f.Topo.Up[:cap(f.Topo.Up)] {
		f.Topo.Up[:cap(f.Topo.Up)][i] = !f.Topo.Up[:cap(f.Topo.Up)][i]
	}
	for _, edges := range f.Topo.Hops {
		for i := range edges[:cap(edges)] {
			edges[:cap(edges)][i] = api.Edge{From: 99, To: 98}
		}
	}
	for i := range f.Topo.Hops[:cap(f.Topo.Hops)] {
		f.Topo.Hops[:cap(f.Topo.Hops)][i] = nil
	}
}

// TestPutApart: bytes that were told share nothing with the frame, nor with others (P12.2, R3).
func TestPutApart(t *testing.T) {
	for _, x := range right() {
		f, want := normal(x.f), seal(plainForm(x.f))
		b, again := put(t, x.name, f), put(t, x.name, f)
		for i := range b[:cap(b)] {
			b[:cap(b)][i] ^= 0xff
		}
		if !alike(f, x.f) {
			t.Errorf("%s, kind %d: writing to its bytes shows in the frame", x.name, x.f.Kind)
		}
		wipe(f)
		if !bytes.Equal(again, want) {
			t.Errorf("%s, kind %d: writing to the frame or to other bytes shows", x.name, x.f.Kind)
		}
	}
}

// TestTakeApart: a frame that was told shares nothing with its bytes, nor with others, nor one of its lists with another (P12.3, R3).
func TestTakeApart(t *testing.T) {
	for _, x := range right() {
		want := seal(plainForm(x.f))
		given := bytes.Clone(want)
		f, _ := take(t, x.name, given)
		again, _ := take(t, x.name, given)
		third, _ := take(t, x.name, given)
		wipe(f)
		if !bytes.Equal(given, want) {
			t.Errorf("%s, kind %d: writing to the frame shows in its bytes", x.name, x.f.Kind)
		}
		for i := range given {
			given[i] ^= 0xff
		}
		if !alike(again, x.f) {
			t.Errorf("%s, kind %d: writing to its bytes or to another frame shows in the frame", x.name, x.f.Kind)
		}
		for i := range third.Row.Coefs[:cap(third.Row.Coefs)] {
			third.Row.Coefs[:cap(third.Row.Coefs)][i] ^= 0xff
		}
		if !bytes.Equal(third.Row.Payload, x.f.Row.Payload) {
			t.Errorf("%s: writing to the coefficients shows in the payload", x.name)
		}
		apartHops(t, x.name, again)
	}
}

// apartHops asks whether writing to one flow's edges, and behind them, leaves the other flows' as they are.
func apartHops(t *testing.T, name string, f api.Frame) {
	t.Helper()
	for flow, edges := range f.Topo.Hops {
		before := normal(f)
		for i := range edges[:cap(edges)] {
			edges[:cap(edges)][i].From += 100
		}
		for other := range f.Topo.Hops {
			if other != flow && !slices.Equal(f.Topo.Hops[other], before.Topo.Hops[other]) {
				t.Errorf("%s: writing to flow %d shows in flow %d", name, flow, other)
			}
		}
	}
}

// TestRoomBehind: what stands behind a given list, in the same memory, is neither looked at nor written to (R3, R4).
func TestRoomBehind(t *testing.T) {
	for _, x := range right() {
		f := normal(x.f)
		f.Row.Coefs = append(f.Row.Coefs, 1, 2, 3)[:len(f.Row.Coefs)]
		f.Row.Payload = append(f.Row.Payload, 4, 5, 6)[:len(f.Row.Payload)]
		f.Ranks = append(f.Ranks, api.Rank{Gen: 7, Rank: 7})[:len(f.Ranks)]
		f.Topo.Up = append(f.Topo.Up, true)[:len(f.Topo.Up)]
		f.Topo.Hops = append(f.Topo.Hops, []api.Edge{{From: 8, To: 9}})[:len(f.Topo.Hops)]
		for i, edges := range f.Topo.Hops {
			f.Topo.Hops[i] = append(edges, api.Edge{From: 8, To: 8})[:len(edges)]
		}
		hold(t, x.name, f, x.f, true)
		ask(t, x.name, f, true)
		b := put(t, x.name, f)
		roomy := append(bytes.Clone(b), 1, 2, 3, 4)
		if got, e := take(t, x.name, roomy[:len(b)]); e != api.OK || !alike(got, x.f) {
			t.Errorf("%s, kind %d: error %d, or another frame", x.name, x.f.Kind, e)
		}
		behind := slices.Concat(
			f.Row.Coefs[:len(f.Row.Coefs)+3][len(f.Row.Coefs):], f.Row.Payload[:len(f.Row.Payload)+3][len(f.Row.Payload):], roomy[len(b):])
		if !bytes.Equal(behind, []byte{1, 2, 3, 4, 5, 6, 1, 2, 3, 4}) || f.Ranks[:len(f.Ranks)+1][len(f.Ranks)].Gen != 7 {
			t.Errorf("%s, kind %d: what stands behind was written to", x.name, x.f.Kind)
		}
	}
}

// TestTogether: calls at the same time, of the same frames and bytes, tell the same (R7).
func TestTogether(t *testing.T) {
	all := short()
	var wait sync.WaitGroup
	for range 8 {
		wait.Go(func() {
			for range 50 {
				for _, x := range all {
					b, e := frame.Put(x.f)
					f, e2 := frame.Take(b)
					if e != api.OK || e2 != api.OK || !frame.Same(f, x.f) {
						t.Errorf("%s, kind %d: errors %d, %d", x.name, x.f.Kind, e, e2)
					}
				}
			}
		})
	}
	wait.Wait()
}
