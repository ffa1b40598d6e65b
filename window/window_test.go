package window_test

import (
	"math"
	"slices"
	"testing"

	"braidwork/api"
	"braidwork/window"
)

// top is the number of which, and of those above it, none is in a window.
const top uint64 = 1 << 40

// wrongWidths are some that no window has, among them those that are right when only their lowest bits are seen.
var wrongWidths = []int{
	0, -1, -2, -15, -16, -17, -255, -256, -65535, -1 << 32, -1<<32 + 4, math.MinInt32, math.MinInt32 + 3, math.MinInt + 1, math.MinInt + 8, math.MinInt,
	17, 18, 19, 31, 32, 33, 64, 255, 256, 257, 260, 272, 1 << 16, 1<<16 + 1, 1<<32 - 1, 1 << 32, 1<<32 + 1, 1<<32 + 16, 1 << 40, 1 << 62, 1<<62 + 5, math.MaxInt32, math.MaxInt - 1, math.MaxInt,
}

// wrongBases are some to which no window is moved, among them those that are right when only their lowest bits are seen.
var wrongBases = []uint64{
	top + 1, top + 2, top + 15, top + 16, top + 17, 2*top - 1, 2 * top, 2*top + 3, 1<<48 + 5, 1 << 62, 1<<63 - 1, 1 << 63, 1<<63 + 1, 1<<63 + top,
	math.MaxUint64 - top, math.MaxUint64 - 17, math.MaxUint64 - 16, math.MaxUint64 - 15, math.MaxUint64 - 1, math.MaxUint64,
}

// bases are some of all sizes, round all edges.
func bases() []uint64 {
	var all []uint64
	for n := range uint64(35) {
		all = append(all, n, top-n)
	}
	for _, edge := range []uint64{100, 1 << 8, 1 << 16, 1 << 31, 1 << 32, 1 << 39, 987654321012} {
		for _, far := range []uint64{0, 1, 3, 16, 17} {
			all = append(all, edge-far, edge+far)
		}
	}
	slices.Sort(all)
	return slices.Compact(all)
}

// list is a window by the chapter's words, to be held against the program.
type list struct {
	width int
	base  uint64
}

// all is each number from the base on, as many as the width, if it is below top.
func (l list) all() []uint64 {
	var all []uint64
	for i := range l.width {
		if n := l.base + uint64(i); n < top {
			all = append(all, n)
		}
	}
	return all
}

func (l list) end() uint64 {
	if end := l.base + uint64(l.width); end < top {
		return end
	}
	return top
}

// without is what is in l, and not in m, in l's order.
func without(l, m []uint64) []uint64 {
	return slices.DeleteFunc(slices.Clone(l), func(n uint64) bool { return slices.Contains(m, n) })
}

// asked is what a window of that list is asked of: numbers round its ends and round top,
// those that are in when only some of their bits are seen, and the greatest ones.
func (l list) asked() []uint64 {
	all := []uint64{0, 1, 2, 1 << 32, 1 << 62, 1<<63 - 1, 1 << 63, math.MaxUint64 - 1, math.MaxUint64}
	for i := range uint64(36) {
		all = append(all, l.base+i-18, l.end()+i-18, top+i-18) // below 0 these are numbers among the greatest
	}
	for _, n := range l.all() {
		all = append(all, n+1<<32, n+top, n+1<<48, n+1<<63, n^1<<39, n^1<<31, uint64(uint32(n)), uint64(uint8(n)), -n)
	}
	return all
}

// made is a new window, which has to go well.
func made(t *testing.T, width int) *window.Window {
	t.Helper()
	w, e := window.New(width)
	if w == nil || e != api.OK {
		t.Fatalf("New(%d): %v, error %d", width, w != nil, e)
	}
	return w
}

// at is a new window, moved to that base.
func at(t *testing.T, width int, base uint64) *window.Window {
	t.Helper()
	w := made(t, width)
	if _, e := w.Move(base); e != api.OK {
		t.Fatalf("Move(%d) of width %d: error %d", base, width, e)
	}
	return w
}

// holds asks for all that a window tells and stays as it is by.
func holds(t *testing.T, w *window.Window, l list) {
	t.Helper()
	ends(t, w, l)
	all := l.all()
	for _, n := range l.asked() {
		is := slices.Contains(all, n)
		if got := w.In(n); got != is {
			t.Fatalf("In(%d) of %v: %v", n, l, got)
		}
		want, wantErr := 0, api.ErrArg
		if is {
			want, wantErr = int(n%uint64(l.width)), api.OK
		}
		if slot, e := w.Slot(n); slot != want || e != wantErr {
			t.Fatalf("Slot(%d) of %v: %d, error %d, not %d, error %d", n, l, slot, e, want, wantErr)
		}
	}
	ends(t, w, l)
}

// ends asks for Base, End, Width and All.
func ends(t *testing.T, w *window.Window, l list) {
	t.Helper()
	if w.Base() != l.base || w.End() != l.end() || w.Width() != l.width {
		t.Fatalf("base %d, end %d, width %d, not %d, %d, %d", w.Base(), w.End(), w.Width(), l.base, l.end(), l.width)
	}
	if all := w.All(); !slices.Equal(all, l.all()) {
		t.Fatalf("All of %v: %d", l, all)
	}
}

// moves moves the window, which has to go well, and asks for what is told; it tells it in turn.
func moves(t *testing.T, w *window.Window, l *list, base uint64) []uint64 {
	t.Helper()
	ahead := *l
	l.base = base
	gone, e := w.Move(base)
	if want := without(ahead.all(), l.all()); e != api.OK || !slices.Equal(gone, want) {
		t.Fatalf("Move(%d) of %v: %d, error %d, not %d", base, ahead, gone, e, want)
	}
	return gone
}

// movesNot asks for a Move that has to tell this error.
func movesNot(t *testing.T, w *window.Window, base uint64, want api.Errno) {
	t.Helper()
	if gone, e := w.Move(base); len(gone) != 0 || e != want {
		t.Fatalf("Move(%d): %d, error %d, not %d", base, gone, e, want)
	}
}

// some makes numbers, always the same ones of one seed.
type some uint64

func (s *some) below(n int) int {
	*s = *s*6364136223846793005 + 1442695040888963407
	return int(uint64(*s)>>33) % n
}

// eachWidth does it for each width that a window may have.
func eachWidth(do func(width int)) {
	for width := 1; width <= 16; width++ {
		do(width)
	}
}

// eachPair does it for each width, and each two bases.
func eachPair(do func(width int, from, to uint64)) {
	all := bases()
	eachWidth(func(width int) {
		for _, from := range all {
			for _, to := range all {
				do(width, from, to)
			}
		}
	})
}

func TestExamples(t *testing.T) { // P10.1, P10.2, P10.3
	w := made(t, 4)
	gone, e := w.Move(3)
	if !slices.Equal(gone, []uint64{0, 1, 2}) || e != api.OK || w.End() != 7 || !slices.Equal(w.All(), []uint64{3, 4, 5, 6}) {
		t.Error("Move(3):", gone, e, w.End(), w.All())
	}
	if w.In(2) || !w.In(6) || w.In(7) {
		t.Error("In:", w.In(2), w.In(6), w.In(7))
	}
	gone, e = w.Move(5)
	if !slices.Equal(gone, []uint64{3, 4}) || e != api.OK {
		t.Error("Move(5):", gone, e)
	}
	if slot, e := w.Slot(6); slot != 2 || e != api.OK {
		t.Error("Slot(6):", slot, e)
	}
	if slot, e := w.Slot(9); slot != 0 || e != api.ErrArg {
		t.Error("Slot(9):", slot, e)
	}
	gone, e = w.Move(1 << 40)
	if !slices.Equal(gone, []uint64{5, 6, 7, 8}) || e != api.OK || len(w.All()) != 0 || w.End() != 1<<40 {
		t.Error("Move(2^40):", gone, e, w.All(), w.End())
	}
}

func TestNew(t *testing.T) { // P10.1
	eachWidth(func(width int) {
		holds(t, made(t, width), list{width: width})
	})
}

func TestNewOfWrongWidths(t *testing.T) { // P10.1
	for _, width := range wrongWidths {
		if w, e := window.New(width); w != nil || e != api.ErrArg {
			t.Errorf("New(%d): %v, error %d, not ErrArg", width, w != nil, e)
		}
	}
	for width := -3000; width <= 3000; width++ {
		if w, e := window.New(width); (w != nil) != (width >= 1 && width <= 16) || (e == api.OK) != (w != nil) {
			t.Errorf("New(%d): %v, error %d", width, w != nil, e)
		}
	}
}

func TestWindowsOfEachBase(t *testing.T) { // P10.1, P10.2
	eachWidth(func(width int) {
		for _, base := range bases() {
			holds(t, at(t, width, base), list{width, base})
		}
	})
}

func TestWindowsRoundTheGreatestNumbers(t *testing.T) { // P10.1: ending below, at and beyond MaxGen
	for _, c := range []struct {
		width     int
		base, end uint64
		all       []uint64
	}{
		{3, top - 5, top - 2, []uint64{top - 5, top - 4, top - 3}},
		{3, top - 4, top - 1, []uint64{top - 4, top - 3, top - 2}},
		{3, top - 3, top, []uint64{top - 3, top - 2, top - 1}},
		{3, top - 2, top, []uint64{top - 2, top - 1}},
		{3, top - 1, top, []uint64{top - 1}},
		{3, top, top, nil},
		{1, top - 1, top, []uint64{top - 1}},
		{1, top, top, nil},
		{16, top - 1, top, []uint64{top - 1}},
		{16, top, top, nil},
	} {
		w := at(t, c.width, c.base)
		if w.Base() != c.base || w.End() != c.end || w.Width() != c.width || !slices.Equal(w.All(), c.all) {
			t.Errorf("%d from %d on: base %d, end %d, width %d, %d", c.width, c.base, w.Base(), w.End(), w.Width(), w.All())
		}
		for n := top - 20; n < top+20; n++ {
			if w.In(n) != slices.Contains(c.all, n) {
				t.Errorf("%d from %d on: In(%d): %v", c.width, c.base, n, w.In(n))
			}
		}
		if w.In(math.MaxUint64) || w.In(0) || w.In(1<<63) {
			t.Errorf("%d from %d on: what is far off is in", c.width, c.base)
		}
	}
}

func TestInAtTheEnds(t *testing.T) { // P10.1: the number below the base, the base, the last one that is in, the one behind it
	eachWidth(func(width int) {
		for _, base := range []uint64{1, 2, 16, 17, 1 << 32, 1<<32 + 1, 1 << 39, top - 16} {
			w, behind := at(t, width, base), base+uint64(width)
			if w.In(base-1) || !w.In(base) || !w.In(behind-1) || w.In(behind) {
				t.Errorf("%d from %d on: %v, %v, %v, %v", width, base, w.In(base-1), w.In(base), w.In(behind-1), w.In(behind))
			}
		}
	})
}

// isNone asks for all calls of no window, none of which may change that.
func isNone(t *testing.T, w *window.Window) {
	t.Helper()
	for range 2 {
		if w.Base() != 0 || w.End() != 0 || w.Width() != 0 || len(w.All()) != 0 || w.Copy() != nil {
			t.Fatalf("base %d, end %d, width %d, %d, copy %v", w.Base(), w.End(), w.Width(), w.All(), w.Copy() != nil)
		}
		for _, n := range slices.Concat(bases(), wrongBases) {
			if w.In(n) {
				t.Fatalf("In(%d)", n)
			}
			if slot, e := w.Slot(n); slot != 0 || e != api.ErrNil {
				t.Fatalf("Slot(%d): %d, error %d, not ErrNil", n, slot, e)
			}
			movesNot(t, w, n, api.ErrNil)
		}
	}
}

func TestNoWindow(t *testing.T) { // P10.1, P10.2, P10.3: ErrNil ahead of ErrArg
	isNone(t, nil)
	isNone(t, &window.Window{})
	isNone(t, new(window.Window))
	for _, width := range wrongWidths {
		w, _ := window.New(width)
		isNone(t, w)
	}
	isNone(t, (*window.Window)(nil).Copy())
	isNone(t, new(window.Window).Copy())
}

func TestCopy(t *testing.T) { // P10.1
	eachPair(func(width int, from, to uint64) {
		one, l := at(t, width, from), list{width, from}
		m := l
		other := one.Copy()
		ends(t, other, m)
		moves(t, other, &m, to)
		ends(t, one, l)
		third, k := other.Copy(), m
		moves(t, one, &l, to/2+3)
		ends(t, other, m)
		moves(t, other, &m, from)
		ends(t, one, l)
		ends(t, other, m)
		ends(t, third, k)
		movesNot(t, third, top+1, api.ErrArg)
		ends(t, third, k)
	})
}

func TestCopyHasTheSame(t *testing.T) { // P10.1, P10.2
	eachWidth(func(width int) {
		for _, base := range bases() {
			w, l := at(t, width, base), list{width, base}
			other := w.Copy()
			if other == w {
				t.Fatal("a copy is the window itself")
			}
			holds(t, other, l)
			holds(t, other.Copy(), l)
			holds(t, w, l)
		}
	})
}

func TestSlot(t *testing.T) { // P10.2
	for _, c := range []struct {
		width   int
		base, n uint64
		want    int
		wantErr api.Errno
	}{
		{4, 0, 0, 0, api.OK},
		{4, 0, 3, 3, api.OK},
		{4, 0, 4, 0, api.ErrArg},
		{4, 5, 4, 0, api.ErrArg},
		{4, 5, 5, 1, api.OK},
		{4, 5, 7, 3, api.OK},
		{4, 5, 8, 0, api.OK},
		{4, 5, 9, 0, api.ErrArg},
		{4, 5, math.MaxUint64, 0, api.ErrArg},
		{1, 9, 9, 0, api.OK},
		{1, 9, 10, 0, api.ErrArg},
		{3, 9, 8, 0, api.ErrArg},
		{3, 9, 11, 2, api.OK},
		{3, 1 << 32, 1 << 32, 1, api.OK},
		{16, top - 1, top - 1, 15, api.OK},
		{16, top - 1, top, 0, api.ErrArg},
		{16, top - 1, top - 2, 0, api.ErrArg},
		{7, top - 1, top - 1, 1, api.OK},
		{5, top, top, 0, api.ErrArg},
		{5, top, top - 1, 0, api.ErrArg},
		{5, top, 0, 0, api.ErrArg},
	} {
		if slot, e := at(t, c.width, c.base).Slot(c.n); slot != c.want || e != c.wantErr {
			t.Errorf("Slot(%d), %d from %d on: %d, error %d, not %d, error %d", c.n, c.width, c.base, slot, e, c.want, c.wantErr)
		}
	}
}

func TestMove(t *testing.T) { // P10.3: to the base that stands, on and back by one, by less than the width, by the width and more
	for _, c := range []struct {
		width    int
		from, to uint64
		gone     []uint64
	}{
		{4, 0, 0, nil},
		{4, 10, 10, nil},
		{4, 10, 11, []uint64{10}},
		{4, 10, 13, []uint64{10, 11, 12}},
		{4, 10, 14, []uint64{10, 11, 12, 13}},
		{4, 10, 15, []uint64{10, 11, 12, 13}},
		{4, 10, 1 << 33, []uint64{10, 11, 12, 13}},
		{4, 10, 9, []uint64{13}},
		{4, 10, 7, []uint64{11, 12, 13}},
		{4, 10, 6, []uint64{10, 11, 12, 13}},
		{4, 10, 5, []uint64{10, 11, 12, 13}},
		{4, 10, 0, []uint64{10, 11, 12, 13}},
		{4, 1<<33 + 10, 10, []uint64{1<<33 + 10, 1<<33 + 11, 1<<33 + 12, 1<<33 + 13}},
		{1, 10, 10, nil},
		{1, 10, 11, []uint64{10}},
		{1, 10, 9, []uint64{10}},
		{4, 10, top, []uint64{10, 11, 12, 13}},
		{4, top - 5, top - 2, []uint64{top - 5, top - 4, top - 3}},
		{4, top - 5, top, []uint64{top - 5, top - 4, top - 3, top - 2}},
		{4, top - 3, top - 2, []uint64{top - 3}},
		{4, top - 3, top - 1, []uint64{top - 3, top - 2}},
		{4, top - 3, top, []uint64{top - 3, top - 2, top - 1}},
		{4, top - 1, top, []uint64{top - 1}},
		{4, top, top, nil},
		{4, top, top - 1, nil},
		{4, top, top - 9, nil},
		{4, top, 0, nil},
		{4, top - 1, top - 4, nil},
		{4, top - 1, top - 5, []uint64{top - 1}},
		{4, top - 2, top - 5, []uint64{top - 1}},
	} {
		w := at(t, c.width, c.from)
		if gone, e := w.Move(c.to); !slices.Equal(gone, c.gone) || e != api.OK {
			t.Errorf("Move(%d), %d from %d on: %d, error %d, not %d", c.to, c.width, c.from, gone, e, c.gone)
		}
		holds(t, w, list{c.width, c.to})
	}
}

func TestMoveFromEachBaseToEach(t *testing.T) { // P10.3
	eachPair(func(width int, from, to uint64) {
		w, l := at(t, width, from), list{width, from}
		moves(t, w, &l, to)
		ends(t, w, l)
	})
}

func TestMoveByEachFewSteps(t *testing.T) { // P10.3: all of them, from each of the first bases and of the last ones
	eachWidth(func(width int) {
		for from := range uint64(40) {
			for to := range uint64(40) {
				w, l := at(t, width, from), list{width, from}
				moves(t, w, &l, to)
				ends(t, w, l)
				w, l = at(t, width, top-from), list{width, top - from}
				moves(t, w, &l, top-to)
				ends(t, w, l)
			}
		}
	})
}

func TestMoveTooFar(t *testing.T) { // P10.3: nothing changes
	eachWidth(func(width int) {
		for _, base := range bases() {
			w, l := at(t, width, base), list{width, base}
			for _, wrong := range wrongBases {
				movesNot(t, w, wrong, api.ErrArg)
				ends(t, w, l)
			}
			holds(t, w, l)
			moves(t, w, &l, base/2)
			holds(t, w, l)
		}
	})
}

func TestMoveToldAlone(t *testing.T) { // P10.3: with what is told of no window, and of wrong bases, nothing is told
	for _, base := range wrongBases {
		movesNot(t, nil, base, api.ErrNil)
		movesNot(t, new(window.Window), base, api.ErrNil)
		movesNot(t, made(t, 5), base, api.ErrArg)
	}
}

func TestWhatMoveTellsRises(t *testing.T) { // P10.3
	eachPair(func(width int, from, to uint64) {
		gone, _ := at(t, width, from).Move(to)
		for i := 1; i < len(gone); i++ {
			if gone[i] <= gone[i-1] {
				t.Fatalf("Move(%d), %d from %d on: %d", to, width, from, gone)
			}
		}
	})
}

func TestGoneAndStaying(t *testing.T) { // P10.4: what a Move tells and what is in ahead and behind are together what was in
	eachPair(func(width int, from, to uint64) {
		w := at(t, width, from)
		ahead := w.All()
		parts, _ := w.Move(to)
		for _, n := range w.All() {
			if slices.Contains(parts, n) {
				t.Fatalf("Move(%d), %d from %d on: %d is told, and in", to, width, from, n)
			}
			if slices.Contains(ahead, n) {
				parts = append(parts, n)
			}
		}
		slices.Sort(parts)
		if !slices.Equal(parts, ahead) {
			t.Fatalf("Move(%d), %d from %d on: together %d, not %d", to, width, from, parts, ahead)
		}
	})
}

func TestOnAndBack(t *testing.T) { // P10.4
	eachPair(func(width int, from, to uint64) {
		w, l := at(t, width, from), list{width, from}
		moves(t, w, &l, to)
		moves(t, w, &l, from)
		ends(t, w, list{width, from})
	})
	eachWidth(func(width int) {
		for _, from := range bases() {
			w := at(t, width, from)
			for _, to := range []uint64{from + 1, from + uint64(width), top, 0} {
				w.Move(to)
				w.Move(from)
				holds(t, w, list{width, from})
			}
		}
	})
}

func TestTwoStepsOn(t *testing.T) { // P10.4: no less goes than in one
	eachWidth(func(width int) {
		for _, from := range []uint64{0, 1, 7, 1 << 32, top - 40, top - 17, top - 16, top - 2, top - 1, top} {
			for first := range uint64(20) {
				for second := range uint64(20) {
					between, to := from+first, from+first+second
					if to > top {
						continue
					}
					w, direct := at(t, width, from), at(t, width, from)
					told, _ := w.Move(between)
					more, _ := w.Move(to)
					once, _ := direct.Move(to)
					if left := without(once, slices.Concat(told, more)); len(left) != 0 {
						t.Fatalf("%d from %d on, to %d, to %d: %d, then %d; in one step %d", width, from, between, to, told, more, once)
					}
					ends(t, w, list{width, to})
					ends(t, direct, list{width, to})
				}
			}
		}
	})
}

func TestSlotsAreApart(t *testing.T) { // P10.5
	eachWidth(func(width int) {
		for _, base := range bases() {
			w := at(t, width, base)
			taken := make([]int, 16)
			for _, n := range w.All() {
				slot, e := w.Slot(n)
				if e != api.OK || slot < 0 || slot >= width {
					t.Fatalf("Slot(%d), %d from %d on: %d, error %d", n, width, base, slot, e)
				}
				taken[slot]++
			}
			count := 0
			for slot, numbers := range taken {
				if numbers > 1 {
					t.Fatalf("%d from %d on: %d numbers have slot %d", width, base, numbers, slot)
				}
				count += numbers
			}
			if want := min(width, int(top-base)); count != want {
				t.Fatalf("%d from %d on: %d slots are taken, not %d", width, base, count, want)
			}
		}
	})
}

func TestSlotsStayThroughMoves(t *testing.T) { // P10.2, P10.5: what stays in keeps its slot
	eachPair(func(width int, from, to uint64) {
		w := at(t, width, from)
		slots := map[uint64]int{}
		for _, n := range w.All() {
			slots[n], _ = w.Slot(n)
		}
		w.Move(to)
		for _, n := range w.All() {
			slot, e := w.Slot(n)
			if was, ok := slots[n]; e != api.OK || ok && was != slot {
				t.Fatalf("Slot(%d), %d from %d on, moved to %d: %d, error %d, not %d", n, width, from, to, slot, e, was)
			}
		}
	})
}

// wipe turns each number, and of the room behind them, into another one.
func wipe(l []uint64) {
	whole := l[:cap(l)]
	for i := range whole {
		whole[i] = ^whole[i]
	}
}

func TestToldIsNew(t *testing.T) { // R3
	eachWidth(func(width int) {
		for _, from := range []uint64{0, 5, 1 << 33, top - 17, top - 3, top} {
			for _, to := range []uint64{0, 3, 7, 1 << 33, 1<<33 + 3, top - 15, top - 1, top} {
				w, l := at(t, width, from), list{width, from}
				other := w.Copy()
				all, again := w.All(), w.All()
				wipe(all)
				_ = append(all, 1, 2, 3)
				wipe(other.All())
				ends(t, w, l)
				ends(t, other, l)
				if !slices.Equal(again, l.all()) {
					t.Fatalf("All of %v, and another answer written to: %d", l, again)
				}
				m := list{width, from}
				gone, same := moves(t, w, &l, to), moves(t, other, &m, to)
				want, behind := slices.Clone(same), w.All()
				wipe(gone)
				_ = append(gone, 1, 2, 3)
				wipe(again)
				ends(t, w, l)
				ends(t, other, m)
				if !slices.Equal(same, want) || !slices.Equal(behind, l.all()) {
					t.Fatalf("Move(%d), %d from %d on, and another answer written to: %d, then in it %d", to, width, from, same, behind)
				}
				wipe(behind)
				moves(t, w, &l, from)
				holds(t, w, l)
				if !slices.Equal(same, want) {
					t.Fatalf("Move(%d), %d from %d on, and moved again: %d", to, width, from, same)
				}
			}
		}
	})
}

func TestAskingChangesNothing(t *testing.T) { // R3: also where the answer is an error
	w := at(t, 6, 20)
	for _, n := range slices.Concat(bases(), wrongBases) {
		w.In(n)
		w.Slot(n)
		w.All()
		w.Copy().Move(n)
	}
	for _, n := range wrongBases {
		w.Move(n)
	}
	holds(t, w, list{6, 20})
}

func TestRowsOfMoves(t *testing.T) { // P10.1 to P10.3
	eachWidth(func(width int) {
		s, w, l := some(width), made(t, width), list{width: width}
		all := bases()
		for step := range 2000 {
			base := l.base
			switch s.below(6) {
			case 0:
				base += uint64(s.below(4))
			case 1:
				base -= min(base, uint64(s.below(4)))
			case 2:
				base += uint64(s.below(40))
			case 3:
				base -= min(base, uint64(s.below(40)))
			case 4:
				base = all[s.below(len(all))]
			case 5:
				base = wrongBases[s.below(len(wrongBases))]
			}
			if base > top {
				movesNot(t, w, base, api.ErrArg)
			} else {
				moves(t, w, &l, base)
			}
			ends(t, w, l)
			if step%20 == 0 {
				holds(t, w, l)
			}
		}
	})
}

func TestTwoWindows(t *testing.T) { // R7: none stands in another one's way
	one, other := made(t, 4), made(t, 9)
	l, m := list{width: 4}, list{width: 9}
	for i := range uint64(200) {
		moves(t, one, &l, i*3)
		holds(t, other, m)
		moves(t, other, &m, top-i*5)
		holds(t, one, l)
	}
}

func TestWhateverRunsBeside(t *testing.T) { // R7
	shared := at(t, 7, 12)
	answers := make(chan []uint64)
	for i := range 8 {
		go func() {
			w := shared.Copy()
			var told []uint64
			for base := range uint64(300) {
				gone, _ := w.Move(base)
				told = append(told, gone...)
			}
			answers <- append(append(told, shared.All()...), uint64(i))
		}()
	}
	var want []uint64
	for n := uint64(12); n < 19; n++ { // gone when it was moved to 0
		want = append(want, n)
	}
	for n := range uint64(299) {
		want = append(want, n)
	}
	want = append(want, 12, 13, 14, 15, 16, 17, 18)
	for range 8 {
		told := <-answers
		if !slices.Equal(told[:len(told)-1], want) {
			t.Errorf("%d: %d", told[len(told)-1], told)
		}
	}
}
