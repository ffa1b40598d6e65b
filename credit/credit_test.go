package credit_test

import (
	"math"
	"testing"

	"braidwork/api"
	"braidwork/credit"
)

func TestExamples(t *testing.T) { // the chapter's examples
	x := aSender(t, 5)
	x.takes(t, 1, 5, 2, api.OK)
	x.uses(t, 1, 2)
	x.takes(t, 1, 4, 9, api.ErrEpoch)
	x.takes(t, 2, 5, 1, api.OK)
	if x.s.May() {
		t.Fatal("May")
	}
	x.takes(t, 2, 5, 3, api.OK)
	x.uses(t, 3)
	x.takes(t, 1, 5, 9, api.ErrEpoch)

	y := aReceiver(t, 4)
	y.sees(t, 3, 7, api.OK)
	y.grants(t, 2, 9)
	y.grants(t, 0, 9)
	y.sees(t, 3, 6, api.OK)
	y.sees(t, 2, 9, api.ErrEpoch)
	y.sees(t, 4, 1, api.OK)
	y.grants(t, 1, 2)
}

func TestNewSender(t *testing.T) { // P16.1
	for _, life := range great[1:] {
		x := aSender(t, life)
		if x.s.May() || x.s.Sent() != 0 || x.s.Granted() != 0 {
			t.Fatal(life, x.s.May(), x.s.Sent(), x.s.Granted())
		}
		x.uses(t)
		x.takes(t, 1, life, 1, api.OK)
		x.uses(t, 1)
	}
	for _, life := range append([]uint64{0}, beyond...) {
		if s, e := credit.NewSender(life); s != nil || e != api.ErrArg {
			t.Fatalf("NewSender(%d): %v, error %d", life, s, e)
		}
	}
}

func TestNewReceiver(t *testing.T) { // P16.4
	for places := -70; places <= 140; places++ {
		r, e := credit.NewReceiver(places)
		if places >= 1 && places <= 64 {
			if r == nil || e != api.OK || r.Life() != 0 || r.Seen() != 0 {
				t.Fatal(places, r, e)
			}
			aReceiver(t, places).grants(t, places, uint64(places))
		} else if r != nil || e != api.ErrArg {
			t.Fatal(places, r, e)
		}
	}
	for _, places := range []int{math.MinInt, math.MaxInt, math.MaxUint32, 1 << 32, 1<<32 + 4, 1 << 50} {
		if r, e := credit.NewReceiver(places); r != nil || e != api.ErrArg {
			t.Fatal(places, r, e)
		}
	}
}

func TestNone(t *testing.T) { // P16.1 to P16.6: ErrNil ahead of all else, and 0, false
	for _, s := range []*credit.Sender{nil, {}, new(credit.Sender)} {
		for _, life := range []uint64{0, 1, 2, most, most + 1, math.MaxUint64} {
			for _, to := range []uint64{0, 1, most + 1} {
				for _, granted := range []uint64{0, 1, most, most + 1} {
					is(t, "Take", s.Take(life, to, granted), api.ErrNil)
				}
			}
		}
		if n, e := s.Use(); n != 0 || e != api.ErrNil {
			t.Fatal("Use", n, e)
		}
		if s.May() || s.Sent() != 0 || s.Granted() != 0 {
			t.Fatal(s.May(), s.Sent(), s.Granted())
		}
	}
	for _, r := range []*credit.Receiver{nil, {}, new(credit.Receiver)} {
		for _, life := range []uint64{0, 1, 2, most, most + 1, math.MaxUint64} {
			for _, seq := range []uint64{0, 1, most, most + 1} {
				is(t, "Saw", r.Saw(life, seq), api.ErrNil)
			}
		}
		for _, free := range []int{math.MinInt, -1, 0, 1, 64, 65, math.MaxInt} {
			if n, e := r.Grant(free); n != 0 || e != api.ErrNil {
				t.Fatal("Grant", n, e)
			}
		}
		if r.Life() != 0 || r.Seen() != 0 {
			t.Fatal(r.Life(), r.Seen())
		}
	}
}

// used is an account of life 5 that knows the receiver's life 3, with 6 granted and 4 used.
func used(t *testing.T) sender {
	x := aSender(t, 5)
	x.takes(t, 3, 5, 4, api.OK)
	x.uses(t, 1, 2, 3, 4)
	x.takes(t, 3, 5, 6, api.OK)
	return x
}

func TestTakeOfWhatMayNotBe(t *testing.T) { // P16.2: ErrArg, ahead of ErrEpoch, which changes nothing
	x := used(t)
	for _, bad := range append([]uint64{0}, beyond...) {
		for _, to := range []uint64{0, 4, 5, 6, most} {
			for _, granted := range []uint64{0, 4, 6, 7, most} {
				x.takes(t, bad, to, granted, api.ErrArg)
			}
		}
	}
	for _, bad := range beyond {
		for _, life := range []uint64{0, 1, 2, 3, 4, most, most + 1} {
			for _, other := range []uint64{0, 4, 5, 6, 9, most, most + 1} {
				x.takes(t, life, bad, other, api.ErrArg)
				x.takes(t, life, other, bad, api.ErrArg)
			}
		}
	}
	x.uses(t, 5, 6)
	x.takes(t, 1, 5, 9, api.ErrEpoch)
	x.takes(t, 3, 5, 7, api.OK)
	x.uses(t, 7)
}

func TestTakeOfAnotherLife(t *testing.T) { // P16.2: of another life's account, or of a life below the one that is known
	x := used(t)
	for _, granted := range []uint64{0, 1, 4, 5, 6, 7, most} {
		for _, to := range []uint64{0, 1, 4, 6, 1<<32 + 5, most} {
			for _, life := range []uint64{1, 2, 3, 4, most} {
				x.takes(t, life, to, granted, api.ErrEpoch)
			}
		}
		for _, life := range []uint64{1, 2} {
			x.takes(t, life, 5, granted, api.ErrEpoch)
		}
	}
	x.uses(t, 5, 6)
	x.takes(t, 3, 5, 7, api.OK) // the life 4 of what was for another account is not known
	x.uses(t, 7)
}

func TestTakeOfTheKnownLife(t *testing.T) { // P16.2: what is granted, if that is more
	for granted := range uint64(10) {
		x := used(t)
		x.takes(t, 3, 5, granted, api.OK)
		if got := x.s.Granted(); got != max(granted, 6) || x.s.Sent() != 4 || !x.s.May() {
			t.Fatal(granted, got, x.s.Sent())
		}
		x.takes(t, 2, 5, 9, api.ErrEpoch)
		x.takes(t, 3, 5, most, api.OK)
	}
}

func TestTakeOfALaterLife(t *testing.T) { // P16.2: what is granted, were it less than ahead, or than used
	for _, life := range []uint64{4, 5, 1 << 32, 1<<32 + 3, most - 1, most} {
		for granted := range uint64(10) {
			x := used(t)
			x.takes(t, life, 5, granted, api.OK)
			if x.s.Granted() != granted || x.s.Sent() != 4 || x.s.May() != (granted > 4) {
				t.Fatal(life, granted, x.s.Granted(), x.s.Sent(), x.s.May())
			}
			for _, elder := range []uint64{1, 2, 3, life - 1} {
				x.takes(t, elder, 5, 9, api.ErrEpoch)
			}
			x.takes(t, life, 5, 0, api.OK)
			x.takes(t, life, 5, 6, api.OK)
			if x.s.Granted() != max(granted, 6) {
				t.Fatal(life, granted, x.s.Granted())
			}
		}
	}
	x := aSender(t, 5) // the first life that is known, whichever it is
	x.takes(t, 9, 5, 0, api.OK)
	x.takes(t, 8, 5, 4, api.ErrEpoch)
	x.uses(t)
	x.takes(t, 9, 5, 1, api.OK)
	x.uses(t, 1)
}

func TestTakeOfGreatNumbers(t *testing.T) { // P16.2: each count is told as it is
	for _, own := range great[1:] {
		for _, life := range great[1:] {
			x := aSender(t, own)
			for _, granted := range great {
				x.takes(t, life, own, granted, api.OK)
				if x.s.Granted() != granted {
					t.Fatal(own, life, granted, x.s.Granted())
				}
			}
			if life > 1 {
				x.takes(t, life-1, own, most, api.ErrEpoch)
			}
		}
	}
	x := aSender(t, 1)
	for n := range uint64(3000) { // each later life with less, just below the greatest number
		x.takes(t, n+1, 1, most-n, api.OK)
		if x.s.Granted() != most-n {
			t.Fatal(n, x.s.Granted())
		}
	}
}

func TestUse(t *testing.T) { // P16.3: 1, 2, .. as often as was granted, and then ErrCredit
	for n := range uint64(70) {
		x := aSender(t, 2)
		x.takes(t, 1, 2, n, api.OK)
		for i := range n {
			if got, e := x.use(t); got != i+1 || e != api.OK {
				t.Fatal(n, i, got, e)
			}
		}
		x.uses(t)
		x.takes(t, 1, 2, n, api.OK)
		x.uses(t)
		x.takes(t, 1, 2, n+2, api.OK)
		x.uses(t, n+1, n+2)
	}
}

func TestUseBehindALaterLife(t *testing.T) { // P16.3: ErrCredit until more is granted than was used
	x := used(t)
	for granted := range uint64(5) {
		x.takes(t, 4+granted, 5, granted, api.OK)
		x.uses(t)
	}
	x.takes(t, 8, 5, 4, api.OK)
	x.uses(t)
	x.takes(t, 8, 5, 5, api.OK)
	x.uses(t, 5)
	x.takes(t, 20, 5, 0, api.OK)
	x.takes(t, 20, 5, 5, api.OK)
	x.uses(t)
	x.takes(t, 20, 5, 7, api.OK)
	x.uses(t, 6, 7)
}

func TestUseOfMany(t *testing.T) { // P16.3: beyond what small floats hold
	x := aSender(t, 1)
	x.takes(t, 1, 1, most, api.OK)
	const n = 1<<24 + 3
	for i := range uint64(n) {
		if got, e := x.s.Use(); got != i+1 || e != api.OK {
			t.Fatal(i, got, e)
		}
	}
	x.p.used = n
	x.looks(t)
	x.takes(t, 2, 1, n+1, api.OK)
	x.uses(t, n+1)
}

func TestSawOfWhatMayNotBe(t *testing.T) { // P16.5: ErrArg, ahead of ErrEpoch, which changes nothing
	x := aReceiver(t, 4)
	x.sees(t, 3, 7, api.OK)
	x.grants(t, 3, 10)
	for _, bad := range append([]uint64{0}, beyond...) {
		for _, seq := range []uint64{0, 6, 7, 8, most, most + 1, math.MaxUint64} {
			x.sees(t, bad, seq, api.ErrArg)
			x.grants(t, 0, 10)
		}
	}
	for _, bad := range beyond {
		for _, life := range []uint64{0, 1, 2, 3, 4, most, most + 1} {
			x.sees(t, life, bad, api.ErrArg)
			x.grants(t, 0, 10)
		}
	}
}

func TestSawOfAnElderLife(t *testing.T) { // P16.5: ErrEpoch, which changes nothing
	for _, life := range []uint64{2, 3, 1<<32 + 1, most} {
		x := aReceiver(t, 4)
		x.sees(t, life, 7, api.OK)
		x.grants(t, 3, 10)
		for _, elder := range []uint64{1, life / 2, life - 1} {
			for _, seq := range []uint64{0, 6, 7, 8, 11, most} {
				x.sees(t, elder, seq, api.ErrEpoch)
				x.grants(t, 0, 10)
				if x.r.Life() != life || x.r.Seen() != 7 {
					t.Fatal(life, x.r.Life(), x.r.Seen())
				}
			}
		}
	}
}

func TestSawOfTheKnownLife(t *testing.T) { // P16.5: what it saw, if that is more
	for seq := range uint64(16) {
		x := aReceiver(t, 4)
		x.sees(t, 3, 7, api.OK)
		x.grants(t, 3, 10)
		x.sees(t, 3, seq, api.OK)
		if x.r.Life() != 3 || x.r.Seen() != max(seq, 7) {
			t.Fatal(seq, x.r.Life(), x.r.Seen())
		}
		x.grants(t, 0, max(10, seq))
		x.grants(t, 4, max(11, seq+4))
	}
}

func TestSawOfALaterLife(t *testing.T) { // P16.5: seq is what it saw, were it less than ahead, and nothing was granted
	for _, life := range []uint64{4, 5, 1<<32 + 3, most} {
		for seq := range uint64(16) {
			x := aReceiver(t, 4)
			x.sees(t, 3, 7, api.OK)
			x.grants(t, 3, 10)
			x.sees(t, life, seq, api.OK)
			if x.r.Life() != life || x.r.Seen() != seq {
				t.Fatal(life, seq, x.r.Life(), x.r.Seen())
			}
			x.grants(t, 0, seq)
			x.grants(t, 2, seq+2)
			x.sees(t, life-1, 12, api.ErrEpoch)
			x.sees(t, life, 0, api.OK)
			x.grants(t, 1, seq+2)
		}
	}
	x := aReceiver(t, 4) // the first life that is known: what was granted to none is not granted to it
	x.grants(t, 4, 4)
	x.sees(t, 1, 0, api.OK)
	x.grants(t, 0, 0)
	x.grants(t, 1, 1)
}

func TestGrant(t *testing.T) { // P16.6: what it saw and free, if that is more than was granted
	for places := 1; places <= 64; places++ {
		for _, seen := range []uint64{0, 1, 9, 1<<24 + 1, 1<<49 - 1} {
			x := aReceiver(t, places)
			x.sees(t, 2, seen, api.OK)
			for free := 0; free <= places; free++ {
				x.grants(t, free, seen+uint64(free))
			}
			for free := places; free >= 0; free-- { // what was granted stays
				x.grants(t, free, seen+uint64(places))
			}
			x.sees(t, 2, seen+1, api.OK)
			x.grants(t, places-1, seen+uint64(places))
			x.grants(t, places, seen+uint64(places)+1)
			for _, bad := range []int{-1, -2, places + 1, places + 2, 128, 1 << 32, math.MinInt, math.MaxInt} {
				if n, e := x.grant(t, bad); n != 0 || e != api.ErrArg {
					t.Fatal(places, bad, n, e)
				}
			}
			x.grants(t, 0, seen+uint64(places)+1)
		}
	}
}

func TestGrantAtTheEnd(t *testing.T) { // P16.6: at most MaxCount
	for _, places := range []int{1, 2, 4, 63, 64} {
		for back := range uint64(70) {
			x := aReceiver(t, places)
			x.sees(t, most, most-back, api.OK)
			for free := 0; free <= places; free++ {
				x.grants(t, free, min(most-back+uint64(free), most))
			}
			x.grants(t, 0, min(most-back+uint64(places), most))
		}
	}
}

// calls are those of which all short rows are tried.
func (x sender) calls(t *testing.T) []func() {
	return []func(){
		func() { x.use(t) },
		func() { x.take(t, 1, 5, 1) },
		func() { x.take(t, 1, 5, 2) },
		func() { x.take(t, 2, 5, 0) },
		func() { x.take(t, 2, 5, 3) },
		func() { x.take(t, 3, 5, 1) },
		func() { x.take(t, 3, 4, 9) },
		func() { x.take(t, 0, 5, 9) },
	}
}

func (x receiver) calls(t *testing.T) []func() {
	return []func(){
		func() { x.saw(t, 1, 0) },
		func() { x.saw(t, 1, 2) },
		func() { x.saw(t, 2, 1) },
		func() { x.saw(t, 3, 3) },
		func() { x.saw(t, 4, most+1) },
		func() { x.grant(t, 0) },
		func() { x.grant(t, 1) },
		func() { x.grant(t, 2) },
		func() { x.grant(t, 3) },
	}
}

// rows goes through all rows of n calls, each on what begin makes.
func rows(n int, begin func() []func()) {
	kinds := len(begin())
	total := 1
	for range n {
		total *= kinds
	}
	for row := range total {
		calls := begin()
		for range n {
			calls[row%kinds]()
			row /= kinds
		}
	}
}

func TestAllShortRowsOfCalls(t *testing.T) { // P16.1 to P16.6
	rows(6, func() []func() { return aSender(t, 5).calls(t) })
	rows(6, func() []func() { return aReceiver(t, 2).calls(t) })
}

func TestLongRowsOfCalls(t *testing.T) { // P16.1 to P16.6, with numbers of all sizes
	for seed := range 300 {
		some := seeded(seed)
		own := uint64(1 + some.below(4))
		x, y := aSender(t, own), aReceiver(t, 1+some.below(64))
		for range 300 {
			switch some.below(8) {
			case 0, 1:
				to := own
				if some.below(6) == 0 {
					to = some.count()
				}
				x.take(t, some.life(), to, some.count())
			case 2, 3, 4:
				x.use(t)
			case 5:
				y.saw(t, some.life(), some.count())
			default:
				y.grant(t, some.below(70)-3)
			}
		}
	}
}
