package timer_test

import (
	"math"
	"slices"
	"testing"

	"braidwork/api"
	"braidwork/timer"
)

func TestExamples(t *testing.T) { // the chapter's examples
	x := begun(t)
	x.sets(t, 1, 3, api.OK)
	x.sets(t, 0, 5, api.OK)
	x.ticks(t, 2)
	x.ticks(t, 1, 1)
	x.ticks(t, 3, 0, 1)
	x.isNext(t, 9)

	y := begun(t)
	y.sets(t, 1, 3, api.OK)
	y.sets(t, 1, 4, api.ErrThere)
	y.sets(t, 2, 0, api.ErrArg)
	y.stops(t, 7, api.ErrNone)
}

func TestNew(t *testing.T) { // P17.1: at 0, without alarms
	for range 3 {
		x := timer.New()
		if x == nil || x.Now() != 0 || len(x.Names()) != 0 {
			t.Fatal(x)
		}
		if next, some := x.Next(); next != 0 || some {
			t.Fatal(next, some)
		}
		if told, e := x.Tick(most); len(told) != 0 || e != api.OK || x.Now() != most {
			t.Fatal(told, e, x.Now())
		}
		is(t, "Set", x.Set(0, 1), api.OK)
	}
}

func TestNone(t *testing.T) { // P17.1 to P17.3: ErrNil ahead of all else, and 0, none, false
	for _, x := range []*timer.Timers{nil, {}, new(timer.Timers)} {
		for range 2 { // nothing that was asked makes them any
			for _, name := range append(noNames, farNames...) {
				for _, every := range append([]uint64{0}, append(great, beyond...)...) {
					is(t, "Set", x.Set(name, every), api.ErrNil)
				}
				is(t, "Stop", x.Stop(name), api.ErrNil)
				is(t, "Again", x.Again(name), api.ErrNil)
			}
			for _, n := range append([]uint64{0}, append(great, beyond...)...) {
				if told, e := x.Tick(n); told != nil || e != api.ErrNil {
					t.Fatal("Tick", n, told, e)
				}
			}
			if x.Now() != 0 || len(x.Names()) != 0 {
				t.Fatal(x.Now(), x.Names())
			}
			if next, some := x.Next(); next != 0 || some {
				t.Fatal(next, some)
			}
		}
	}
}

// orders goes through all orders of those names.
func orders(names []int, do func(order []int)) {
	var lay func(order, left []int)
	lay = func(order, left []int) {
		if len(left) == 0 {
			do(order)
		}
		for i, name := range left {
			lay(append(slices.Clone(order), name), slices.Delete(slices.Clone(left), i, i+1))
		}
	}
	lay(nil, names)
}

func TestNames(t *testing.T) { // P17.1: rising, whatever the order in which alarms were set
	for _, names := range [][]int{{0, 1, 2, 3, 4}, {0, 9, 10, 1 << 32, math.MaxInt}} {
		orders(names, func(order []int) {
			x := begun(t)
			for i, name := range order {
				x.sets(t, name, uint64(1+i*i%7), api.OK)
			}
			if got := x.t.Names(); !slices.Equal(got, names) {
				t.Fatal(order, got)
			}
			x.stops(t, order[2], api.OK)
			if got := x.t.Names(); len(got) != 4 || !slices.IsSorted(got) || slices.Contains(got, order[2]) {
				t.Fatal(order, got)
			}
		})
	}
	x, some := begun(t), seeded(1)
	for _, name := range some.shuffled(farNames) {
		x.sets(t, name, 5, api.OK)
	}
	if got := x.t.Names(); !slices.Equal(got, farNames) {
		t.Fatal(got)
	}
}

func TestNext(t *testing.T) { // P17.1: the least time at which an alarm is due
	orders([]int{3, 4, 4, 9, 12}, func(everys []int) {
		x, least := begun(t), uint64(99)
		for name, every := range everys {
			least = min(least, uint64(every))
			x.sets(t, name, uint64(every), api.OK)
			x.isNext(t, least)
		}
		x.stops(t, slices.Index(everys, 3), api.OK)
		x.isNext(t, 4)
		x.stops(t, slices.Index(everys, 4), api.OK)
		x.isNext(t, 4)
		x.ticks(t, 2)
		for name, every := range everys { // all that are left go on from 2
			if every == 4 {
				x.again(t, name)
			}
		}
		x.isNext(t, 6)
		x.ticks(t, 4, slices.Index(x.everys(5), 4))
		x.isNext(t, 9)
	})
	x := begun(t)
	x.sets(t, 0, most, api.OK)
	x.isNext(t, most)
	x.ticks(t, most-1)
	x.isNext(t, most)
	x.sets(t, 1, 1, api.OK)
	x.isNext(t, most)
	x.stops(t, 0, api.OK)
	x.stops(t, 1, api.OK)
	if next, some := x.t.Next(); next != 0 || some {
		t.Fatal(next, some)
	}
}

// everys is each name's every, 0 of one that has no alarm.
func (x timers) everys(names int) []uint64 {
	everys := make([]uint64, names)
	for _, a := range x.p.alarms {
		everys[a.name] = a.every
	}
	return everys
}

// running are timers at 2, with alarm 1 of every 3, due at 3, alarm 4 of every 5, due at 5, and alarm 2 of every 3, due at 5.
func running(t *testing.T) timers {
	x := begun(t)
	x.sets(t, 1, 3, api.OK)
	x.sets(t, 4, 5, api.OK)
	x.ticks(t, 2)
	x.sets(t, 2, 3, api.OK)
	return x
}

// goesOn asks for what running's alarms tell when they go on as they were.
func (x timers) goesOn(t *testing.T) {
	t.Helper()
	x.isNext(t, 3)
	x.ticks(t, 0)
	x.ticks(t, 1, 1)
	x.ticks(t, 2, 2, 4)
	x.ticks(t, 1, 1)
	x.ticks(t, 4, 2, 1, 4)
	x.isNext(t, 13)
}

func TestSetOfWhatMayNotBe(t *testing.T) { // P17.2: ErrArg, ahead of ErrThere, which changes nothing
	x := running(t)
	for _, name := range noNames {
		for _, every := range append([]uint64{0}, append(great, beyond...)...) {
			x.sets(t, name, every, api.ErrArg)
		}
	}
	for _, every := range append([]uint64{0}, beyond...) {
		for _, name := range append([]int{1, 2, 3, 4}, farNames...) {
			x.sets(t, name, every, api.ErrArg)
		}
	}
	x.goesOn(t)
}

func TestSet(t *testing.T) { // P17.2: due every ticks from now on, not later than MaxTime
	clocks := append([]uint64{0}, great...)
	for _, now := range clocks {
		for _, every := range great {
			x := begun(t)
			x.ticks(t, now)
			x.sets(t, 7, every, api.OK)
			due := now + every
			if due > most {
				due = most
			}
			x.isNext(t, due)
			if now == most {
				x.ticks(t, 0, 7)
				continue
			}
			x.ticks(t, 0)
			x.ticks(t, due-now-1)
			x.ticks(t, 1, 7)
			if due < most {
				x.ticks(t, 0)
			}
		}
	}
	for _, name := range farNames {
		x := begun(t)
		x.sets(t, name, 2, api.OK)
		x.ticks(t, 2, name)
		x.ticks(t, 2, name)
	}
}

func TestSetOfWhatIsThere(t *testing.T) { // P17.2: ErrThere; the alarm that is there goes on as it was
	x := running(t)
	for _, name := range []int{1, 2, 4} {
		for _, every := range great {
			x.sets(t, name, every, api.ErrThere)
		}
	}
	x.goesOn(t)
	for _, name := range farNames {
		x := begun(t)
		x.sets(t, name, 4, api.OK)
		x.ticks(t, 1)
		x.sets(t, name, 1, api.ErrThere)
		x.sets(t, name, 9, api.ErrThere)
		x.ticks(t, 2)
		x.ticks(t, 1, name)
		x.ticks(t, 3)
		x.ticks(t, 1, name)
	}
}

func TestSetBehindAStop(t *testing.T) { // P17.2: there anew, of its new every, from now on
	for every := range uint64(12) {
		x := running(t)
		x.stops(t, 1, api.OK)
		if every == 0 {
			x.sets(t, 1, 0, api.ErrArg)
			x.stops(t, 1, api.ErrNone)
			continue
		}
		x.sets(t, 1, every, api.OK)
		x.sets(t, 1, every+1, api.ErrThere)
		x.isNext(t, min(2+every, 5))
		x.stops(t, 2, api.OK)
		x.stops(t, 4, api.OK)
		for range 3 {
			x.ticks(t, every-1)
			x.ticks(t, 1, 1)
		}
	}
}

func TestStop(t *testing.T) { // P17.2: gone; ErrNone of what is not there, ahead of it and behind it, which changes nothing
	x := running(t)
	for _, name := range append(noNames, 0, 3, 5, 6, 7, 64, 1<<32, 1<<32+1, math.MaxInt) {
		x.stops(t, name, api.ErrNone)
	}
	x.goesOn(t)
	x.stops(t, 1, api.OK)
	for range 2 {
		x.stops(t, 1, api.ErrNone)
		x.ticks(t, 1)
	}
	x.ticks(t, 1, 2)
	x.stops(t, 4, api.OK)
	x.stops(t, 2, api.OK)
	if len(x.t.Names()) != 0 {
		t.Fatal(x.t.Names())
	}
	x.ticks(t, 100)
	x.ticks(t, most-x.p.now)
	x.ticks(t, 0)
	for _, name := range []int{1, 2, 4} {
		x.stops(t, name, api.ErrNone)
	}
}

func TestAgain(t *testing.T) { // P17.2: due its every from now on
	for gone := range uint64(6) {
		x := begun(t)
		x.sets(t, 3, 6, api.OK)
		x.sets(t, 1, 6, api.OK)
		x.ticks(t, gone)
		x.goesAgain(t, 3, api.OK)
		x.goesAgain(t, 3, api.OK)
		x.isNext(t, 6) // the other one goes on as it was
		if gone == 0 {
			x.ticks(t, 6, 1, 3)
			continue
		}
		x.ticks(t, 6-gone, 1)
		x.ticks(t, gone-1)
		x.ticks(t, 1, 3)
		x.ticks(t, 6-gone, 1)
		x.ticks(t, gone, 3)
	}
	x := begun(t) // ever again, it is never told
	x.sets(t, 0, 3, api.OK)
	for range 20 {
		x.ticks(t, 2)
		x.goesAgain(t, 0, api.OK)
	}
	x.ticks(t, 2)
	x.ticks(t, 1, 0)
}

func TestAgainOfWhatIsNotThere(t *testing.T) { // P17.2: ErrNone, ahead of a Set and behind a Stop, which changes nothing
	x := running(t)
	for _, name := range append(noNames, 0, 3, 5, 6, 7, 64, 1<<32, 1<<32+1, math.MaxInt) {
		x.goesAgain(t, name, api.ErrNone)
	}
	x.goesOn(t)
	x.stops(t, 4, api.OK)
	x.goesAgain(t, 4, api.ErrNone)
	x.stops(t, 4, api.ErrNone)
	x.sets(t, 4, 1, api.OK)
	x.goesAgain(t, 4, api.OK)
	x.ticks(t, 1, 4)
}

func TestAgainAtTheEnd(t *testing.T) { // P17.2: not later than MaxTime
	for _, every := range []uint64{1, 9, 1 << 32, most - 1, most} {
		for back := range uint64(12) {
			x := begun(t)
			x.sets(t, 5, every, api.OK)
			x.tick(t, most-back)
			x.goesAgain(t, 5, api.OK)
			due := most
			if every < back {
				due = most - back + every
			}
			x.isNext(t, due)
			if due > x.p.now {
				x.ticks(t, due-x.p.now-1)
				x.ticks(t, 1, 5)
			} else {
				x.ticks(t, 0, 5)
			}
		}
	}
}

func TestTickOfWhatMayNotBe(t *testing.T) { // P17.3: ErrArg, and the clock stays
	x := running(t)
	for _, n := range append(beyond, most-1, most) {
		x.mayNotTick(t, n)
	}
	x.goesOn(t)
	for _, now := range append([]uint64{0}, great...) {
		x := begun(t)
		x.ticks(t, now)
		x.sets(t, 1, most, api.OK)
		for _, n := range append([]uint64{most - now + 1, most - now + 2, math.MaxUint64 - now, math.MaxUint64 - now + 1, math.MaxUint64 - now + 2, math.MaxUint64 - now + 3}, beyond...) {
			if n > most-now {
				x.mayNotTick(t, n)
			}
		}
		x.ticks(t, most-now, 1)
		x.mayNotTick(t, 1)
		x.mayNotTick(t, most)
		x.ticks(t, 0, 1)
	}
}

func TestTick(t *testing.T) { // P17.3: the clock goes n on, by nothing, by all there is, and by parts of it
	for _, n := range append([]uint64{0}, great...) {
		x := begun(t)
		x.ticks(t, n)
		if x.t.Now() != n {
			t.Fatal(n, x.t.Now())
		}
		x.ticks(t, most-n)
		if x.t.Now() != most {
			t.Fatal(n, x.t.Now())
		}
	}
	x := begun(t) // behind a Tick of nothing what was told is not due again
	x.sets(t, 2, 1, api.OK)
	for range 5 {
		x.ticks(t, 0)
		x.ticks(t, 1, 2)
		x.ticks(t, 0)
	}
}

func TestOrderOfWhatIsDue(t *testing.T) { // P17.3: by rising times, of one time by rising names, whatever the order of Set
	everys := []uint64{6, 2, 6, 3, 2}
	orders([]int{0, 1, 2, 3, 4}, func(order []int) {
		x := begun(t)
		for _, name := range order {
			x.sets(t, name, everys[name], api.OK)
		}
		x.ticks(t, 1)
		x.ticks(t, 5, 1, 4, 3, 0, 2)
		x.ticks(t, 2, 1, 4)
		x.ticks(t, 4, 3, 1, 4, 0, 2)
	})
	x := begun(t) // times by themselves, not by how great they are: set later, due ahead
	for i := range 20 {
		x.sets(t, i, uint64(100-3*i), api.OK)
		x.ticks(t, 1)
	}
	x.ticks(t, 81, 19, 18, 17, 16, 15, 14, 13, 12, 11, 10, 9, 8, 7, 6, 5, 4, 3, 2, 1, 0)
	y := begun(t) // far times and far names
	y.sets(t, math.MaxInt, 1<<32+1, api.OK)
	y.sets(t, 1<<32, 1<<32, api.OK)
	y.sets(t, 3, 1<<32+1, api.OK)
	y.sets(t, 5, 2, api.OK)
	y.sets(t, 1<<32+4, 1<<32, api.OK)
	y.ticks(t, 1<<33, 5, 1<<32, 1<<32+4, 3, math.MaxInt)
}

func TestOnceATick(t *testing.T) { // P17.3: however often its every has gone by, and due its every from the clock on then
	for every := uint64(1); every < 20; every++ {
		for n := every; n < 70; n++ {
			x := begun(t)
			x.sets(t, 8, every, api.OK)
			x.ticks(t, n, 8)
			x.isNext(t, n+every)
			x.ticks(t, 0)
			x.ticks(t, every-1)
			x.ticks(t, 1, 8)
			x.isNext(t, n+2*every)
		}
	}
	x := begun(t)
	x.sets(t, 0, 1, api.OK)
	x.sets(t, 1, 1<<30, api.OK)
	x.ticks(t, most-2, 0, 1)
	x.isNext(t, most-1)
	x.ticks(t, 1, 0)
	x.ticks(t, 1, 0, 1)
}

func TestAtTheEnd(t *testing.T) { // P17.3: what is due at MaxTime, with the clock there, is told at each Tick
	x := begun(t)
	x.sets(t, 0, most, api.OK)
	x.sets(t, 1, most-5, api.OK)
	x.sets(t, 2, most-1, api.OK)
	x.ticks(t, most, 1, 2, 0)
	for range 4 { // now all of one time
		x.isNext(t, most)
		x.ticks(t, 0, 0, 1, 2)
		x.mayNotTick(t, 1)
	}
	x.stops(t, 1, api.OK)
	x.ticks(t, 0, 0, 2)
	x.goesAgain(t, 2, api.OK)
	x.ticks(t, 0, 0, 2)
	x.sets(t, 1, 1, api.OK)
	x.sets(t, 7, most, api.OK)
	x.sets(t, 5, 3, api.OK)
	for range 3 {
		x.ticks(t, 0, 0, 1, 2, 5, 7)
	}
	for _, name := range []int{0, 1, 2, 5, 7} {
		x.stops(t, name, api.OK)
	}
	x.ticks(t, 0)

	y := begun(t) // due at MaxTime, told where the clock gets there, and not ahead of it
	y.sets(t, 3, most, api.OK)
	y.ticks(t, most-2)
	y.goesAgain(t, 3, api.OK)
	y.ticks(t, 0)
	y.ticks(t, 1)
	y.ticks(t, 0)
	y.ticks(t, 1, 3)
	y.ticks(t, 0, 3)
}

// spoil writes to all of a list that was told, and behind it as far as there is room.
func spoil(names []int) {
	names = names[:cap(names)]
	for i := range names {
		names[i] = -7
	}
}

func TestWrittenTo(t *testing.T) { // R3: what was told may be written to, and nothing that is told later writes to it
	x := running(t)
	x.ticks(t, 9, 1, 2, 4)
	for range 20 {
		first := x.t.Names()
		second := x.t.Names()
		spoil(first)
		if !slices.Equal(second, []int{1, 2, 4}) {
			t.Fatal(second)
		}
		spoil(second)
		x.looks(t)

		early, _ := x.tick(t, 3)
		later, _ := x.tick(t, 2)
		if !slices.Equal(early, []int{1, 2}) || !slices.Equal(later, []int{4}) {
			t.Fatal(early, later)
		}
		spoil(later)
		if !slices.Equal(early, []int{1, 2}) {
			t.Fatal(early)
		}
		spoil(early)
		x.looks(t)
		x.ticks(t, 9, 1, 2, 4)
	}
	x.ticks(t, most-x.p.now, 1, 2, 4)
}

func TestApart(t *testing.T) { // timers do not reach one another
	var all []timers
	for i := range 8 {
		all = append(all, begun(t))
		all[i].sets(t, i, uint64(1+i), api.OK)
	}
	some := seeded(3)
	for range 3000 {
		all[some.below(8)].call(t, some)
		for _, x := range all {
			x.looks(t)
		}
	}
	for _, x := range all {
		x.runsOut(t)
	}
}

// call is one call of any kind.
func (x timers) call(t *testing.T, some *some) {
	t.Helper()
	switch some.below(10) {
	case 0, 1, 2:
		x.set(t, some.name(), some.every())
	case 3:
		x.stop(t, some.name())
	case 4, 5:
		x.again(t, some.name())
	case 6:
		x.tick(t, some.every())
	default:
		x.tick(t, uint64(some.below(4)))
	}
}

// runsOut goes on by small steps, and then to the end, so that it shows how each alarm goes on.
func (x timers) runsOut(t *testing.T) {
	t.Helper()
	for range 8 {
		x.tick(t, 1)
	}
	x.tick(t, most-x.p.now)
	x.tick(t, 0)
}

// calls are those of which all short rows are tried.
func (x timers) calls(t *testing.T) []func() {
	return []func(){
		func() { x.set(t, 1, 2) },
		func() { x.set(t, 1, 3) },
		func() { x.set(t, 0, 3) },
		func() { x.set(t, 2, most) },
		func() { x.stop(t, 1) },
		func() { x.stop(t, 0) },
		func() { x.again(t, 1) },
		func() { x.again(t, 2) },
		func() { x.tick(t, 0) },
		func() { x.tick(t, 1) },
		func() { x.tick(t, 2) },
		func() { x.tick(t, most-3) },
	}
}

func TestAllShortRowsOfCalls(t *testing.T) { // P17.1 to P17.3
	const long = 5
	kinds := len(begun(t).calls(t))
	total := 1
	for range long {
		total *= kinds
	}
	for row := range total {
		x := begun(t)
		calls := x.calls(t)
		for range long {
			calls[row%kinds]()
			row /= kinds
		}
		x.runsOut(t)
	}
}

func TestLongRowsOfCalls(t *testing.T) { // P17.1 to P17.3, with numbers of all sizes
	for seed := range 300 {
		some := seeded(seed)
		x := begun(t)
		if some.below(3) == 0 {
			x.ticks(t, most-uint64(some.below(200)))
		}
		for range 200 {
			x.call(t, some)
		}
		x.runsOut(t)
	}
}

func TestManyAlarms(t *testing.T) { // P17.1, P17.3: more alarms than any program's own bounds
	const n = 20000
	x, some := timer.New(), seeded(5)
	names := make([]int, n)
	for i := range names {
		names[i] = 3 * i
	}
	every := func(name int) uint64 { return uint64(1 + name*7919%50) }
	for _, name := range some.shuffled(names) {
		is(t, "Set", x.Set(name, every(name)), api.OK)
	}
	if !slices.Equal(x.Names(), names) {
		t.Fatal("Names")
	}
	for _, step := range []uint64{25, 25, 50} {
		told, e := x.Tick(step)
		if e != api.OK || step == 50 && len(told) != n {
			t.Fatal(step, len(told), e)
		}
		if step == 25 && x.Now() == 25 {
			inOrder := func(a, b int) int {
				if every(a) != every(b) {
					return int(every(a)) - int(every(b))
				}
				return a - b
			}
			if !slices.IsSortedFunc(told, inOrder) || len(told) != n/2 {
				t.Fatal("not in order", len(told))
			}
		}
	}
	for _, name := range some.shuffled(names) {
		is(t, "Stop", x.Stop(name), api.OK)
	}
	if _, some := x.Next(); some || len(x.Names()) != 0 {
		t.Fatal("some are left")
	}
}
