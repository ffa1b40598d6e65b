package timer_test

import (
	"math"
	"slices"
	"testing"

	"braidwork/api"
	"braidwork/timer"
)

// most is the greatest of times.
const most = uint64(1) << 40

// beyond are numbers above the greatest one, those among them that are small again once something is added.
var beyond = []uint64{most + 1, most + 2, 1 << 41, 1<<50 + 1, 1 << 63, math.MaxUint64 - most, math.MaxUint64 - 1, math.MaxUint64}

// great are times of all sizes.
var great = []uint64{
	1, 2, 3, 5, 63, 64, 255, 256, 1 << 16, 1<<31 - 1, 1 << 31, 1<<32 - 1, 1 << 32, 1<<32 + 1,
	1<<39 - 1, 1 << 39, 1<<39 + 1, most - 64, most - 2, most - 1, most,
}

// farNames are names of all sizes.
var farNames = []int{0, 1, 2, 7, 63, 64, 255, 256, math.MaxInt32, math.MaxInt32 + 1, math.MaxUint32, 1 << 40, math.MaxInt - 1, math.MaxInt}

// noNames are numbers that are no names.
var noNames = []int{-1, -2, -3, -64, -256, math.MinInt32, -1 << 40, math.MinInt + 1, math.MinInt}

// plainAlarm is an alarm by the chapter's words.
type plainAlarm struct {
	name       int
	every, due uint64
}

// plainTimers are timers by the chapter's words, to be held against the program: alarms in the order in which they were set.
type plainTimers struct {
	now    uint64
	alarms []plainAlarm
}

// at is where the alarm of that name stands, or -1.
func (p *plainTimers) at(name int) int {
	for i, a := range p.alarms {
		if a.name == name {
			return i
		}
	}
	return -1
}

// fromNow is the time that lies every ticks from now on, or the last one.
func (p *plainTimers) fromNow(every uint64) uint64 {
	if left := most - p.now; every > left {
		every = left
	}
	return p.now + every
}

func (p *plainTimers) set(name int, every uint64) api.Errno {
	switch {
	case name < 0, every == 0, every > most:
		return api.ErrArg
	case p.at(name) >= 0:
		return api.ErrThere
	}
	p.alarms = append(p.alarms, plainAlarm{name, every, p.fromNow(every)})
	return api.OK
}

func (p *plainTimers) stop(name int) api.Errno {
	i := p.at(name)
	if i < 0 {
		return api.ErrNone
	}
	p.alarms = slices.Delete(slices.Clone(p.alarms), i, i+1)
	return api.OK
}

func (p *plainTimers) again(name int) api.Errno {
	i := p.at(name)
	if i < 0 {
		return api.ErrNone
	}
	p.alarms[i].due = p.fromNow(p.alarms[i].every)
	return api.OK
}

// first is where, of the alarms that are due and not told yet, the first one stands, or -1.
func (p *plainTimers) first(told []int) int {
	first := -1
	for i, a := range p.alarms {
		if a.due > p.now || slices.Contains(told, a.name) {
			continue
		}
		if first < 0 || a.due < p.alarms[first].due || a.due == p.alarms[first].due && a.name < p.alarms[first].name {
			first = i
		}
	}
	return first
}

func (p *plainTimers) tick(n uint64) ([]int, api.Errno) {
	if n > most || p.now+n > most {
		return nil, api.ErrArg
	}
	p.now += n
	var told []int
	for i := p.first(nil); i >= 0; i = p.first(told) {
		told = append(told, p.alarms[i].name)
	}
	for _, name := range told {
		p.again(name)
	}
	return told, api.OK
}

// names are all names, rising, by counting how many lie below each.
func (p *plainTimers) names() []int {
	names := make([]int, len(p.alarms))
	for _, a := range p.alarms {
		below := 0
		for _, b := range p.alarms {
			if b.name < a.name {
				below++
			}
		}
		names[below] = a.name
	}
	return names
}

func (p *plainTimers) next() (uint64, bool) {
	for _, a := range p.alarms {
		if !slices.ContainsFunc(p.alarms, func(b plainAlarm) bool { return b.due < a.due }) {
			return a.due, true
		}
	}
	return 0, false
}

// is holds an error against the one that it has to be.
func is(t *testing.T, what string, e, want api.Errno) {
	t.Helper()
	if e != want {
		t.Fatalf("%s: error %d, not %d", what, e, want)
	}
}

// timers are the program's, and the plain ones of which the same was asked.
type timers struct {
	t *timer.Timers
	p *plainTimers
}

// begun are new timers.
func begun(t *testing.T) timers {
	t.Helper()
	x := timers{timer.New(), &plainTimers{}}
	x.looks(t)
	return x
}

// looks asks whether the timers are as the plain ones are; how an alarm goes on only the next Ticks tell.
func (x timers) looks(t *testing.T) {
	t.Helper()
	if now := x.t.Now(); now != x.p.now {
		t.Fatalf("Now: %d, not as of %+v", now, *x.p)
	}
	if names := x.t.Names(); !slices.Equal(names, x.p.names()) {
		t.Fatalf("Names: %v, not as of %+v", names, *x.p)
	}
	next, some := x.t.Next()
	if want, wantSome := x.p.next(); next != want || some != wantSome {
		t.Fatalf("Next: %d, %v, not as of %+v", next, some, *x.p)
	}
}

// set asks both, which have to answer the same and to be the same behind it.
func (x timers) set(t *testing.T, name int, every uint64) api.Errno {
	t.Helper()
	e, want := x.t.Set(name, every), x.p.set(name, every)
	if e != want {
		t.Fatalf("Set(%d, %d) of %+v: error %d, not %d", name, every, *x.p, e, want)
	}
	x.looks(t)
	return e
}

// stop asks both.
func (x timers) stop(t *testing.T, name int) api.Errno {
	t.Helper()
	e, want := x.t.Stop(name), x.p.stop(name)
	if e != want {
		t.Fatalf("Stop(%d), behind it %+v: error %d, not %d", name, *x.p, e, want)
	}
	x.looks(t)
	return e
}

// again asks both.
func (x timers) again(t *testing.T, name int) api.Errno {
	t.Helper()
	e, want := x.t.Again(name), x.p.again(name)
	if e != want {
		t.Fatalf("Again(%d) of %+v: error %d, not %d", name, *x.p, e, want)
	}
	x.looks(t)
	return e
}

// tick asks both.
func (x timers) tick(t *testing.T, n uint64) ([]int, api.Errno) {
	t.Helper()
	got, e := x.t.Tick(n)
	want, wantErr := x.p.tick(n)
	if !slices.Equal(got, want) || e != wantErr {
		t.Fatalf("Tick(%d), behind it %+v: %v, error %d, not %v, error %d", n, *x.p, got, e, want, wantErr)
	}
	x.looks(t)
	return got, e
}

// sets asks for that error.
func (x timers) sets(t *testing.T, name int, every uint64, want api.Errno) {
	t.Helper()
	if e := x.set(t, name, every); e != want {
		t.Fatalf("Set(%d, %d): error %d, not %d", name, every, e, want)
	}
}

// stops asks for that error.
func (x timers) stops(t *testing.T, name int, want api.Errno) {
	t.Helper()
	if e := x.stop(t, name); e != want {
		t.Fatalf("Stop(%d): error %d, not %d", name, e, want)
	}
}

// goesAgain asks for that error.
func (x timers) goesAgain(t *testing.T, name int, want api.Errno) {
	t.Helper()
	if e := x.again(t, name); e != want {
		t.Fatalf("Again(%d): error %d, not %d", name, e, want)
	}
}

// ticks asks for these names.
func (x timers) ticks(t *testing.T, n uint64, want ...int) {
	t.Helper()
	if got, e := x.tick(t, n); e != api.OK || !slices.Equal(got, want) {
		t.Fatalf("Tick(%d): %v, error %d, not %v", n, got, e, want)
	}
}

// mayNotTick asks for ErrArg.
func (x timers) mayNotTick(t *testing.T, n uint64) {
	t.Helper()
	if got, e := x.tick(t, n); e != api.ErrArg || got != nil {
		t.Fatalf("Tick(%d) at %d: %v, error %d", n, x.p.now, got, e)
	}
}

// isNext asks for that time.
func (x timers) isNext(t *testing.T, want uint64) {
	t.Helper()
	if got, some := x.t.Next(); got != want || !some {
		t.Fatalf("Next: %d, %v, not %d", got, some, want)
	}
}

// some makes numbers, always the same ones of one seed.
type some uint64

func seeded(seed int) *some {
	x := some(seed)*104729 + 11
	return &x
}

func (x *some) below(n int) int {
	*x = *x*6364136223846793005 + 1442695040888963407
	return int(uint64(*x)>>33) % n
}

// name is one of a few, now and then one of any size, or none.
func (x *some) name() int {
	switch x.below(12) {
	case 0:
		return noNames[x.below(len(noNames))]
	case 1:
		return farNames[x.below(len(farNames))]
	}
	return x.below(9)
}

// every is a few ticks, now and then any number of them, or one that may not be.
func (x *some) every() uint64 {
	switch x.below(12) {
	case 0:
		return beyond[x.below(len(beyond))]
	case 1:
		return great[x.below(len(great))]
	}
	return uint64(x.below(9))
}

// shuffled are those names in any order.
func (x *some) shuffled(names []int) []int {
	names = slices.Clone(names)
	for i := range names {
		j := i + x.below(len(names)-i)
		names[i], names[j] = names[j], names[i]
	}
	return names
}
