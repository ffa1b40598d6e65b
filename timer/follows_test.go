package timer_test

import (
	"slices"
	"sync"
	"testing"

	"braidwork/api"
	"braidwork/timer"
)

// step is one call of a row: a Tick of n, or a Set, Stop or Again of a name.
type step struct {
	kind  int
	name  int
	every uint64
	n     uint64
}

// The kinds of steps.
const (
	ticks = iota
	sets
	stops
	again
)

// row is a row of steps with a few names, which may not all go well: some of them are Ticks, now and then close to the end.
func row(some *some, long int) []step {
	var steps []step
	for range long {
		s := step{kind: sets + some.below(3), name: some.below(6), every: uint64(1 + some.below(12))}
		if some.below(9) == 0 {
			s.every = great[some.below(len(great))]
		}
		if some.below(3) > 0 {
			s = step{n: uint64(some.below(15))}
		}
		if some.below(60) == 0 {
			s = step{n: most - uint64(some.below(90))}
		}
		steps = append(steps, s)
	}
	return steps
}

// do does one step.
func (s step) do(x *timer.Timers) ([]int, api.Errno) {
	switch s.kind {
	case sets:
		return nil, x.Set(s.name, s.every)
	case stops:
		return nil, x.Stop(s.name)
	case again:
		return nil, x.Again(s.name)
	}
	return x.Tick(s.n)
}

// parts are steps that do the same, each Tick in up to four.
func (s step) parts(some *some) []step {
	if s.kind != ticks {
		return []step{s}
	}
	var parts []step
	for left := s.n; ; {
		part := step{n: left}
		if len(parts) < 3 && some.below(3) > 0 {
			part.n = uint64(some.below(int(min(left, 1<<30)) + 1))
		}
		parts = append(parts, part)
		if left -= part.n; left == 0 {
			return parts
		}
	}
}

func TestFirstTickBehindItsTime(t *testing.T) { // P17.4: told at the first Tick behind which its time is reached, never ahead, once a Tick
	for seed := range 600 {
		some := seeded(seed)
		x := timer.New()
		every, due := map[int]uint64{}, map[int]uint64{}
		fromNow := func(name int) { due[name] = min(x.Now()+every[name], most) }
		for _, s := range row(some, 150) {
			told, e := s.do(x)
			if e != api.OK {
				continue
			}
			switch s.kind {
			case sets:
				every[s.name] = s.every
				fromNow(s.name)
			case stops:
				delete(every, s.name)
				delete(due, s.name)
			case again:
				fromNow(s.name)
			}
			for name, at := range due {
				times := 0
				for _, got := range told {
					if got == name {
						times++
					}
				}
				isReached := s.kind == ticks && at <= x.Now()
				if isReached && times != 1 || !isReached && times != 0 {
					t.Fatalf("%+v: %v at %d: %d is due at %d", s, told, x.Now(), name, at)
				}
			}
			for _, name := range told {
				if _, isThere := due[name]; !isThere {
					t.Fatalf("%+v: %v at %d: there is no %d", s, told, x.Now(), name)
				}
				fromNow(name)
			}
		}
	}
}

func TestEachFirstTick(t *testing.T) { // P17.4: all small times and all small Ticks up to them
	for every := uint64(1); every <= 6; every++ {
		for ahead := range uint64(4) {
			for by := uint64(1); by <= 9; by++ {
				x := begun(t)
				x.ticks(t, ahead)
				x.sets(t, 2, every, api.OK)
				for x.p.now+by < ahead+every {
					x.ticks(t, by)
				}
				x.ticks(t, 0)
				x.ticks(t, by, 2)
				x.ticks(t, 0)
			}
		}
	}
}

// count adds how often each name was told.
func count(often map[int]int, told []int) {
	for _, name := range told {
		often[name]++
	}
}

func TestInParts(t *testing.T) { // P17.4: in parts each alarm is told at least as often
	for seed := range 600 {
		some := seeded(seed + 1000)
		whole, parted := timer.New(), timer.New()
		inWhole, inParts := map[int]int{}, map[int]int{}
		for _, s := range row(some, 120) {
			if s.kind == again {
				continue // what is begun anew has another time then
			}
			told, e := s.do(whole)
			if e != api.OK {
				continue
			}
			count(inWhole, told)
			for _, part := range s.parts(some) {
				told, e := part.do(parted)
				is(t, "a part", e, api.OK)
				count(inParts, told)
			}
			if whole.Now() != parted.Now() || !slices.Equal(whole.Names(), parted.Names()) {
				t.Fatal(whole.Now(), parted.Now(), whole.Names(), parted.Names())
			}
			for name, often := range inWhole {
				if inParts[name] < often {
					t.Fatalf("seed %d, behind %+v: %d is told %d times, in parts %d times", seed, s, name, often, inParts[name])
				}
			}
		}
	}
}

func TestOneTickInAllParts(t *testing.T) { // P17.4: of a Tick, each two and three parts that there are
	const n = 14
	for every := uint64(1); every <= n+2; every++ {
		for first := range uint64(n + 1) {
			for second := range n + 1 - first {
				x, often := timer.New(), 0
				is(t, "Set", x.Set(4, every), api.OK)
				for _, part := range []uint64{first, second, n - first - second} {
					told, e := x.Tick(part)
					is(t, "Tick", e, api.OK)
					often += len(told)
				}
				if once := every <= n; once && often < 1 || !once && often != 0 || often > 3 {
					t.Fatal(every, first, second, often)
				}
			}
		}
	}
}

func TestEachAsAlone(t *testing.T) { // P17.4: of several alarms each is told at the Ticks at which it is told where it stands alone
	for seed := range 400 {
		some := seeded(seed + 2000)
		all := timer.New()
		alone := make([]*timer.Timers, 6)
		for name := range alone {
			alone[name] = timer.New()
		}
		for _, s := range row(some, 120) {
			told, e := s.do(all)
			if s.kind != ticks {
				if got, gotErr := s.do(alone[s.name]); len(got) != 0 || gotErr != e {
					t.Fatalf("%+v: error %d, alone %d", s, e, gotErr)
				}
				continue
			}
			for name, x := range alone {
				got, gotErr := s.do(x)
				if gotErr != e || slices.Contains(told, name) != slices.Contains(got, name) {
					t.Fatalf("%+v of %d: %v, error %d, alone %v, error %d", s, name, told, e, got, gotErr)
				}
			}
		}
	}
}

func TestWhateverGoroutinesThereAre(t *testing.T) { // R7: each timers answer by what was asked of them alone
	asked := func(seed int) []int {
		var told []int
		x := timer.New()
		for _, s := range row(seeded(seed), 200) {
			names, e := s.do(x)
			told = append(append(told, names...), -1-int(e))
		}
		return append(told, int(x.Now()))
	}
	at := make([][]int, 24)
	var all sync.WaitGroup
	for i := range at {
		all.Go(func() { at[i] = asked(i % 3) })
	}
	all.Wait()
	for i, told := range at {
		if !slices.Equal(told, asked(i%3)) {
			t.Fatal(i)
		}
	}
}
