package queue_test

import (
	"bytes"
	"math"
	"slices"
	"testing"

	"braidwork/api"
	"braidwork/queue"
)

// wrongPlaces are some that no queue has, among them those that are right when only their lowest bits are seen.
var wrongPlaces = []int{
	0, -1, -2, -63, -64, -65, -255, -1 << 32, math.MinInt32, math.MinInt + 1, math.MinInt,
	65, 66, 127, 128, 255, 256, 257, 320, 1 << 16, 1<<32 + 1, 1<<32 + 64, math.MaxInt32, math.MaxInt - 1, math.MaxInt,
}

// somePlaces are those of the queues with which the longer rows of calls are tried.
var somePlaces = []int{1, 2, 3, 4, 5, 7, 8, 16, 31, 32, 33, 63, 64}

// list is a queue by the chapter's words, to be held against the program.
type list struct {
	places int
	frames [][]byte
}

func (l *list) push(b []byte) api.Errno {
	if len(b) > 70000 {
		return api.ErrLong
	}
	if len(l.frames) == l.places {
		return api.ErrFull
	}
	l.frames = append(l.frames, bytes.Clone(b))
	return api.OK
}

func (l *list) pop() ([]byte, bool) {
	b, ok := l.peek()
	if ok {
		l.frames = l.frames[1:]
	}
	return b, ok
}

func (l *list) peek() ([]byte, bool) {
	if len(l.frames) == 0 {
		return nil, false
	}
	return l.frames[0], true
}

// pair is a queue and the list that it has to be like.
type pair struct {
	t *testing.T
	q *queue.Queue
	l *list
}

// made is a new queue, which has to go well.
func made(t *testing.T, places int) *queue.Queue {
	t.Helper()
	q, e := queue.New(places)
	if q == nil || e != api.OK {
		t.Fatalf("New(%d): error %d", places, e)
	}
	return q
}

func paired(t *testing.T, places int) *pair {
	t.Helper()
	return &pair{t: t, q: made(t, places), l: &list{places: places}}
}

func (p *pair) push(b []byte) {
	p.t.Helper()
	if got, want := p.q.Push(b), p.l.push(b); got != want {
		p.t.Fatalf("Push of %d bytes, with %d places and %d frames: error %d, not %d", len(b), p.l.places, len(p.l.frames), got, want)
	}
}

func (p *pair) pop() {
	p.t.Helper()
	got, ok := p.q.Pop()
	want, there := p.l.pop()
	told(p.t, "Pop", got, ok, want, there)
}

func (p *pair) peek() {
	p.t.Helper()
	got, ok := p.q.Peek()
	want, there := p.l.peek()
	told(p.t, "Peek", got, ok, want, there)
}

func (p *pair) clear() {
	p.q.Clear()
	p.l.frames = nil
}

// alike asks for all that a queue tells and stays as it is by.
func (p *pair) alike() {
	p.t.Helper()
	holds(p.t, p.q, p.l.places, p.l.frames)
}

func told(t *testing.T, what string, got []byte, ok bool, want []byte, there bool) {
	t.Helper()
	if ok != there || !bytes.Equal(got, want) {
		t.Fatalf("%s: %d bytes %.40x, %v, not %d bytes %.40x, %v", what, len(got), got, ok, len(want), want, there)
	}
}

// sizes asks for Len and Free.
func sizes(t *testing.T, q *queue.Queue, count, free int) {
	t.Helper()
	if q.Len() != count || q.Free() != free {
		t.Fatalf("%d frames, %d free places, not %d, %d", q.Len(), q.Free(), count, free)
	}
}

// holds asks whether these frames are in the queue, and no others.
func holds(t *testing.T, q *queue.Queue, places int, frames [][]byte) {
	t.Helper()
	sizes(t, q, len(frames), places-len(frames))
	if all := q.All(); !slices.EqualFunc(all, frames, bytes.Equal) {
		t.Fatalf("All: %d frames, %.40x, not %d, %.40x", len(all), all, len(frames), frames)
	}
	first, ok := q.Peek()
	if len(frames) == 0 {
		told(t, "Peek", first, ok, nil, false)
		return
	}
	told(t, "Peek", first, ok, frames[0], true)
}

// pushed is for pushes that have to go well, pushes for those that have to tell this error.
func pushed(t *testing.T, q *queue.Queue, b []byte) {
	t.Helper()
	pushes(t, q, b, api.OK)
}

func pushes(t *testing.T, q *queue.Queue, b []byte, want api.Errno) {
	t.Helper()
	if e := q.Push(b); e != want {
		t.Fatalf("Push of %d bytes: error %d, not %d", len(b), e, want)
	}
}

func pops(t *testing.T, q *queue.Queue, want []byte) {
	t.Helper()
	got, ok := q.Pop()
	told(t, "Pop", got, ok, want, true)
}

func peeks(t *testing.T, q *queue.Queue, want []byte) {
	t.Helper()
	got, ok := q.Peek()
	told(t, "Peek", got, ok, want, true)
}

// empty asks whether a queue of so many places has no frames; none of its calls may turn that.
func empty(t *testing.T, q *queue.Queue, places int) {
	t.Helper()
	holds(t, q, places, nil)
	got, ok := q.Pop()
	told(t, "Pop", got, ok, nil, false)
	holds(t, q, places, nil)
}

// some makes numbers, always the same ones of one seed.
type some uint64

func (s *some) below(n int) int {
	*s = *s*6364136223846793005 + 1442695040888963407
	return int(uint64(*s)>>33) % n
}

// row is n bytes, other ones for another seed.
func row(n, seed int) []byte {
	s := some(seed*7919 + n)
	b := make([]byte, n)
	for i := range b {
		b[i] = byte(s.below(256))
	}
	return b
}

// frame is one of few bytes that no other one of another number is, below 2^16.
func frame(number int) []byte { return []byte{byte(number >> 8), byte(number)} }

// frames are n of them, from that number on.
func frames(from, n int) [][]byte {
	l := make([][]byte, n)
	for i := range l {
		l[i] = frame(from + i)
	}
	return l
}

// roomy is b, with so many bytes of room behind it, which hold no noughts.
func roomy(b []byte, room int) []byte {
	return slices.Concat(b, bytes.Repeat([]byte{0xa5}, room))[:len(b)]
}

// whole is b and the room behind it.
func whole(b []byte) []byte { return b[:cap(b)] }

// wipe turns each byte of b, and of the room behind it, into another one.
func wipe(b []byte) {
	for i := range whole(b) {
		whole(b)[i] ^= 0xff
	}
}

func TestExamples(t *testing.T) { // P5.1, P5.2
	q := made(t, 2)
	pushed(t, q, []byte("a"))
	pushed(t, q, []byte("b"))
	pushes(t, q, []byte("c"), api.ErrFull)
	pops(t, q, []byte("a"))
	pushed(t, q, []byte("c"))
	pops(t, q, []byte("b"))
	pops(t, q, []byte("c"))
	empty(t, q, 2)
}

func TestNewOfWrongPlaces(t *testing.T) { // P5.1
	for _, places := range wrongPlaces {
		if q, e := queue.New(places); q != nil || e != api.ErrArg {
			t.Errorf("New(%d): %v, error %d, not ErrArg", places, q != nil, e)
		}
	}
}

func TestNew(t *testing.T) { // P5.1
	for places := 1; places <= 64; places++ {
		empty(t, made(t, places), places)
	}
}

func TestLenAndFree(t *testing.T) { // P5.1
	for places := 1; places <= 64; places++ {
		q := made(t, places)
		for n := range places {
			sizes(t, q, n, places-n)
			pushed(t, q, frame(n))
		}
		sizes(t, q, places, 0)
		pushes(t, q, frame(places), api.ErrFull)
		sizes(t, q, places, 0)
		for n := range places {
			q.Peek()
			q.All()
			sizes(t, q, places-n, n)
			pops(t, q, frame(n))
		}
		empty(t, q, places)
	}
}

func TestNoQueue(t *testing.T) { // P5.1, P5.2
	for _, q := range []*queue.Queue{nil, {}, new(queue.Queue)} {
		for range 2 {
			for _, n := range []int{0, 1, 70000, 70001, api.MaxStream} {
				pushes(t, q, make([]byte, n), api.ErrNil)
			}
			pushes(t, q, nil, api.ErrNil)
			empty(t, q, 0)
			q.Clear()
			empty(t, q, 0)
		}
	}
}

func TestNoQueueOfWrongPlaces(t *testing.T) { // P5.1, R1
	for _, places := range wrongPlaces {
		q, _ := queue.New(places)
		pushes(t, q, frame(1), api.ErrNil)
		q.Clear()
		empty(t, q, 0)
	}
}

func TestPushOfEachLength(t *testing.T) { // P5.2
	for _, n := range []int{0, 1, 2, 3, 255, 256, 65535, 65536, 69999, 70000} {
		q, b := made(t, 3), row(n, 1)
		pushed(t, q, b)
		holds(t, q, 3, [][]byte{b})
		pushed(t, q, frame(7))
		holds(t, q, 3, [][]byte{b, frame(7)})
		pops(t, q, b)
		pops(t, q, frame(7))
		empty(t, q, 3)
	}
}

func TestPushOfNoBytes(t *testing.T) { // P5.2, R4
	q := made(t, 4)
	pushed(t, q, nil)
	pushed(t, q, []byte{})
	pushed(t, q, frame(1))
	pushed(t, q, frame(2)[:0])
	holds(t, q, 4, [][]byte{nil, nil, frame(1), nil})
	for _, want := range [][]byte{nil, nil, frame(1), nil} {
		peeks(t, q, want)
		pops(t, q, want)
	}
	empty(t, q, 4)
}

func TestPushOfTooManyBytes(t *testing.T) { // P5.2, P5.3
	q := made(t, 3)
	for count := range 3 {
		for _, n := range []int{70001, 70002, 1<<17 + 1, api.MaxStream, 1 << 20} {
			pushes(t, q, make([]byte, n), api.ErrLong)
			holds(t, q, 3, frames(0, count))
		}
		pushed(t, q, frame(count))
	}
}

func TestPushOfTooManyBytesWithRoom(t *testing.T) { // P5.2: bytes count, not the room behind them
	q, b := made(t, 1), make([]byte, 70005)
	pushed(t, q, b[:70000])
	holds(t, q, 1, [][]byte{b[:70000]})
	q.Clear()
	pushed(t, q, b[:1])
	holds(t, q, 1, [][]byte{b[:1]})
}

func TestPushOnAFullQueue(t *testing.T) { // P5.2, P5.3
	for _, places := range somePlaces {
		for from := range 3 {
			q := made(t, places)
			for i := range from {
				pushed(t, q, frame(1000+i))
				pops(t, q, frame(1000+i))
			}
			for i := range places {
				pushed(t, q, frame(i))
			}
			for _, n := range []int{0, 1, 70000} {
				pushes(t, q, row(n, 5), api.ErrFull)
				holds(t, q, places, frames(0, places))
			}
			pushes(t, q, nil, api.ErrFull)
			holds(t, q, places, frames(0, places))
		}
	}
}

func TestPushOfTooManyBytesOnAFullQueue(t *testing.T) { // P5.2, R5
	for _, places := range somePlaces {
		q := made(t, places)
		for i := range places {
			pushed(t, q, frame(i))
		}
		pushes(t, q, make([]byte, 70001), api.ErrLong)
		pushes(t, q, make([]byte, api.MaxStream), api.ErrLong)
		pushes(t, q, make([]byte, 70000), api.ErrFull)
		holds(t, q, places, frames(0, places))
	}
}

func TestPeekLeavesAndPopTakes(t *testing.T) { // P5.2
	q := made(t, 5)
	for i := range 5 {
		pushed(t, q, frame(i))
		for range 3 {
			peeks(t, q, frame(0))
		}
		sizes(t, q, i+1, 4-i)
	}
	for i := range 5 {
		for range 3 {
			peeks(t, q, frame(i))
		}
		pops(t, q, frame(i))
		holds(t, q, 5, frames(i+1, 4-i))
	}
	empty(t, q, 5)
}

func TestPopOfAnEmptyQueue(t *testing.T) { // P5.2, P5.3
	for _, places := range somePlaces {
		q := made(t, places)
		for i := range 2*places + 3 {
			for range 3 {
				empty(t, q, places)
			}
			pushed(t, q, frame(i))
			pops(t, q, frame(i))
		}
		empty(t, q, places)
	}
}

func TestAllFromEachPlace(t *testing.T) { // P5.2: wherever in the ring the first one stands
	for _, places := range somePlaces {
		for from := range 66 {
			q := made(t, places)
			for i := range from {
				pushed(t, q, frame(i))
				pops(t, q, frame(i))
			}
			for count := range places + 1 {
				holds(t, q, places, frames(from, count))
				holds(t, q, places, frames(from, count))
				q.Push(frame(from + count))
			}
			for i := range places {
				holds(t, q, places, frames(from+i, places-i))
				pops(t, q, frame(from+i))
			}
			empty(t, q, places)
		}
	}
}

func TestClear(t *testing.T) { // P5.2
	for _, places := range somePlaces {
		for from := range 66 {
			q, count := made(t, places), from%(places+1)
			for i := range from {
				pushed(t, q, frame(i))
				pops(t, q, frame(i))
			}
			for i := range count {
				pushed(t, q, frame(1000+i))
			}
			for range 2 {
				q.Clear()
				empty(t, q, places)
			}
			for i := range places {
				pushed(t, q, frame(2000+i))
				holds(t, q, places, frames(2000, i+1))
			}
			pushes(t, q, frame(0), api.ErrFull)
			for i := range places {
				pops(t, q, frame(2000+i))
			}
			empty(t, q, places)
		}
	}
}

func TestGivenStays(t *testing.T) { // P5.2, R3
	for _, n := range []int{0, 1, 2, 5, 1000, 70000} {
		for _, room := range []int{0, 1, 8, 100} {
			q, want := made(t, 3), row(n, 2)
			given := roomy(want, room)
			kept := bytes.Clone(whole(given))
			for range 3 {
				pushed(t, q, given)
			}
			pushes(t, q, given, api.ErrFull)
			if !bytes.Equal(whole(given), kept) {
				t.Fatalf("%d bytes, and %d behind them, were written to", n, room)
			}
			wipe(given)
			holds(t, q, 3, [][]byte{want, want, want})
			kept = bytes.Clone(whole(given))
			scribble(q)
			if !bytes.Equal(whole(given), kept) {
				t.Fatalf("%d bytes, and %d behind them, are shared", n, room)
			}
		}
	}
}

// scribble writes to all that a queue of three frames tells, and leaves no frame there.
func scribble(q *queue.Queue) {
	for range 3 {
		for _, b := range q.All() {
			wipe(b)
		}
		b, _ := q.Peek()
		wipe(b)
		b, _ = q.Pop()
		wipe(b)
	}
}

func TestToldIsNewMemory(t *testing.T) { // P5.2, R3
	for _, n := range []int{1, 2, 5, 1000, 70000} {
		q, want := made(t, 4), [][]byte{row(n, 1), row(n, 2), row(n, 3), row(n, 4)}
		for _, b := range want {
			pushed(t, q, b)
		}
		for i := range want {
			first, _ := q.Peek()
			second, _ := q.Peek()
			wipe(first)
			told(t, "Peek, when another answer was written to", second, true, want[i], true)
			wipe(second)
			holds(t, q, 4, want[i:])
			all, again := q.All(), q.All()
			popped, _ := q.Pop()
			apart(t, all, want[i:])
			holds(t, q, 4, want[i+1:])
			told(t, "Pop, when other answers were written to", popped, true, want[i], true)
			wipe(popped)
			apart(t, again, want[i:])
			holds(t, q, 4, want[i+1:])
		}
	}
}

// apart asks for these frames, of which each is written to ahead of the next one, so that none may share with another;
// it leaves them written to, and other frames in their places of the list.
func apart(t *testing.T, got, want [][]byte) {
	t.Helper()
	if len(got) != len(want) {
		t.Fatalf("%d frames, not %d", len(got), len(want))
	}
	for i := range got {
		told(t, "All, when other answers were written to", got[i], true, want[i], true)
		wipe(got[i])
	}
	for i := range got {
		got[i] = frame(4242)
	}
}

func TestToldHasNoRoomOfOthers(t *testing.T) { // P5.2, R3: what is appended to one answer shows in no other
	q, want := made(t, 8), frames(300, 8)
	for _, b := range want {
		pushed(t, q, b)
	}
	all := q.All()
	grown := append(all, frame(1))
	for i := range all {
		grown[i] = append(grown[i], 0xee, 0xee, 0xee)
	}
	holds(t, q, 8, want)
	for i := range all {
		if !bytes.Equal(grown[i][:2], want[i]) {
			t.Fatalf("frame %d: %x", i, grown[i])
		}
	}
	for i := range want {
		b, _ := q.Peek()
		_ = append(b, 0xee, 0xee, 0xee)
		b, _ = q.Pop()
		_ = append(b, 0xee, 0xee, 0xee)
		holds(t, q, 8, want[i+1:])
	}
}

func TestFreedPlacesAreNotShared(t *testing.T) { // P5.2, P5.3: what was popped stays as it was told, whatever stands there later
	q := made(t, 2)
	var popped [][]byte
	for i := range 200 {
		pushed(t, q, frame(i))
		b, _ := q.Pop()
		popped = append(popped, b)
	}
	if !slices.EqualFunc(popped, frames(0, 200), bytes.Equal) {
		t.Error("popped frames were written to")
	}
	pushed(t, q, frame(7))
	for _, b := range popped {
		wipe(b)
	}
	holds(t, q, 2, [][]byte{frame(7)})
}

func TestRoundTheRing(t *testing.T) { // P5.3: with each number of places, and as many frames waiting as may
	for places := 1; places <= 64; places++ {
		for ahead := range min(places, 5) {
			waiting := places - ahead
			p := paired(t, places)
			for i := range waiting {
				p.push(frame(i))
			}
			for i := range 200 {
				p.pop()
				p.push(frame(waiting + i))
				p.alike()
			}
			for range waiting + 1 {
				p.pop()
				p.alike()
			}
		}
	}
}

func TestFilledAndEmptied(t *testing.T) { // P5.3
	for places := 1; places <= 64; places++ {
		p, number := paired(t, places), 0
		for round := range 12 {
			for range places + 2 {
				p.push(frame(number))
				number++
			}
			p.alike()
			for range places - round%places {
				p.pop()
			}
			p.alike()
		}
	}
}

// call does one of a few calls, by its number, on both.
func (p *pair) call(which, number int) {
	p.t.Helper()
	switch which {
	case 0, 1, 2:
		p.push(frame(number))
	case 3, 4:
		p.pop()
	case 5:
		p.peek()
	case 6:
		p.push(make([]byte, 70001))
	case 7:
		p.clear()
	}
}

func TestAllShortRowsOfCalls(t *testing.T) { // P5.3
	const length = 8
	for places := 1; places <= 3; places++ {
		for row := range 1 << (2 * length) {
			p := paired(t, places)
			for i := range length {
				p.call([]int{0, 3, 5, 7}[row>>(2*i)&3], i)
			}
			p.alike()
		}
	}
}

func TestLongRowsOfCalls(t *testing.T) { // P5.3
	for _, places := range somePlaces {
		for seed := range 8 {
			s, p := some(1000*places+seed), paired(t, places)
			for number := range 3000 {
				which := s.below(8)
				if which == 7 && s.below(40) > 0 { // else it would seldom be full
					which = s.below(2) * 3
				}
				p.call(which, number)
				p.alike()
			}
		}
	}
}

func TestRowsOfFramesOfAllLengths(t *testing.T) { // P5.3
	for _, places := range []int{1, 3, 64} {
		s, p := some(places), paired(t, places)
		for number := range 1500 {
			switch s.below(3) {
			case 0:
				p.pop()
			case 1:
				p.push(row(s.below(40), number))
			case 2:
				p.push(row([]int{0, 1, 300, 69999, 70000, 70001}[s.below(6)], number))
			}
			if number%16 == 0 {
				p.alike()
			}
		}
		p.alike()
	}
}

func TestTwoQueues(t *testing.T) { // P5.3
	for _, places := range somePlaces {
		s, one, other := some(places+77), paired(t, places), paired(t, places%64+1)
		for number := range 3000 {
			one.call(s.below(7), 2*number)
			other.alike()
			other.call(s.below(7), 2*number+1)
			one.alike()
			if number%500 == 499 {
				one.clear()
				other.alike()
			}
		}
	}
}

func TestFramesFromOneQueueToAnother(t *testing.T) { // P5.3
	one, other := made(t, 4), made(t, 4)
	for i := range 300 {
		pushed(t, one, frame(i))
		b, _ := one.Peek()
		pushed(t, other, b)
		wipe(b)
		holds(t, one, 4, [][]byte{frame(i)})
		holds(t, other, 4, [][]byte{frame(i)})
		one.Clear()
		pops(t, other, frame(i))
	}
	empty(t, one, 4)
	empty(t, other, 4)
}
