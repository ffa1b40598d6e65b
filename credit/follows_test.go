package credit_test

import (
	"sync"
	"testing"

	"braidwork/api"
	"braidwork/credit"
)

// pair is the lives of a receiver and of a sender.
type pair struct{ receiver, sender uint64 }

// seen is what a sender's frame tells a receiver.
type seen struct{ life, seq uint64 }

// told is what a receiver's frame tells a sender.
type told struct{ life, to, granted uint64 }

// world is a sender and a receiver, each of which begins anew now and then, and what they ever said to each other: any of
// it may be brought at any time, as often as may be, or never.
type world struct {
	s sender
	r receiver
	// life is the receiver's own; the account doesn't know it.
	life uint64
	// known is the greatest life of a receiver that this sender took anything of.
	known uint64
	seen  []seen
	told  []told
	// granted is the most that receivers of one life granted to senders of one life.
	granted map[pair]uint64
}

func begun(t *testing.T, places int) *world {
	t.Helper()
	return &world{s: aSender(t, 1), r: aReceiver(t, places), life: 1, granted: map[pair]uint64{}}
}

// send is a frame that uses what is granted, if there is anything.
func (w *world) send(t *testing.T) {
	t.Helper()
	own, may := w.s.p.own, w.s.s.May()
	n, e := w.s.use(t)
	if may != (e == api.OK) {
		t.Fatal("May, Use:", may, n, e)
	}
	if e != api.OK {
		return
	}
	if most := w.granted[pair{w.known, own}]; n > most {
		t.Fatalf("Use tells %d; a receiver of life %d granted %d to life %d", n, w.known, most, own)
	}
	w.seen = append(w.seen, seen{own, n})
}

// probe is a frame that tells how many were used.
func (w *world) probe() { w.seen = append(w.seen, seen{w.s.p.own, w.s.s.Sent()}) }

// hear brings a sender's frame to the receiver.
func (w *world) hear(t *testing.T, at int) {
	t.Helper()
	if len(w.seen) > 0 {
		w.r.saw(t, w.seen[at%len(w.seen)].life, w.seen[at%len(w.seen)].seq)
	}
}

// grant is a frame that tells how many may be sent, and to whom.
func (w *world) grant(t *testing.T, free int) {
	t.Helper()
	n, e := w.r.grant(t, free)
	if e != api.OK {
		return
	}
	w.told = append(w.told, told{w.life, w.r.r.Life(), n})
	key := pair{w.life, w.r.r.Life()}
	w.granted[key] = max(w.granted[key], n)
}

// take brings a receiver's frame to the sender.
func (w *world) take(t *testing.T, at int) {
	t.Helper()
	if len(w.told) == 0 {
		return
	}
	m := w.told[at%len(w.told)]
	if w.s.take(t, m.life, m.to, m.granted) == api.OK {
		w.known = max(w.known, m.life)
	}
}

func (w *world) senderAnew(t *testing.T, by int) {
	t.Helper()
	w.s, w.known = aSender(t, w.s.p.own+uint64(by)), 0
}

func (w *world) receiverAnew(t *testing.T, by, places int) {
	t.Helper()
	w.r, w.life = aReceiver(t, places), w.life+uint64(by)
}

// mayGoOn asks P16.8 of the accounts as they are now, and leaves them so.
func (w *world) mayGoOn(t *testing.T, free int) {
	t.Helper()
	s, r := *w.s.s, *w.r.r
	is(t, "Saw", r.Saw(w.s.p.own, s.Sent()), api.OK)
	n, e := r.Grant(free)
	is(t, "Grant", e, api.OK)
	is(t, "Take", s.Take(w.life, w.s.p.own, n), api.OK)
	if !s.May() {
		t.Fatalf("it sticks: sent %d, granted %d, which is %d", s.Sent(), n, s.Granted())
	}
	w.s.looks(t)
	w.r.looks(t)
}

// counts are what does not fall in one life of both.
type counts struct {
	own, known, sent, granted  uint64
	life, sender, seen, grants uint64
}

func (w *world) counts() counts {
	r := *w.r.r
	grants, _ := r.Grant(0)
	return counts{w.s.p.own, w.known, w.s.s.Sent(), w.s.s.Granted(), w.life, w.r.r.Life(), w.r.r.Seen(), grants}
}

// doesNotFall asks P16.9 of the accounts as they were and as they are.
func doesNotFall(t *testing.T, was, is counts) {
	t.Helper()
	if was.own == is.own && (is.sent < was.sent || was.known == is.known && is.granted < was.granted) {
		t.Fatalf("the sender's falls: %+v, %+v", was, is)
	}
	if was.life == is.life && was.sender == is.sender && (is.seen < was.seen || is.grants < was.grants) {
		t.Fatalf("the receiver's falls: %+v, %+v", was, is)
	}
}

// wrong is a call that has to be refused, whatever there was.
func (w *world) wrong(t *testing.T, some *some) {
	t.Helper()
	bad := beyond[some.below(len(beyond))]
	switch some.below(7) {
	case 0:
		w.s.takes(t, bad, w.s.p.own, 5, api.ErrArg)
	case 1:
		w.s.takes(t, 0, w.s.p.own, 5, api.ErrArg)
	case 2:
		w.s.takes(t, w.life, w.s.p.own, bad, api.ErrArg)
	case 3:
		w.s.takes(t, w.life+1, w.s.p.own+1, 5, api.ErrEpoch)
	case 4:
		w.r.sees(t, w.s.p.own, bad, api.ErrArg)
	case 5:
		w.r.sees(t, bad, 5, api.ErrArg)
	case 6:
		if n, e := w.r.grant(t, w.r.p.places+1); n != 0 || e != api.ErrArg {
			t.Fatal(n, e)
		}
	}
}

func (w *world) step(t *testing.T, some *some) {
	t.Helper()
	// Late ones are of any time; of a line that is in order the last one is brought.
	at := some.below(1 + len(w.seen) + len(w.told))
	switch some.below(24) {
	case 0, 1, 2, 3, 4:
		w.send(t)
	case 5, 6:
		w.probe()
	case 7, 8:
		w.hear(t, at)
	case 9, 10, 11:
		w.hear(t, len(w.seen)+len(w.seen)-1)
	case 12, 13, 14, 15:
		w.grant(t, some.below(w.r.p.places+1))
	case 16, 17:
		w.take(t, at)
	case 18, 19, 20:
		w.take(t, len(w.told)+len(w.told)-1)
	case 21:
		w.wrong(t, some)
	case 22:
		if some.below(5) == 0 {
			w.senderAnew(t, 1+some.below(3))
		}
	case 23:
		if some.below(5) == 0 {
			w.receiverAnew(t, 1+some.below(3), 1+some.below(6))
		}
	}
}

func TestNeverBeyond(t *testing.T) { // P16.7 to P16.9, with lives that begin anew
	sent := 0
	for seed := range 400 {
		some := seeded(seed)
		w := begun(t, 1+some.below(6))
		for range 400 {
			was := w.counts()
			w.step(t, some)
			doesNotFall(t, was, w.counts())
			w.mayGoOn(t, 1+some.below(w.r.p.places))
		}
		sent += len(w.seen)
	}
	if sent < 10000 {
		t.Fatal("hardly anything was sent:", sent)
	}
}

func TestNeverBeyondInShortRows(t *testing.T) { // P16.7 to P16.9: all rows of five events
	rows(5, func() []func() {
		w := begun(t, 2)
		events := []func(){
			func() { w.send(t) },
			func() { w.probe() },
			func() { w.hear(t, 0) },
			func() { w.hear(t, 2*len(w.seen)-1) },
			func() { w.grant(t, 1) },
			func() { w.grant(t, 2) },
			func() { w.take(t, 0) },
			func() { w.take(t, 2*len(w.told)-1) },
			func() { w.senderAnew(t, 1) },
			func() { w.receiverAnew(t, 1, 2) },
		}
		for i, event := range events {
			events[i] = func() {
				was := w.counts()
				event()
				doesNotFall(t, was, w.counts())
				w.mayGoOn(t, 1)
			}
		}
		return events
	})
}

func TestItDoesNotStick(t *testing.T) { // P16.8: with each number of places and of those that are free, behind frames that were lost
	for places := 1; places <= 64; places++ {
		w := begun(t, places)
		for range 2 * places {
			w.probe()
			w.hear(t, 2*len(w.seen)-1)
			w.grant(t, places)
			w.take(t, 2*len(w.told)-1)
			for w.s.s.May() { // none of them is brought
				w.send(t)
			}
			for free := 1; free <= places; free++ {
				w.mayGoOn(t, free)
			}
		}
		if w.s.s.Sent() != uint64(2*places*places) {
			t.Fatal(places, w.s.s.Sent())
		}
	}
}

func TestAccountsStandApart(t *testing.T) { // each account keeps its own lives and counts
	var senders []sender
	var receivers []receiver
	for i := range 8 {
		senders = append(senders, aSender(t, uint64(1+i%3)))
		receivers = append(receivers, aReceiver(t, 1+i%4))
	}
	some := seeded(7)
	for range 4000 {
		x, y := senders[some.below(8)], receivers[some.below(8)]
		switch some.below(4) {
		case 0:
			x.take(t, some.life(), x.p.own, uint64(some.below(40)))
		case 1:
			x.use(t)
		case 2:
			y.saw(t, some.life(), uint64(some.below(40)))
		case 3:
			y.grant(t, some.below(6)-1)
		}
		for i := range 8 {
			senders[i].looks(t)
			receivers[i].looks(t)
			r := *receivers[i].r
			if n, _ := r.Grant(0); n != max(receivers[i].p.granted, receivers[i].p.seen) {
				t.Fatal(i, n, *receivers[i].p)
			}
		}
	}
}

func TestAskedAtOnce(t *testing.T) { // R7: questions alone change nothing, whoever asks; and each goroutine may have accounts of its own
	x, y := used(t), aReceiver(t, 4)
	y.sees(t, 3, 7, api.OK)
	var all sync.WaitGroup
	wrong := make([]bool, 16)
	for i := range wrong {
		all.Add(1)
		go func() {
			defer all.Done()
			for range 200 {
				wrong[i] = wrong[i] || !x.s.May() || x.s.Sent() != 4 || x.s.Granted() != 6 || y.r.Life() != 3 || y.r.Seen() != 7
				s, _ := credit.NewSender(5)
				r, _ := credit.NewReceiver(4)
				r.Saw(5, uint64(i))
				n, _ := r.Grant(4)
				s.Take(1, 5, n)
				for range i + 4 {
					s.Use()
				}
				wrong[i] = wrong[i] || s.Sent() != uint64(i+4) || s.May()
			}
		}()
	}
	all.Wait()
	for i := range wrong {
		if wrong[i] {
			t.Fatal("wrong in goroutine", i)
		}
	}
}
