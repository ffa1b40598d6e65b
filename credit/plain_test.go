package credit_test

import (
	"math"
	"testing"

	"braidwork/api"
	"braidwork/credit"
)

// most is the greatest of lives and counts.
const most = uint64(1) << 50

// beyond are numbers above the greatest one.
var beyond = []uint64{most + 1, most + 2, 1 << 51, 1<<53 + 1, 1 << 63, math.MaxUint64 - 1, math.MaxUint64}

// great are numbers of all sizes that a count may have, those among them that a small float would not hold.
var great = []uint64{
	0, 1, 2, 3, 63, 64, 65, 255, 256, 1<<24 - 1, 1 << 24, 1<<24 + 1, 1<<32 - 1, 1 << 32, 1<<32 + 1,
	1<<49 - 1, 1<<49 + 1, most - 65, most - 64, most - 63, most - 2, most - 1, most,
}

func isLife(life uint64) bool { return life > 0 && life <= most }

// plainSender is a sender's account by the chapter's words, to be held against the program.
type plainSender struct{ own, receiver, granted, used uint64 }

func (p *plainSender) take(life, to, granted uint64) api.Errno {
	switch {
	case !isLife(life), to > most, granted > most:
		return api.ErrArg
	case to != p.own, life < p.receiver:
		return api.ErrEpoch
	case life > p.receiver:
		p.receiver, p.granted = life, granted
	case granted > p.granted:
		p.granted = granted
	}
	return api.OK
}

func (p *plainSender) use() (uint64, api.Errno) {
	if p.used >= p.granted {
		return 0, api.ErrCredit
	}
	p.used++
	return p.used, api.OK
}

// plainReceiver is a receiver's account by the chapter's words.
type plainReceiver struct {
	places                int
	sender, granted, seen uint64
}

func (p *plainReceiver) saw(life, seq uint64) api.Errno {
	switch {
	case !isLife(life), seq > most:
		return api.ErrArg
	case life < p.sender:
		return api.ErrEpoch
	case life > p.sender:
		p.sender, p.seen, p.granted = life, seq, 0
	case seq > p.seen:
		p.seen = seq
	}
	return api.OK
}

func (p *plainReceiver) grant(free int) (uint64, api.Errno) {
	if free < 0 || free > p.places {
		return 0, api.ErrArg
	}
	told := p.seen + uint64(free)
	if told > most {
		told = most
	}
	if told > p.granted {
		p.granted = told
	}
	return p.granted, api.OK
}

// is holds an error against the one that it has to be.
func is(t *testing.T, what string, e, want api.Errno) {
	t.Helper()
	if e != want {
		t.Fatalf("%s: error %d, not %d", what, e, want)
	}
}

// sender is an account, and the plain one of which the same was asked.
type sender struct {
	s *credit.Sender
	p *plainSender
}

// aSender is a new account, which has to go well.
func aSender(t *testing.T, life uint64) sender {
	t.Helper()
	s, e := credit.NewSender(life)
	if s == nil || e != api.OK {
		t.Fatalf("NewSender(%d): error %d", life, e)
	}
	x := sender{s, &plainSender{own: life}}
	x.looks(t)
	return x
}

// looks asks whether the account is as the plain one is.
func (x sender) looks(t *testing.T) {
	t.Helper()
	may, sent, granted := x.s.May(), x.s.Sent(), x.s.Granted()
	if may != (x.p.granted > x.p.used) || sent != x.p.used || granted != x.p.granted {
		t.Fatalf("May, Sent, Granted: %v, %d, %d, not as of %+v", may, sent, granted, *x.p)
	}
}

// take asks both, which have to answer the same and to be the same behind it.
func (x sender) take(t *testing.T, life, to, granted uint64) api.Errno {
	t.Helper()
	ahead := *x.p
	e, want := x.s.Take(life, to, granted), x.p.take(life, to, granted)
	if e != want {
		t.Fatalf("Take(%d, %d, %d) of %+v: error %d, not %d", life, to, granted, ahead, e, want)
	}
	x.looks(t)
	return e
}

// takes asks for that error.
func (x sender) takes(t *testing.T, life, to, granted uint64, want api.Errno) {
	t.Helper()
	if e := x.take(t, life, to, granted); e != want {
		t.Fatalf("Take(%d, %d, %d): error %d, not %d", life, to, granted, e, want)
	}
}

// use asks both.
func (x sender) use(t *testing.T) (uint64, api.Errno) {
	t.Helper()
	ahead := *x.p
	n, e := x.s.Use()
	want, wantErr := x.p.use()
	if n != want || e != wantErr {
		t.Fatalf("Use of %+v: %d, error %d, not %d, error %d", ahead, n, e, want, wantErr)
	}
	x.looks(t)
	return n, e
}

// uses asks for these numbers, and for ErrCredit behind them.
func (x sender) uses(t *testing.T, want ...uint64) {
	t.Helper()
	for _, n := range want {
		if got, e := x.use(t); got != n || e != api.OK {
			t.Fatalf("Use: %d, error %d, not %d", got, e, n)
		}
	}
	for range 2 {
		if got, e := x.use(t); got != 0 || e != api.ErrCredit {
			t.Fatalf("Use of all that is granted: %d, error %d", got, e)
		}
	}
}

// receiver is an account, and the plain one of which the same was asked.
type receiver struct {
	r *credit.Receiver
	p *plainReceiver
}

// aReceiver is a new account, which has to go well.
func aReceiver(t *testing.T, places int) receiver {
	t.Helper()
	r, e := credit.NewReceiver(places)
	if r == nil || e != api.OK {
		t.Fatalf("NewReceiver(%d): error %d", places, e)
	}
	x := receiver{r, &plainReceiver{places: places}}
	x.looks(t)
	return x
}

// looks asks whether the account is as the plain one is; what it granted only the next Grant tells.
func (x receiver) looks(t *testing.T) {
	t.Helper()
	if life, seen := x.r.Life(), x.r.Seen(); life != x.p.sender || seen != x.p.seen {
		t.Fatalf("Life, Seen: %d, %d, not as of %+v", life, seen, *x.p)
	}
}

// saw asks both.
func (x receiver) saw(t *testing.T, life, seq uint64) api.Errno {
	t.Helper()
	ahead := *x.p
	e, want := x.r.Saw(life, seq), x.p.saw(life, seq)
	if e != want {
		t.Fatalf("Saw(%d, %d) of %+v: error %d, not %d", life, seq, ahead, e, want)
	}
	x.looks(t)
	return e
}

// sees asks for that error.
func (x receiver) sees(t *testing.T, life, seq uint64, want api.Errno) {
	t.Helper()
	if e := x.saw(t, life, seq); e != want {
		t.Fatalf("Saw(%d, %d): error %d, not %d", life, seq, e, want)
	}
}

// grant asks both.
func (x receiver) grant(t *testing.T, free int) (uint64, api.Errno) {
	t.Helper()
	ahead := *x.p
	n, e := x.r.Grant(free)
	want, wantErr := x.p.grant(free)
	if n != want || e != wantErr {
		t.Fatalf("Grant(%d) of %+v: %d, error %d, not %d, error %d", free, ahead, n, e, want, wantErr)
	}
	x.looks(t)
	return n, e
}

// grants asks for that number.
func (x receiver) grants(t *testing.T, free int, want uint64) {
	t.Helper()
	if n, e := x.grant(t, free); n != want || e != api.OK {
		t.Fatalf("Grant(%d): %d, error %d, not %d", free, n, e, want)
	}
}

// some makes numbers, always the same ones of one seed.
type some uint64

func seeded(seed int) *some {
	x := some(seed)*104729 + 11
	return &x
}

func (x *some) below(n int) int {
	*x = *x*6364136223846793005 + 1442695040888963407
	return int(uint64(*x)>>33) % n
}

// count is a number of any size, now and then one that may not be.
func (x *some) count() uint64 {
	switch x.below(12) {
	case 0:
		return beyond[x.below(len(beyond))]
	case 1, 2, 3:
		return great[x.below(len(great))]
	case 4:
		return most - uint64(x.below(80))
	}
	return uint64(x.below(12))
}

// life is one of a few, now and then any number.
func (x *some) life() uint64 {
	if x.below(8) == 0 {
		return x.count()
	}
	return uint64(1 + x.below(4))
}
