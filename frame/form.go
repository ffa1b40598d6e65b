package frame

import (
	"braidwork/api"
	"braidwork/crc"
	"braidwork/wire"
)

// How many bytes the numbers of a form have: all others have one.
const (
	numberSize = 8
	lengthSize = 2
)

// Put is the bytes of f.
func Put(f api.Frame) ([]byte, api.Errno) {
	if !May(f) {
		return nil, api.ErrArg
	}
	return crc.Seal(lay(f)), api.OK
}

// lay is the form of f, which may be.
func lay(f api.Frame) []byte {
	var form []byte
	number := func(n uint64, size int) {
		// Of what may be, each number has a form of its size.
		digits, _ := wire.Num(nil, n, size)
		form = append(form, digits...)
	}
	one := func(numbers ...int) {
		for _, n := range numbers {
			number(uint64(n), 1)
		}
	}
	eight := func(numbers ...uint64) {
		for _, n := range numbers {
			number(n, numberSize)
		}
	}
	one(f.Kind, f.From, f.To)
	eight(f.Epoch, f.Life)
	switch f.Kind {
	case api.Data:
		one(f.Flow)
		eight(f.Gen, f.Seq)
		one(len(f.Row.Coefs))
		form = append(form, f.Row.Coefs...)
		number(uint64(len(f.Row.Payload)), lengthSize)
		form = append(form, f.Row.Payload...)
	case api.Feedback:
		one(f.Flow)
		eight(f.Gen, f.Seq)
		one(len(f.Ranks))
		for _, r := range f.Ranks {
			eight(r.Gen)
			one(r.Rank)
		}
	case api.Credit:
		eight(f.Seq, f.For)
	case api.Probe:
		eight(f.Seq)
	case api.Member:
		eight(f.Topo.Epoch)
		layTopo(f.Topo, one)
	case api.Close:
		one(f.Flow)
		eight(f.Gen)
	}
	return form
}

// layTopo lays what stands behind a topology's epoch.
func layTopo(t api.Topo, one func(numbers ...int)) {
	one(len(t.Up))
	for _, isUp := range t.Up {
		if isUp {
			one(1)
		} else {
			one(0)
		}
	}
	one(len(t.Hops))
	for _, edges := range t.Hops {
		one(len(edges))
		for _, e := range edges {
			one(e.From, e.To)
		}
	}
}

// Take is the frame whose bytes these are.
func Take(b []byte) (api.Frame, api.Errno) {
	if len(b) > api.MaxFrame {
		return api.Frame{}, api.ErrLong
	}
	form, e := crc.Open(b)
	if e != api.OK {
		return api.Frame{}, e
	}
	f, e := read(form)
	if e != api.OK || !May(f) {
		return api.Frame{}, api.ErrForm
	}
	return f, api.OK
}

// reading hands out what reads a form: its next number of so many bytes, its next bytes, and whether all went well and nothing is left.
//
// Behind the first error nothing more is read, and each number is 0, so that no list is told to be long.
func reading(form []byte) (number func(size int) uint64, next func(n int) []byte, end func() api.Errno) {
	r, first := wire.New(form), api.OK
	number = func(size int) (n uint64) {
		if first == api.OK {
			n, first = r.Num(size)
		}
		return n
	}
	next = func(n int) (b []byte) {
		if first == api.OK {
			b, first = r.Take(n)
		}
		return b
	}
	end = func() api.Errno {
		if first == api.OK {
			first = r.End()
		}
		return first
	}
	return number, next, end
}

// read is the frame whose form this is, may it be or not, or an error, if it is no form.
func read(form []byte) (api.Frame, api.Errno) {
	var f api.Frame
	number, next, end := reading(form)
	one := func() int { return int(number(1)) }
	f.Kind, f.From, f.To = one(), one(), one()
	f.Epoch, f.Life = number(numberSize), number(numberSize)
	switch f.Kind {
	case api.Data, api.Feedback, api.Close:
		goto flow
	case api.Credit, api.Probe:
		goto seq
	case api.Member:
		goto topo
	}
	goto end
flow:
	f.Flow, f.Gen = one(), number(numberSize)
	if f.Kind == api.Close {
		goto end
	}
seq:
	f.Seq = number(numberSize)
	switch f.Kind {
	case api.Data:
		goto row
	case api.Feedback:
		goto ranks
	case api.Probe:
		goto end
	}
	f.For = number(numberSize)
	goto end
row:
	f.Row.Coefs = next(one())
	f.Row.Payload = next(int(number(lengthSize)))
	goto end
ranks:
	for range one() {
		f.Ranks = append(f.Ranks, api.Rank{Gen: number(numberSize), Rank: one()})
	}
	goto end
topo:
	f.Topo = readTopo(number, next)
end:
	return f, end()
}

// readTopo reads what a Member has.
//
// A byte that says neither of a node that it is up nor that it is not makes a topology that no frame may have.
func readTopo(number func(size int) uint64, next func(n int) []byte) api.Topo {
	one := func() int { return int(number(1)) }
	t := api.Topo{Epoch: number(numberSize)}
	for _, up := range next(one()) {
		if up > 1 {
			return api.Topo{}
		}
		t.Up = append(t.Up, up == 1)
	}
	for range one() {
		var edges []api.Edge
		for range one() {
			edges = append(edges, api.Edge{From: one(), To: one()})
		}
		t.Hops = append(t.Hops, edges)
	}
	return t
}
