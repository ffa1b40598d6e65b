package credit

import (
	"testing"

	"braidwork/api"
)

// No row of calls gets there in any time, so that the counts are laid by hand.
func TestUseUpToTheEnd(t *testing.T) { // P16.3: up to MaxCount
	for _, first := range []uint64{api.MaxCount - 1000, api.MaxCount/2 - 500, 1<<32 - 500} {
		last := min(first+1000, api.MaxCount)
		s := &Sender{own: 2, receiver: 3, counts: counts(0).withGranted(last).withReached(first)}
		for n := first + 1; n <= last; n++ {
			if got, e := s.Use(); got != n || e != api.OK || s.Sent() != n || s.Granted() != last || s.May() != (n < last) {
				t.Fatal(n, got, e, s.Sent(), s.Granted(), s.May())
			}
		}
		if got, e := s.Use(); got != 0 || e != api.ErrCredit || s.Sent() != last {
			t.Fatal(last, got, e, s.Sent())
		}
		if e := s.Take(3, 2, api.MaxCount); e != api.OK || s.May() != (last < api.MaxCount) {
			t.Fatal(last, e, s.May())
		}
	}
}
