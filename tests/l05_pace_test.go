package tests

import (
	"math"
	"math/rand"
	"testing"

	"loop.example/g03315/impl"
)

const greatestPace = 1000001

// goodPaces are valid paces, the least and the greatest among them.
func goodPaces() []impl.Pace {
	list := []impl.Pace{{}, paceOf(5, 7, 10, 8, 1)}
	for _, n := range []int{1, 1000000, greatestPace} {
		list = append(list, impl.Pace{Newest: n}, impl.Pace{Their: n}, impl.Pace{At: n}, impl.Pace{Trip: n}, impl.Pace{Samples: n}, paceOf(n, n, n, n, n))
	}
	return list
}

func TestPaceOk(t *testing.T) {
	for _, good := range goodPaces() {
		if !impl.PaceOk(good) {
			t.Errorf("PaceOk is false for %v", good)
		}
	}
	for _, bad := range badPaces() {
		if impl.PaceOk(bad) {
			t.Errorf("PaceOk is true for %v", bad)
		}
	}
}

// packetAt is a packet with a tick, a time and an echo.
func packetAt(tick int, time int, echo int) impl.Packet {
	return impl.Packet{Tick: tick, Time: time, Echo: echo, Acks: []int{0, 0}}
}

func TestHearPacket(t *testing.T) {
	q := paceOf(5, 7, 10, 8, 1)
	for _, c := range []struct {
		q    impl.Pace
		x    impl.Packet
		now  int
		want impl.Pace
	}{
		{impl.Pace{}, packetAt(7, 4, 3), 10, q},
		// Only a packet that is newer than all others tells a tick.
		{q, packetAt(9, 5, 0), 12, paceOf(6, 9, 12, 8, 1)}, {q, packetAt(9, 4, 0), 12, q}, {q, packetAt(9, 3, 0), 12, q}, {q, packetAt(9, 0, 0), 12, q},
		{q, packetAt(0, 30, 0), 0, paceOf(31, 0, 0, 8, 1)},
		// Each one gives a sample, also an old one.
		{q, packetAt(9, 3, 11), 12, paceOf(5, 7, 10, 7, 2)}, {q, packetAt(9, 5, 11), 12, paceOf(6, 9, 12, 7, 2)}, {q, packetAt(9, 4, 1), 12, paceOf(5, 7, 10, 9, 2)},
		// An Echo that is none, is now, and is yet to come.
		{q, packetAt(9, 3, 0), 12, q}, {q, packetAt(9, 3, 13), 12, paceOf(5, 7, 10, 6, 2)}, {q, packetAt(9, 3, 14), 12, q}, {q, packetAt(9, 3, 1000000), 12, q},
		{q, packetAt(9, 3, 1), 0, paceOf(5, 7, 10, 6, 2)}, {q, packetAt(9, 3, 2), 0, q}, {q, packetAt(9, 3, 1000000), 999998, q},
		{q, packetAt(9, 3, 1000000), 999999, paceOf(5, 7, 10, 6, 2)}, {q, packetAt(9, 3, 1), 1000000, paceOf(5, 7, 10, 250006, 2)},
		// The first packet of all is newer than none.
		{impl.Pace{}, packetAt(0, 0, 0), 0, impl.Pace{Newest: 1}}, {impl.Pace{}, packetAt(400, 1000000, 1000000), 1000000, paceOf(1000001, 400, 1000000, 1, 1)},
		{impl.Pace{Newest: 1000000}, packetAt(3, 1000000, 0), 8, paceOf(1000001, 3, 8, 0, 0)},
		{impl.Pace{Newest: 1000001}, packetAt(3, 1000000, 0), 8, impl.Pace{Newest: 1000001}},
		{impl.Pace{Newest: 1, Their: 5}, packetAt(3, 0, 0), 8, impl.Pace{Newest: 1, Their: 5}},
	} {
		if got := impl.HearPacket(c.q, c.x, c.now); got != c.want {
			t.Errorf("HearPacket(%v, %v, %d) = %v; want %v", c.q, c.x, c.now, got, c.want)
		}
	}
}

// TestSamplesOfTrips has samples of all sizes, and numbers of samples up to the greatest.
func TestSamplesOfTrips(t *testing.T) {
	for _, c := range []struct{ trip, samples, sample, wantTrip, wantSamples int }{
		{0, 0, 0, 0, 1}, {9, 0, 5, 5, 1}, {1000001, 0, 0, 0, 1}, {8, 1, 8, 8, 2}, {8, 1, 9, 8, 2}, {8, 1, 10, 9, 2}, {8, 1, 7, 8, 2}, {8, 1, 6, 8, 2}, {8, 1, 5, 7, 2},
		{8, 1, 0, 6, 2}, {0, 1, 0, 0, 2}, {0, 1, 1, 0, 2}, {0, 1, 2, 1, 2}, {1, 1, 0, 1, 2}, {2, 1, 0, 2, 2}, {3, 1, 0, 2, 2}, {5, 2, 12, 7, 3}, {7, 3, 12, 8, 4},
		{8, 999998, 8, 8, 999999}, {8, 999999, 0, 6, 1000000}, {8, 1000000, 0, 6, 1000000}, {8, 1000001, 0, 6, 1000001}, {8, 1000001, 40, 16, 1000001},
		{1000001, 4, 1000000, 1000001, 5}, {1000000, 4, 1000000, 1000000, 5}, {1000001, 1000001, 1000000, 1000001, 1000001}, {1000001, 1, 0, 750001, 2},
	} {
		q := impl.Pace{Newest: 1000001, Their: 3, At: 4, Trip: c.trip, Samples: c.samples}
		want := q
		want.Trip, want.Samples = c.wantTrip, c.wantSamples
		for _, now := range []int{c.sample, (c.sample + 1000000) / 2, 1000000} {
			if echo := now - c.sample + 1; echo <= 1000000 {
				got := impl.HearPacket(q, packetAt(9, 5, echo), now)
				if got != want || !impl.PaceOk(got) {
					t.Errorf("HearPacket(%v, Echo %d, %d) = %v; want %v", q, echo, now, got, want)
				}
			}
		}
	}
}

func TestHearPacketRejects(t *testing.T) {
	check := func(q impl.Pace, x impl.Packet, now int) {
		t.Helper()
		if got := impl.HearPacket(q, x, now); got != q {
			t.Errorf("HearPacket(%v, %v, %d) = %v", q, x, now, got)
		}
	}
	good := packetAt(9, 500, 3)
	for _, bad := range badPaces() {
		check(bad, good, 12)
	}
	for _, q := range []impl.Pace{{}, paceOf(5, 7, 10, 8, 1)} {
		for _, bad := range badPackets() {
			check(q, bad, 12)
			check(q, bad, 1000000)
		}
		for _, now := range outside(0, 1000000) {
			check(q, good, now)
			check(q, packetAt(9, 500, 0), now)
		}
		check(q, impl.Packet{Tick: 9, Time: 500, Echo: 3}, 12)
	}
}

func TestGuessTick(t *testing.T) {
	for _, c := range []struct {
		q    impl.Pace
		now  int
		want int
	}{
		{paceOf(5, 7, 10, 8, 1), 12, 13}, {paceOf(5, 7, 10, 8, 1), 10, 11}, {paceOf(5, 7, 10, 8, 1), 1000000, 1000001}, {paceOf(5, 7, 10, 0, 0), 11, 8},
		// Half of a trip, rounded down.
		{paceOf(5, 7, 10, 9, 1), 12, 13}, {paceOf(5, 7, 10, 1, 1), 10, 7}, {paceOf(5, 7, 10, 2, 1), 10, 8}, {paceOf(1, 0, 0, 1, 1), 0, 0},
		// The least and the greatest Newest, and a clock at its limits.
		{paceOf(0, 7, 10, 8, 1), 12, 0}, {paceOf(1, 7, 10, 8, 1), 12, 13}, {paceOf(1000001, 7, 10, 8, 1), 12, 13}, {paceOf(1, 7, 0, 0, 0), 0, 7},
		{paceOf(1, 7, 1000000, 6, 0), 1000000, 10}, {paceOf(1, 7, 1000001, 6, 0), 1000000, 0}, {paceOf(1, 7, 1000001, 6, 0), 1000001, 0},
		{paceOf(1000001, 1000001, 0, 1000001, 1000001), 1000000, 2500001},
	} {
		if got := impl.GuessTick(c.q, c.now); got != c.want {
			t.Errorf("GuessTick(%v, %d) = %d; want %d", c.q, c.now, got, c.want)
		}
	}
}

// nothingSaid are paces and clocks of which nothing can be said.
func nothingSaid() map[impl.Pace][]int {
	said := map[impl.Pace][]int{
		paceOf(5, 7, 10, 8, 1): append(outside(10, 1000000), -1, 0), paceOf(5, 7, 0, 8, 1): outside(0, 1000000), paceOf(5, 7, 1000000, 8, 1): outside(1000000, 1000000),
		paceOf(5, 7, 1000001, 8, 1): {0, 1000000, 1000001}, paceOf(0, 7, 10, 8, 1): {10, 11, 1000000}, {}: {0, 1, 1000000},
	}
	for _, bad := range badPaces() {
		said[bad] = []int{0, 10, 12, 1000000, bad.At, bad.At + 1}
	}
	return said
}

func TestNothingSaidOfTicks(t *testing.T) {
	for q, list := range nothingSaid() {
		for _, now := range list {
			if got := impl.GuessTick(q, now); got != 0 {
				t.Errorf("GuessTick(%v, %d) = %d", q, now, got)
			}
			for _, tick := range []int{0, 1, 100, 400} {
				if got := impl.AdvantageOf(q, tick, now); got != 0 {
					t.Errorf("AdvantageOf(%v, %d, %d) = %d", q, tick, now, got)
				}
				if impl.ShouldWait([]impl.Pace{q, q}, tick, now) {
					t.Errorf("ShouldWait for %v at %d, %d", q, tick, now)
				}
			}
		}
	}
}

func TestAdvantageOf(t *testing.T) {
	q := paceOf(5, 7, 10, 8, 1)
	for _, c := range []struct {
		q               impl.Pace
		tick, now, want int
	}{
		{q, 15, 12, 2}, {q, 13, 12, 0}, {q, 12, 12, -1}, {q, 0, 12, -13}, {q, 400, 12, 387}, {q, 399, 10, 388}, {q, 400, 1000000, -999601}, {q, 0, 10, -11},
		{q, 401, 12, 0}, {q, -1, 12, 0}, {q, math.MaxInt, 12, 0}, {q, math.MinInt, 12, 0}, {impl.Pace{Newest: 1}, 0, 0, 0}, {impl.Pace{Newest: 1}, 400, 0, 400},
	} {
		if got := impl.AdvantageOf(c.q, c.tick, c.now); got != c.want {
			t.Errorf("AdvantageOf(%v, %d, %d) = %d; want %d", c.q, c.tick, c.now, got, c.want)
		}
	}
}

func TestShouldWait(t *testing.T) {
	q := paceOf(5, 7, 10, 8, 1)
	ahead := paceOf(5, 9, 10, 8, 1)
	mute, bad := impl.Pace{At: 10}, paceOf(5, 7, 10, 8, -1)
	for _, c := range []struct {
		list []impl.Pace
		tick int
		now  int
		want bool
	}{
		{[]impl.Pace{q}, 15, 12, true}, {[]impl.Pace{q}, 14, 12, false}, {[]impl.Pace{q}, 16, 12, true}, {[]impl.Pace{q}, 400, 12, true}, {[]impl.Pace{q}, 401, 12, false},
		{[]impl.Pace{q}, 400, 9, false}, {nil, 400, 12, false}, {[]impl.Pace{}, 0, 0, false}, {[]impl.Pace{q}, 0, 1000000, false}, {[]impl.Pace{q}, -1, 12, false},
		// One pace of several is enough, wherever it is.
		{[]impl.Pace{q, ahead}, 15, 12, true}, {[]impl.Pace{ahead, q}, 15, 12, true}, {[]impl.Pace{ahead, ahead, q, ahead}, 15, 12, true},
		{[]impl.Pace{ahead, ahead}, 15, 12, false},
		{[]impl.Pace{ahead, q}, 14, 12, false}, {[]impl.Pace{mute, bad}, 400, 12, false}, {[]impl.Pace{mute, bad, q}, 15, 12, true}, {[]impl.Pace{q, bad, mute}, 15, 12, true},
	} {
		if got := impl.ShouldWait(c.list, c.tick, c.now); got != c.want {
			t.Errorf("ShouldWait(%v, %d, %d) = %v", c.list, c.tick, c.now, got)
		}
	}
}

func TestStampPacket(t *testing.T) {
	for _, x := range append(goodPackets(), badPackets()...) {
		for _, newest := range []int{0, 1, 5, 999999, 1000000} {
			for _, now := range []int{0, 1, 12, 999999, 1000000} {
				q := impl.Pace{Newest: newest, Their: 7, At: 1000001, Trip: 8, Samples: 1}
				want := x
				want.Time, want.Echo = now, newest
				checkStamp(t, x, q, now, want)
			}
		}
	}
}

func checkStamp(t *testing.T, x impl.Packet, q impl.Pace, now int, want impl.Packet) {
	t.Helper()
	if got := impl.StampPacket(x, q, now); !plainPacketSame(got, want) {
		t.Fatalf("StampPacket(%v, %v, %d) = %v; want %v", x, q, now, got, want)
	}
}

func TestStampPacketRejects(t *testing.T) {
	for _, x := range append(goodPackets(), badPackets()...) {
		for _, bad := range badPaces() {
			checkStamp(t, x, bad, 12, x)
		}
		for _, q := range goodPaces() {
			for _, now := range outside(0, 1000000) {
				checkStamp(t, x, q, now, x)
			}
			q.Newest = greatestPace
			checkStamp(t, x, q, 12, x)
		}
	}
}

// TestPacesStayValid lets a pace hear anything, and looks at all that is said of it.
func TestPacesStayValid(t *testing.T) {
	r := rand.New(rand.NewSource(503))
	for range 200 {
		q, now := impl.Pace{}, r.Intn(1000)*r.Intn(1000)
		for range 60 {
			x := randomPacket(r)
			next := impl.HearPacket(q, x, now)
			if want := plainHear(q, x, now); next != want || !impl.PaceOk(next) {
				t.Fatalf("HearPacket(%v, %v, %d) = %v; want %v", q, x, now, next, want)
			}
			q, now = next, min(now+r.Intn(5), 1000000)
			tick := r.Intn(401)
			guess := q.Their + now - q.At + q.Trip/2
			if impl.GuessTick(q, now) != guess || impl.AdvantageOf(q, tick, now) != tick-guess || impl.ShouldWait([]impl.Pace{{}, q}, tick, now) != (tick > guess+1) {
				t.Fatalf("GuessTick %d, AdvantageOf %d of %v at %d", impl.GuessTick(q, now), impl.AdvantageOf(q, tick, now), q, now)
			}
		}
	}
}

// plainHear is HearPacket for a valid pace, packet and clock.
func plainHear(q impl.Pace, x impl.Packet, now int) impl.Pace {
	if q.Newest <= x.Time {
		q.Newest, q.Their, q.At = x.Time+1, x.Tick, now
	}
	sample := now - x.Echo + 1
	if x.Echo == 0 || sample < 0 {
		return q
	}
	weighed := 3*q.Trip + sample + 2
	q.Trip = (weighed - weighed%4) / 4
	if q.Samples == 0 {
		q.Trip = sample
	}
	q.Samples = min(q.Samples+1, 1000000)
	return q
}
