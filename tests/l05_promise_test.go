package tests

import (
	"math/rand"
	"slices"
	"testing"

	"loop.example/g03315/impl"
)

// letter is what was sent over a wire, where no two have the same text. Its times are those at which
// its flights are to arrive.
type letter struct {
	sent  int
	times []int
}

// carrier sends letters over a wire and counts what becomes of them.
type carrier struct {
	wire    impl.Wire
	letters map[string]*letter
	flights int
	arrived []string
}

func newCarrier(t *testing.T, seed int, delay int, jitter int, loss int, copies int, damage int) *carrier {
	t.Helper()
	w, ok := impl.NewWire(seed, delay, jitter, loss, copies, damage)
	if !ok {
		t.Fatal("no wire")
	}
	return &carrier{wire: w, letters: map[string]*letter{}}
}

// send sends a text and notes its flights. It also counts those for which there was no room, and one
// for a text that is lost.
func (c *carrier) send(data string) {
	d := dice{c.wire.Seed}
	if d.below(100) >= c.wire.Loss {
		c.flights += copiesOf(&d, c.wire.Copies)
	} else {
		c.flights++
	}
	l := &letter{sent: c.wire.Now}
	before := len(c.wire.Flights)
	c.wire = impl.SendWire(c.wire, data)
	for _, f := range c.wire.Flights[before:] {
		l.times = append(l.times, f.At)
	}
	c.letters[data] = l
}

// arrive takes what arrives now.
func (c *carrier) arrive() []string {
	var list []string
	c.wire, list = impl.ArriveWire(c.wire)
	c.arrived = append(c.arrived, list...)
	return list
}

// checkCounts sees that nothing is forgotten: what was sent, and its copies, has arrived, is lost or
// is on its way.
func (c *carrier) checkCounts(t *testing.T) {
	t.Helper()
	if !impl.WireOk(c.wire) || len(c.wire.Flights) > 200 || c.wire.Sent != len(c.letters) {
		t.Fatalf("WireOk %v, %d flights, %d of %d sent", impl.WireOk(c.wire), len(c.wire.Flights), c.wire.Sent, len(c.letters))
	}
	if got := len(c.arrived) + c.wire.Lost + len(c.wire.Flights); got != c.flights {
		t.Fatalf("%d arrived, %d lost and %d flights, but %d were sent", len(c.arrived), c.wire.Lost, len(c.wire.Flights), c.flights)
	}
	for _, f := range c.wire.Flights {
		if f.At < c.wire.Now || f.At > c.wire.Now+24 {
			t.Fatalf("a flight is to arrive at %d, now it is %d", f.At, c.wire.Now)
		}
	}
}

// textOf is a text of its own for each number.
func textOf(r *rand.Rand, n int) string {
	return impl.FormatInt(n) + ":" + randomText(r, "\x00ab\xff", r.Intn(9))
}

// TestWholeWiresDeliverEverythingOnceAndInTime has wires without loss, copies and damage.
func TestWholeWiresDeliverEverythingOnceAndInTime(t *testing.T) {
	r := rand.New(rand.NewSource(504))
	for delay := range 13 {
		for jitter := range 13 {
			c := newCarrier(t, r.Intn(65536), delay, jitter, 0, 0, 0)
			late := map[int]bool{}
			for now := range 200 + delay + jitter {
				for n := r.Intn(7); n > 0 && now < 200; n-- {
					c.send(textOf(r, len(c.letters)))
				}
				last := -1
				for _, data := range c.arrive() {
					l := c.letters[data]
					if l == nil || len(l.times) != 1 || l.times[0] != now || now < l.sent+delay || now > l.sent+delay+jitter {
						t.Fatalf("%q of %v arrives at %d over a wire with %d and %d", data, l, now, delay, jitter)
					}
					// Without a jitter nothing overtakes anything.
					if jitter == 0 && numberOf(data) <= last {
						t.Fatalf("%q arrives behind %d", data, last)
					}
					last = numberOf(data)
					late[now-l.sent-delay] = true
					l.times = nil
				}
				c.checkCounts(t)
				c.wire = impl.TickWire(c.wire)
			}
			c.arrive()
			if !impl.WireQuiet(c.wire) || c.wire.Lost != 0 || c.wire.Sent != len(c.arrived) || len(c.arrived) != len(c.letters) || len(c.letters) < 300 {
				t.Errorf("%d of %d arrived over a wire with %d and %d: %s", len(c.arrived), len(c.letters), delay, jitter, brief(c.wire))
			}
			if len(late) != jitter+1 {
				t.Errorf("a wire with %d and %d is late by %v", delay, jitter, late)
			}
		}
	}
}

func numberOf(data string) int {
	n, _ := impl.ParseUint(data[:slices.Index([]byte(data), ':')])
	return n
}

// TestWhatDoesNotArriveIsLostOrOnItsWay has wires of all kinds, some with more than they can carry.
func TestWhatDoesNotArriveIsLostOrOnItsWay(t *testing.T) {
	r := rand.New(rand.NewSource(505))
	crowded := 0
	for range 120 {
		percent := func() int { return []int{0, 100, r.Intn(101), r.Intn(30)}[r.Intn(4)] }
		c := newCarrier(t, r.Intn(65536), r.Intn(13), r.Intn(13), percent(), percent(), percent())
		most := 1 + r.Intn(40)
		for now := range 60 {
			for n := r.Intn(most); n > 0; n-- {
				c.send(textOf(r, len(c.letters)))
			}
			if len(c.wire.Flights) == 200 {
				crowded++
			}
			// Whoever does not look now will see it later.
			if now%5 != 3 {
				c.arrive()
				c.checkCounts(t)
			}
			c.wire = impl.TickWire(c.wire)
		}
		for range 24 {
			c.wire = impl.TickWire(c.wire)
		}
		c.arrive()
		c.checkCounts(t)
		if !impl.WireQuiet(c.wire) {
			t.Errorf("a wire is not quiet in the end: %s", brief(c.wire))
		}
		c.checkArrived(t)
	}
	if crowded < 100 {
		t.Errorf("only %d times a wire was full", crowded)
	}
}

// checkArrived sees that nothing has arrived that was not sent, nor more often than it flew.
func (c *carrier) checkArrived(t *testing.T) {
	t.Helper()
	if c.wire.Damage > 0 {
		return
	}
	left := map[string]int{}
	for data, l := range c.letters {
		left[data] = len(l.times)
		if len(l.times) > 1+min(c.wire.Copies, 1) {
			t.Fatalf("%q flies %d times with %d percent", data, len(l.times), c.wire.Copies)
		}
	}
	for _, data := range c.arrived {
		left[data]--
	}
	for data, n := range left {
		if n != 0 {
			t.Fatalf("%q arrives %d times too little", data, n)
		}
	}
}

// TestDamageChangesOneByteAlone sends over wires that damage all, some and nothing.
func TestDamageChangesOneByteAlone(t *testing.T) {
	r := rand.New(rand.NewSource(506))
	for _, percent := range []int{0, 20, 50, 100} {
		w, _ := impl.NewWire(r.Intn(65536), 1, 0, 0, 100, percent)
		damaged := 0
		for range 2000 {
			data := randomText(r, "\x00ab\xff", 1+r.Intn(40))
			w = impl.TickWire(impl.SendWire(w, data))
			var list []string
			w, list = impl.ArriveWire(w)
			if len(list) != 2 {
				t.Fatalf("%q arrives as %q", data, list)
			}
			for _, got := range list {
				_, n := differences(got, data)
				if len(got) != len(data) || n > 1 || n == 0 && percent == 100 || n == 1 && percent == 0 {
					t.Fatalf("%q arrives as %q with %d percent", data, got, percent)
				}
				damaged += n
			}
		}
		if spread := damaged - 40*percent; spread < -400 || spread > 400 {
			t.Errorf("%d of 4000 are damaged with %d percent", damaged, percent)
		}
	}
}

// TestDamagedPacketsAreNotTakenForOthers sends packets, whose seals tell the damage.
func TestDamagedPacketsAreNotTakenForOthers(t *testing.T) {
	r := rand.New(rand.NewSource(507))
	w, _ := impl.NewWire(99, 0, 0, 0, 0, 50)
	read := 0
	for range 2000 {
		x := randomPacket(r)
		var list []string
		w, list = impl.ArriveWire(impl.SendWire(w, impl.EncodePacket(x)))
		if len(list) != 1 {
			t.Fatalf("%v arrives as %q", x, list)
		}
		y, ok := impl.DecodePacket(list[0])
		if ok != (list[0] == impl.EncodePacket(x)) || ok && !plainPacketSame(x, y) {
			t.Fatalf("%v is read as %v, %v", x, y, ok)
		}
		if ok {
			read++
		}
	}
	if read < 800 || read > 1200 {
		t.Errorf("%d of 2000 packets are read", read)
	}
}

// talker is one of two peers who tell each other their ticks over wires.
type talker struct {
	pace impl.Pace
	tick int
}

// tell sends a stamped packet.
func (p *talker) tell(from int, w impl.Wire, now int) impl.Wire {
	x := impl.Packet{From: from, Tick: p.tick, Acks: []int{0, 0}}
	return impl.SendWire(w, impl.EncodePacket(impl.StampPacket(x, p.pace, now)))
}

// hear hears all packets that arrive and can be read.
func (p *talker) hear(w impl.Wire, now int) impl.Wire {
	next, list := impl.ArriveWire(w)
	for _, data := range list {
		if x, ok := impl.DecodePacket(data); ok {
			p.pace = impl.HearPacket(p.pace, x, now)
		}
	}
	return next
}

// TestFixedDelaysAreEstimatedRightly lets two peers talk over wires with fixed delays. The second one
// hears and tells behind the first one, so that its way back takes one unit at least.
func TestFixedDelaysAreEstimatedRightly(t *testing.T) {
	for out := range 13 {
		for back := 1; back < 13; back++ {
			there, _ := impl.NewWire(1, out, 0, 0, 0, 0)
			here, _ := impl.NewWire(2, back, 0, 0, 0, 0)
			first, second := &talker{tick: 0}, &talker{tick: 25}
			for now := range 300 {
				here = first.hear(here, now)
				there = first.tell(0, there, now)
				there = second.hear(there, now)
				here = second.tell(1, here, now)
				checkTalk(t, first.pace, now, out, back, second.tick)
				checkTalk(t, second.pace, now, back, out, first.tick)
				first.tick, second.tick = now+1, now+26
				there, here = impl.TickWire(there), impl.TickWire(here)
			}
		}
	}
}

// checkTalk sees what a pace knows that hears packets which were on their way for some time, and whose
// own packets take another time. Both peers go ahead by one tick in each unit.
func checkTalk(t *testing.T, q impl.Pace, now int, out int, back int, tick int) {
	t.Helper()
	if now < back {
		if q != (impl.Pace{}) {
			t.Fatalf("at %d something was heard over a wire with %d: %v", now, back, q)
		}
		return
	}
	if q.Newest != now-back+1 || q.At != now || q.Their != tick-back {
		t.Fatalf("at %d over wires with %d and %d the pace is %v; the other tick is %d", now, out, back, q, tick)
	}
	if now < out+back {
		if q.Samples != 0 || q.Trip != 0 {
			t.Fatalf("at %d there are samples over wires with %d and %d: %v", now, out, back, q)
		}
		return
	}
	if q.Trip != out+back || q.Samples != now-out-back+1 {
		t.Fatalf("at %d over wires with %d and %d the pace is %v", now, out, back, q)
	}
	// Half of the trip is what the way here takes, if both ways take the same time.
	for later := range 4 {
		off := (out+back)/2 - back
		if got := impl.GuessTick(q, now+later); got != tick+later+off || out == back && got != tick+later {
			t.Fatalf("GuessTick %d units after %d over wires with %d and %d = %d; want %d", later, now, out, back, got, tick+later+off)
		}
		for own := max(tick-3, 0); own < tick+4; own++ {
			if got := impl.AdvantageOf(q, own, now+later); got != own-tick-later-off {
				t.Fatalf("AdvantageOf %d at %d over wires with %d and %d = %d", own, now+later, out, back, got)
			}
			if got := impl.ShouldWait([]impl.Pace{q}, own, now+later); got != (own-tick-later-off >= 2) {
				t.Fatalf("ShouldWait with %d at %d over wires with %d and %d = %v", own, now+later, out, back, got)
			}
		}
	}
}

// TestWaitingBringsPeersTogether has a peer that is ahead of the other one in the beginning.
func TestWaitingBringsPeersTogether(t *testing.T) {
	for delay := 1; delay < 13; delay++ {
		for _, lead := range []int{0, 1, 2, 3, 10, 50} {
			wires := [2]impl.Wire{{Seed: 3, Delay: delay}, {Seed: 4, Delay: delay}}
			peers := [2]talker{{tick: lead}, {}}
			for now := range 200 {
				for k := range peers {
					p := &peers[k]
					wires[k] = p.hear(wires[k], now)
					if !impl.ShouldWait([]impl.Pace{p.pace}, p.tick, now) {
						p.tick++
					}
					wires[1-k] = p.tell(k, wires[1-k], now)
				}
				for k := range wires {
					wires[k] = impl.TickWire(wires[k])
				}
			}
			if apart := peers[0].tick - peers[1].tick; apart < -2 || apart > 2 || max(peers[0].tick, peers[1].tick) < 150 {
				t.Errorf("over %d units, %d ahead: the peers end at %d and %d", delay, lead, peers[0].tick, peers[1].tick)
			}
		}
	}
}

// TestPacesOverAnyWires has packets that are lost, copied, damaged and overtaken: none of them makes
// anything older, and no trip is shorter than the wires allow.
func TestPacesOverAnyWires(t *testing.T) {
	r := rand.New(rand.NewSource(508))
	for range 60 {
		delay, jitter := 1+r.Intn(12), r.Intn(13)
		var wires [2]impl.Wire
		for k := range wires {
			wires[k] = impl.Wire{Seed: r.Intn(65536), Delay: delay, Jitter: jitter, Loss: r.Intn(60), Copies: r.Intn(101), Damage: r.Intn(60)}
		}
		var peers [2]talker
		for now := range 400 {
			for k := range peers {
				p := &peers[k]
				before := p.pace
				wires[k] = p.hear(wires[k], now)
				checkPace(t, before, p.pace, now, delay)
				wires[1-k] = p.tell(k, wires[1-k], now)
				p.tick = now + 1
			}
			for k := range wires {
				wires[k] = impl.TickWire(wires[k])
			}
		}
		if peers[0].pace.Samples < 20 {
			t.Errorf("the paces over %v have heard little: %v", wires[0], peers)
		}
	}
}

func checkPace(t *testing.T, before impl.Pace, q impl.Pace, now int, delay int) {
	t.Helper()
	if q.Newest < before.Newest || q.At < before.At || q.Their < before.Their || q.Samples < before.Samples || !impl.PaceOk(q) {
		t.Fatalf("%v becomes %v", before, q)
	}
	if q.Newest == before.Newest && (q.At != before.At || q.Their != before.Their) || q.Newest > before.Newest && q.At != now {
		t.Fatalf("%v becomes %v at %d", before, q, now)
	}
	// A packet tells the tick that its sender had at its time.
	if q.Newest > 0 && (q.Their != q.Newest-1 || q.At < q.Newest-1+delay) || q.Samples > 0 && q.Trip < 2*delay {
		t.Fatalf("%v over wires with the delay %d", q, delay)
	}
}
