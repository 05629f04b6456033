package tests

import (
	"math"
	"math/rand"
	"slices"
	"testing"

	"loop.example/g03315/impl"
)

// calmMatch is a match of three players on whole wires that has gone on for some time. All have
// inputs that the others do not know.
func calmMatch(t *testing.T) impl.Match {
	t.Helper()
	return impl.RunMatch(matchOf(t, 3, 1, 8, impl.Wire{Delay: 3}), 30)
}

// withData is a match in which just these data have arrived on the wire from a peer to another one.
func withData(m impl.Match, from int, to int, data ...string) impl.Match {
	return changedMatch(m, func(m *impl.Match) {
		w := &m.Wires[from][to]
		w.Flights = nil
		for _, text := range data {
			w.Flights = append(w.Flights, impl.Flight{At: w.Now, Data: text})
		}
	})
}

// toldBy is what a peer tells another one now.
func toldBy(t *testing.T, m impl.Match, from int, to int) impl.Packet {
	t.Helper()
	x, ok := impl.Tell(m.Peers[from], m.Acks[from][to])
	if !ok {
		t.Fatal("peer", from, "tells nothing")
	}
	return impl.StampPacket(x, m.Paces[from][to], m.Clock)
}

// changedPacket is a packet of which one thing is changed.
func changedPacket(x impl.Packet, how func(x *impl.Packet)) impl.Packet {
	x = copiedPacket(x)
	how(&x)
	return x
}

func TestHearPeerTakesAPacket(t *testing.T) {
	m := matchOf(t, 3, 0, 4, impl.Wire{Delay: 2})
	m.Clock = 9
	x := impl.Packet{From: 1, Inputs: []int{1, 1, 5}, Acks: []int{0, 3, 0}, Tick: 3, Time: 7, Sum: m.Peers[0].Sums[0]}
	arrived := withData(m, 1, 0, impl.EncodePacket(x))
	want := changedMatch(m, func(m *impl.Match) {
		m.Peers[0].Tracks[1].Inputs = []int{1, 1, 5}
		m.Paces[0][1] = paceOf(8, 3, 9, 0, 0)
	})
	wantMatch(t, "HearPeer", impl.HearPeer(arrived, 0, 1), want)
	// An echo of the clock 4 gives a sample of 5.
	x.Echo = 5
	want.Paces[0][1] = paceOf(8, 3, 9, 5, 1)
	wantMatch(t, "HearPeer with an echo", impl.HearPeer(withData(m, 1, 0, impl.EncodePacket(x)), 0, 1), want)
	// Nobody else hears it, and nothing else is heard.
	for i := range 3 {
		for j := range 3 {
			if i != 0 || j != 1 {
				wantMatch(t, "HearPeer of others", impl.HearPeer(arrived, i, j), arrived)
			}
		}
	}
}

// TestHearPeerCountsBadData has data that cannot be used, before and behind a packet that can.
func TestHearPeerCountsBadData(t *testing.T) {
	m := calmMatch(t)
	good := toldBy(t, m, 1, 0)
	text := impl.EncodePacket(good)
	_, spoiled := impl.SpoilByte(5, text)
	for name, bad := range map[string]string{
		"one byte": "x", "a changed byte": spoiled, "a byte too few": text[1:], "a byte too many": text + "\x00",
		"a stream":        impl.EncodeStream(0, streamRows(2, 3)),
		"From another":    impl.EncodePacket(toldBy(t, m, 2, 0)),
		"From who hears":  impl.EncodePacket(toldBy(t, m, 0, 1)),
		"two Acks":        impl.EncodePacket(changedPacket(good, func(x *impl.Packet) { x.Acks = x.Acks[:2] })),
		"four Acks":       impl.EncodePacket(changedPacket(good, func(x *impl.Packet) { x.Acks = append(x.Acks, 0) })),
		"a false From":    impl.EncodePacket(changedPacket(good, func(x *impl.Packet) { x.From = 2 })),
		"From nobody yet": impl.EncodePacket(changedPacket(good, func(x *impl.Packet) { x.From, x.Acks = 3, append(x.Acks, 0) })),
	} {
		want := withData(m, 1, 0)
		want.Bad++
		wantMatch(t, "HearPeer of "+name, impl.HearPeer(withData(m, 1, 0, bad), 0, 1), want)
		want = impl.HearPeer(withData(m, 1, 0, text), 0, 1)
		want.Bad += 3
		wantMatch(t, "HearPeer also of "+name, impl.HearPeer(withData(m, 1, 0, bad, bad, text, bad), 0, 1), want)
	}
	if got := impl.HearPeer(withData(m, 1, 0, text), 0, 1); got.Bad != 0 || samePeer(got.Peers[0], m.Peers[0]) {
		t.Error("the good packet says nothing new")
	}
	for _, n := range []int{0, 999997, 999998, 999999, 1000000} {
		m.Bad = n
		want := withData(m, 1, 0)
		want.Bad = min(n+2, 1000000)
		wantMatch(t, "HearPeer with much that is bad", impl.HearPeer(withData(m, 1, 0, "x", "y"), 0, 1), want)
	}
}

// TestHearPeerAcknowledges has Acks around what was known and what there is.
func TestHearPeerAcknowledges(t *testing.T) {
	m := calmMatch(t)
	known, there := m.Acks[0][1], len(m.Peers[0].Tracks[0].Inputs)
	if known+2 > there {
		t.Fatal("nothing is unknown")
	}
	good := toldBy(t, m, 1, 0)
	for ack, want := range map[int]int{
		0: known, known - 1: known, known: known, known + 1: known + 1, there - 1: there - 1, there: there, there + 1: known, 400: known,
	} {
		x := changedPacket(good, func(x *impl.Packet) { x.Acks = []int{ack, 400, 400} })
		got := impl.HearPeer(withData(m, 1, 0, impl.EncodePacket(x)), 0, 1)
		wanted := impl.HearPeer(withData(m, 1, 0, impl.EncodePacket(good)), 0, 1)
		wanted.Acks[0][1] = want
		wantMatch(t, "HearPeer of the Ack "+impl.FormatInt(ack), got, wanted)
	}
	// What is said of another player's inputs does not count, and the greatest one of several does.
	told := func(ack int) string {
		return impl.EncodePacket(changedPacket(good, func(x *impl.Packet) { x.Acks = []int{ack, 0, there} }))
	}
	got := impl.HearPeer(withData(m, 1, 0, told(known+1), told(there), told(there+1), told(known)), 0, 1)
	if want := [][]int{{m.Acks[0][0], there, m.Acks[0][2]}, m.Acks[1], m.Acks[2]}; !sameRows(got.Acks, want) {
		t.Errorf("the Acks are %v; want %v", got.Acks, want)
	}
}

// TestHearPeerWhenLearnRefuses has packets that contradict what is known, or begin too late.
func TestHearPeerWhenLearnRefuses(t *testing.T) {
	m := calmMatch(t)
	good := toldBy(t, m, 1, 0)
	there := len(m.Peers[0].Tracks[0].Inputs)
	for name, how := range map[string]func(x *impl.Packet){
		"a gap":      func(x *impl.Packet) { x.First = len(m.Peers[0].Tracks[1].Inputs) + 1 },
		"other news": func(x *impl.Packet) { x.First, x.Inputs = 5, []int{15 - m.Peers[0].Tracks[1].Inputs[5]} },
	} {
		x := changedPacket(good, func(x *impl.Packet) { how(x); x.Acks[0] = there })
		if _, ok := impl.Learn(m.Peers[0], x); ok {
			t.Fatal("Learn does not refuse", name)
		}
		want := withData(m, 1, 0)
		want.Acks[0][1] = there
		want.Paces[0][1] = plainHear(m.Paces[0][1], x, m.Clock)
		if want.Paces[0][1] == m.Paces[0][1] {
			t.Fatal("the packet says nothing of time")
		}
		wantMatch(t, "HearPeer of "+name, impl.HearPeer(withData(m, 1, 0, impl.EncodePacket(x)), 0, 1), want)
	}
}

// wrongMatch is a match in which peer 1 has a fault that all have passed, and nobody was told.
func wrongMatch(t *testing.T) impl.Match {
	t.Helper()
	m := matchOf(t, 3, 1, 8, impl.Wire{Delay: 3}, impl.Fault{}, impl.Fault{Tick: 7, Player: 2, Add: 3}, impl.Fault{})
	m = impl.RunMatch(m, 30)
	m.Alarms = nil
	if !impl.MatchOk(m) || m.Peers[0].Base.Tick < 10 || m.Peers[1].Base.Tick < 10 {
		t.Fatal("the fault is not passed")
	}
	return m
}

func TestHearPeerAlarms(t *testing.T) {
	m := wrongMatch(t)
	alarm := impl.Alarm{Tick: 7, Parts: []string{"score 2"}}
	good := toldBy(t, m, 1, 0)
	good.SumTick, good.Sum = 8, m.Peers[1].Sums[8]
	late := changedPacket(good, func(x *impl.Packet) { x.First = 400; x.Inputs = nil })
	for name, c := range map[string]struct {
		before []impl.Alarm
		heard  []impl.Packet
		after  []impl.Alarm
	}{
		"one packet":                 {nil, []impl.Packet{good}, []impl.Alarm{alarm}},
		"two packets":                {nil, []impl.Packet{good, good}, []impl.Alarm{alarm}},
		"a packet that is refused":   {nil, []impl.Packet{late}, []impl.Alarm{alarm}},
		"the alarm already":          {[]impl.Alarm{alarm}, []impl.Packet{good}, []impl.Alarm{alarm}},
		"others before":              {[]impl.Alarm{{Tick: 7}, {Tick: 8, Parts: alarm.Parts}}, []impl.Packet{good}, []impl.Alarm{{Tick: 7}, {Tick: 8, Parts: alarm.Parts}, alarm}},
		"the alarm and one behind":   {[]impl.Alarm{alarm, {Tick: 9}}, []impl.Packet{good}, []impl.Alarm{alarm, {Tick: 9}}},
		"a sum that is too far":      {nil, []impl.Packet{changedPacket(good, func(x *impl.Packet) { x.SumTick = 400 })}, nil},
		"a sum before the fault":     {nil, []impl.Packet{changedPacket(good, func(x *impl.Packet) { x.SumTick, x.Sum = 6, m.Peers[1].Sums[6] })}, nil},
		"a sum as it should be":      {nil, []impl.Packet{changedPacket(good, func(x *impl.Packet) { x.Sum = m.Peers[0].Sums[8] })}, nil},
		"a false sum":                {nil, []impl.Packet{changedPacket(good, func(x *impl.Packet) { x.SumTick, x.Sum = 2, 9 })}, []impl.Alarm{alarm}},
		"a packet that is not heard": {nil, nil, nil},
	} {
		before := changedMatch(m, func(m *impl.Match) { m.Alarms = c.before })
		var data []string
		for _, x := range c.heard {
			data = append(data, impl.EncodePacket(x))
		}
		got := impl.HearPeer(withData(before, 1, 0, data...), 0, 1)
		if !slices.EqualFunc(got.Alarms, c.after, sameAlarm) {
			t.Errorf("with %s the alarms are %v; want %v", name, got.Alarms, c.after)
		}
	}
	// The peers 0 and 2 agree: a false sum alone is no difference.
	x := changedPacket(toldBy(t, m, 2, 0), func(x *impl.Packet) { x.SumTick, x.Sum = 8, m.Peers[1].Sums[8] })
	if got := impl.HearPeer(withData(m, 2, 0, impl.EncodePacket(x)), 0, 2); len(got.Alarms) > 0 || got.Bad > 0 {
		t.Errorf("the peers 0 and 2 have the alarms %v", got.Alarms)
	}
}

// TestHearPeerComparesTheTextsOfAlarms has an alarm with a part that reads like two parts.
func TestHearPeerComparesTheTextsOfAlarms(t *testing.T) {
	m := matchOf(t, 3, 1, 8, impl.Wire{Delay: 3}, impl.Fault{}, impl.Fault{Tick: 7, Player: 2, Add: 3}, impl.Fault{Tick: 7, Player: 0, Add: 1})
	m = impl.RunMatch(m, 30)
	x := impl.EncodePacket(toldBy(t, m, 1, 2))
	m.Alarms = nil
	whole := impl.Alarm{Tick: 7, Parts: []string{"score 0", "score 2"}}
	for _, c := range [][2]impl.Alarm{{{Tick: 5}, whole}, {{Tick: 7, Parts: []string{"score 0,score 2"}}, {}}, {{Tick: 7, Parts: []string{"score 2,score 0"}}, whole}} {
		m.Alarms = []impl.Alarm{c[0]}
		want := m.Alarms
		if c[1].Tick > 0 {
			want = []impl.Alarm{c[0], c[1]}
		}
		if got := impl.HearPeer(withData(m, 1, 2, x), 2, 1); !slices.EqualFunc(got.Alarms, want, sameAlarm) {
			t.Errorf("the alarms are %v; want %v", got.Alarms, want)
		}
	}
}

// TestHearPeerSuspectsAfterItLearned has a packet whose inputs let the world be confirmed that its sum
// is about.
func TestHearPeerSuspectsAfterItLearned(t *testing.T) {
	m := wrongMatch(t)
	fresh := matchOf(t, 3, 1, 8, impl.Wire{Delay: 3}, impl.Fault{}, m.Peers[1].Fault, impl.Fault{})
	rows := impl.ScriptRows(m.Scripts, 1, 9)
	p := fresh.Peers[0]
	for tick := range 8 {
		p, _ = impl.PressInput(p, rows[tick+1][0])
		p, _ = impl.Advance(p)
		p, _ = impl.Learn(p, impl.Packet{From: 2, First: tick + 1, Inputs: []int{rows[tick+1][2]}, Acks: []int{0, 0, 0}})
	}
	if p.Now.Tick != 8 || p.Base.Tick != 1 {
		t.Fatal("the peer is at", p.Now.Tick, "and", p.Base.Tick)
	}
	m.Peers[0], m.Acks[0] = p, []int{0, 0, 0}
	x := impl.Packet{From: 1, First: 1, Acks: []int{0, 0, 0}, SumTick: 8, Sum: m.Peers[1].Sums[8]}
	for tick := 1; tick < 9; tick++ {
		x.Inputs = append(x.Inputs, rows[tick][1])
	}
	got := impl.HearPeer(withData(m, 1, 0, impl.EncodePacket(x)), 0, 1)
	if want := []impl.Alarm{{Tick: 7, Parts: []string{"score 2"}}}; got.Peers[0].Base.Tick != 8 || !slices.EqualFunc(got.Alarms, want, sameAlarm) {
		t.Errorf("at %d the alarms are %v; want %v", got.Peers[0].Base.Tick, got.Alarms, want)
	}
}

// TestHearPeerHearsInOrder has flights that arrive in another order than they were sent, and ones that
// do not arrive yet.
func TestHearPeerHearsInOrder(t *testing.T) {
	m := calmMatch(t)
	x := toldBy(t, m, 1, 0)
	known := len(m.Peers[0].Tracks[1].Inputs)
	piece := func(first int) string {
		y := changedPacket(x, func(x *impl.Packet) { x.First, x.Inputs = first, m.Peers[1].Tracks[1].Inputs[first:first+1] })
		return impl.EncodePacket(y)
	}
	if known+2 > len(m.Peers[1].Tracks[1].Inputs) {
		t.Fatal("nothing is unknown")
	}
	now := m.Wires[1][0].Now
	// Who hears the later piece first learns the earlier one alone.
	for _, c := range []struct{ first, second, learned, left int }{
		{now, now - 1, 1, 0}, {now - 1, now, 2, 0}, {now, now, 2, 0}, {now + 1, now, 0, 1}, {now, now + 1, 1, 1}, {now + 1, now + 1, 0, 2},
	} {
		sent := withData(m, 1, 0)
		sent.Wires[1][0].Flights = []impl.Flight{{At: c.first, Data: piece(known)}, {At: c.second, Data: piece(known + 1)}}
		got := impl.HearPeer(sent, 0, 1)
		learned := len(got.Peers[0].Tracks[1].Inputs) - known
		if learned != c.learned || len(got.Wires[1][0].Flights) != c.left {
			t.Errorf("with the flights at %d and %d, %d inputs are learned and %d left at %d", c.first, c.second, learned, len(got.Wires[1][0].Flights), now)
		}
	}
}

// pairsOfNobody are pairs that are not two different peers of three.
func pairsOfNobody() [][2]int {
	list := [][2]int{{0, 0}, {1, 1}, {2, 2}, {3, 3}, {-1, -1}}
	for _, n := range []int{-1, 3, 4, math.MinInt, math.MaxInt} {
		list = append(list, [2]int{0, n}, [2]int{n, 0}, [2]int{2, n}, [2]int{n, 2})
	}
	return list
}

func TestHearAndTellNobody(t *testing.T) {
	m := busyMatch(t)
	// Not even what is on a wire from a peer to itself is heard.
	for i := range 3 {
		m.Wires[i][i].Flights = []impl.Flight{{At: 0, Data: "x"}, {At: 0, Data: impl.EncodePacket(toldBy(t, m, i, (i+1)%3))}}
	}
	wantMatch(t, "StepMatch", impl.StepMatch(m), plainStepMatch(m))
	for _, pair := range pairsOfNobody() {
		wantMatch(t, "HearPeer of nobody", impl.HearPeer(m, pair[0], pair[1]), m)
		wantMatch(t, "TellPeer of nobody", impl.TellPeer(m, pair[0], pair[1]), m)
	}
	alone := impl.RunMatch(matchOf(t, 1, 1, 3, impl.Wire{}), 5)
	wantMatch(t, "HearPeer of a peer that is alone", impl.HearPeer(alone, 0, 0), alone)
	wantMatch(t, "TellPeer of a peer that is alone", impl.TellPeer(alone, 0, 0), alone)
}

// TestHearPeerAsItShould compares matches that go on with the second reading.
func TestHearPeerAsItShould(t *testing.T) {
	r := rand.New(rand.NewSource(801))
	for range 30 {
		players := 2 + r.Intn(3)
		faults := make([]impl.Fault, players)
		faults[r.Intn(players)] = impl.Fault{Tick: 1 + r.Intn(20), Player: r.Intn(players), Add: 3}
		m := impl.RunMatch(roughMatch(t, r, players, faults...), r.Intn(60))
		for range 10 {
			i, j := r.Intn(players), r.Intn(players)
			want := copiedMatch(m)
			if i != j {
				plainHearPeer(&want, i, j)
			}
			got := impl.HearPeer(m, i, j)
			wantMatch(t, "HearPeer", got, want)
			m = impl.TellPeer(got, j, i)
			for range r.Intn(4) {
				plainWires(&m, func(w *impl.Wire) { *w = impl.TickWire(*w) })
			}
		}
	}
}
