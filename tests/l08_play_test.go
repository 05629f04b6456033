package tests

import (
	"math/rand"
	"slices"
	"testing"

	"loop.example/g03315/impl"
)

// played sees that PlayPeer changes nothing but a peer, and returns it.
func played(t *testing.T, m impl.Match, i int) impl.Peer {
	t.Helper()
	got := impl.PlayPeer(m, i)
	if len(got.Peers) != len(m.Peers) {
		t.Fatal("PlayPeer gives", len(got.Peers), "peers")
	}
	wantMatch(t, "PlayPeer", got, changedMatch(m, func(m *impl.Match) { m.Peers[i] = got.Peers[i] }))
	return got.Peers[i]
}

func TestPlayPeer(t *testing.T) {
	for players := 1; players <= 4; players++ {
		for delay := range 6 {
			m := matchOf(t, players, delay, 3, impl.Wire{Delay: 3})
			for i := range players {
				want := m.Peers[i]
				for tick := range 3 {
					want, _ = impl.PressInput(want, plainTrue(&m, i, tick+delay))
					want, _ = impl.Advance(want)
					want = impl.Confirm(want)
					m.Peers[i] = played(t, m, i)
					if !samePeer(m.Peers[i], want) || want.Now.Tick != tick+1 || len(want.Tracks[i].Inputs) != tick+1+delay {
						t.Fatalf("PlayPeer %d gives\n%s; want\n%s", i, brief(m.Peers[i]), brief(want))
					}
				}
			}
		}
	}
}

// TestPlayPeerThatCannotAdvance has peers that are as far ahead as they may be. An input is pressed
// once more, and then no other.
func TestPlayPeerThatCannotAdvance(t *testing.T) {
	m := matchOf(t, 2, 0, 3, impl.Wire{Delay: 3})
	for tick := range 6 {
		p := played(t, m, 1)
		if p.Now.Tick != min(tick+1, 3) || len(p.Tracks[1].Inputs) != min(tick+1, 4) || p.Base.Tick != 0 {
			t.Fatalf("the peer is at %d and has %d inputs", p.Now.Tick, len(p.Tracks[1].Inputs))
		}
		if want := impl.ScriptRows(m.Scripts, 0, 4)[min(tick, 3)][1]; p.Tracks[1].Inputs[min(tick, 3)] != want {
			t.Fatalf("the peer presses %v", p.Tracks[1].Inputs)
		}
		m.Peers[1] = p
	}
}

// TestPlayPeerWithOtherInputs has peers with more or fewer inputs than those up to the delay.
func TestPlayPeerWithOtherInputs(t *testing.T) {
	m := calmMatch(t)
	p := m.Peers[2]
	now := p.Now.Tick
	for n := now; n <= now+6; n++ {
		if n >= len(p.Tracks[2].Inputs) {
			m.Peers[2] = changedPeer(p, func(p *impl.Peer) {
				p.Tracks[2].Inputs = append(p.Tracks[2].Inputs, make([]int, n-len(p.Tracks[2].Inputs))...)
			})
		} else {
			m.Peers[2] = changedPeer(p, func(p *impl.Peer) { p.Tracks[2].Inputs = p.Tracks[2].Inputs[:n] })
		}
		m.Acks[2] = []int{0, 0, 0}
		q := played(t, m, 2)
		pressed := len(q.Tracks[2].Inputs) - n
		advanced := q.Now.Tick - now
		if wantPressed, wantAdvanced := countIf(n == now+1), countIf(n > now); pressed != wantPressed || advanced != wantAdvanced {
			t.Errorf("with %d inputs at %d, %d are pressed and %d ticks played", n, now, pressed, advanced)
		}
	}
}

func countIf(yes bool) int {
	if yes {
		return 1
	}
	return 0
}

// TestPlayPeerThatWaits has paces by which another peer is behind, also that of the peer to itself.
func TestPlayPeerThatWaits(t *testing.T) {
	m := calmMatch(t)
	now := m.Peers[1].Now.Tick
	for j := range 3 {
		for _, c := range []struct{ their, at, clock, advanced int }{
			{now, 30, 30, 1}, {now - 1, 30, 30, 1}, {now - 2, 30, 30, 0}, {0, 30, 30, 0}, {now - 2, 29, 30, 1}, {now - 3, 29, 30, 0}, {now - 3, 28, 30, 1},
			{now - 2, 31, 30, 1}, {now - 2, 999, 1000, 1}, {now - 3, 999, 1000, 0},
		} {
			waiting := changedMatch(m, func(m *impl.Match) {
				m.Clock = c.clock
				m.Paces[1] = make([]impl.Pace, 3)
				m.Paces[1][j] = paceOf(1, c.their, c.at, 0, 0)
			})
			p := played(t, waiting, 1)
			if got := p.Now.Tick - now; got != c.advanced || len(p.Tracks[1].Inputs) != len(m.Peers[1].Tracks[1].Inputs)+c.advanced {
				t.Errorf("with the other at %d since %d, the clock %d and now %d, %d ticks are played", c.their, c.at, c.clock, now, got)
			}
			// The paces of others do not count.
			waiting.Paces[0], waiting.Paces[1] = waiting.Paces[1], make([]impl.Pace, 3)
			if p := played(t, waiting, 1); p.Now.Tick != now+1 {
				t.Error("a pace of another peer counts")
			}
		}
	}
}

// TestPlayPeerConfirms has a peer that may confirm more, whether it plays or waits.
func TestPlayPeerConfirms(t *testing.T) {
	m := calmMatch(t)
	p := m.Peers[0]
	for k := 1; k < 3; k++ {
		x := impl.Packet{From: k, First: len(p.Tracks[k].Inputs), Inputs: m.Peers[k].Tracks[k].Inputs[len(p.Tracks[k].Inputs):], Acks: []int{0, 0, 0}}
		p.Tracks, _ = impl.TakePacket(p.Tracks, x)
	}
	p.Used, p.Saves, p.Now = nil, nil, p.Base
	m.Acks[0] = []int{0, 0, 0}
	for range 2 {
		p, _ = impl.Advance(p)
	}
	m.Peers[0] = p
	if !impl.MatchOk(m) || p.Now.Tick != p.Base.Tick+2 || impl.KnownTicks(p.Tracks) < p.Base.Tick+3 {
		t.Fatal("nothing can be confirmed")
	}
	for _, waits := range []bool{false, true} {
		m.Paces[0] = []impl.Pace{{}, {}, {}}
		if waits {
			m.Paces[0][2] = paceOf(1, 0, m.Clock, 0, 0)
		}
		q := played(t, m, 0)
		wantNow := p.Now.Tick + countIf(!waits)
		if want := min(wantNow, impl.KnownTicks(q.Tracks)); q.Base.Tick != want || q.Now.Tick != wantNow || q.Base.Tick < p.Base.Tick+2 {
			t.Errorf("the peer comes to %d and confirms %d; want %d and %d", q.Now.Tick, q.Base.Tick, wantNow, want)
		}
	}
}

// TestPlayPeerToTheEnd has peers whose tracks are full.
func TestPlayPeerToTheEnd(t *testing.T) {
	for delay := range 6 {
		m := matchOf(t, 1, delay, 8, impl.Wire{})
		for n := 1; n <= 403; n++ {
			m.Peers[0] = played(t, m, 0)
			p := m.Peers[0]
			if tick := min(n, 400); p.Now.Tick != tick || p.Base.Tick != tick || len(p.Tracks[0].Inputs) != min(n+delay, 400) {
				t.Fatalf("after %d steps the peer is at %d and %d with %d inputs", n, p.Base.Tick, p.Now.Tick, len(p.Tracks[0].Inputs))
			}
		}
	}
}

func TestPlayNobody(t *testing.T) {
	m := busyMatch(t)
	for _, i := range outside(0, 2) {
		wantMatch(t, "PlayPeer of nobody", impl.PlayPeer(m, i), m)
	}
}

// TestTellPeer also has inputs that are not told at once, and paces that are not stamped.
func TestTellPeer(t *testing.T) {
	m := calmMatch(t)
	for _, ack := range []int{0, 1, 5, len(m.Peers[1].Tracks[1].Inputs)} {
		for _, q := range []impl.Pace{{}, paceOf(5, 7, 9, 1, 1), {Newest: 1000000}, {Newest: 1000001}} {
			m.Acks[1][2], m.Paces[1][2] = ack, q
			want := copiedMatch(m)
			plainTellPeer(&want, 1, 2)
			got := impl.TellPeer(m, 1, 2)
			wantMatch(t, "TellPeer", got, want)
			flights := got.Wires[1][2].Flights
			x, ok := impl.DecodePacket(flights[len(flights)-1].Data)
			if !ok || x.From != 1 || x.First != ack || len(x.Inputs) != min(len(m.Peers[1].Tracks[1].Inputs)-ack, 40) {
				t.Errorf("the packet %v is told with the Ack %d", x, ack)
			}
			wantTime, wantEcho := m.Clock, q.Newest
			if q.Newest > 1000000 {
				wantTime, wantEcho = 0, 0
			}
			if x.Time != wantTime || x.Echo != wantEcho {
				t.Errorf("the packet has the time %d and the echo %d with the pace %v", x.Time, x.Echo, q)
			}
		}
	}
}

// TestTellPeerOnFullWires has wires that lose all, have no room, or count no more.
func TestTellPeerOnFullWires(t *testing.T) {
	m := calmMatch(t)
	for _, w := range []impl.Wire{
		{Loss: 100}, {Copies: 100}, {Damage: 100}, greatestWire(), {Flights: manyFlights(0, 199), Copies: 100}, {Flights: manyFlights(0, 200)}, {Now: 1000000, Delay: 12, Jitter: 12},
	} {
		m.Wires[2][0] = w
		want := copiedMatch(m)
		plainTellPeer(&want, 2, 0)
		if w.Sent < 1000000 && want.Wires[2][0].Sent != w.Sent+1 {
			t.Fatal("nothing is sent")
		}
		got := impl.TellPeer(m, 2, 0)
		wantMatch(t, "TellPeer", got, want)
		if !impl.MatchOk(got) {
			t.Error("the match is not valid with the wire", brief(w))
		}
	}
}

// TestPlayAndTellAsTheyShould compares matches that go on with the second reading.
func TestPlayAndTellAsTheyShould(t *testing.T) {
	r := rand.New(rand.NewSource(802))
	waited := 0
	for range 40 {
		players := 1 + r.Intn(4)
		m := impl.RunMatch(roughMatch(t, r, players), r.Intn(100))
		for range 30 {
			i, j := r.Intn(players), r.Intn(players)
			m.Clock = min(m.Clock+r.Intn(2), 1000)
			want := copiedMatch(m)
			plainPlayPeer(&want, i)
			got := impl.PlayPeer(m, i)
			wantMatch(t, "PlayPeer", got, want)
			waited += countIf(impl.ShouldWait(m.Paces[i], m.Peers[i].Now.Tick, m.Clock))
			if i != j {
				plainTellPeer(&want, i, j)
			}
			got = impl.TellPeer(got, i, j)
			wantMatch(t, "TellPeer", got, want)
			m = impl.HearPeer(got, j, i)
		}
		if slices.ContainsFunc(m.Peers, func(p impl.Peer) bool { return !impl.PeerOk(p) }) {
			t.Fatal("a peer is not valid")
		}
	}
	if waited < 20 {
		t.Errorf("only %d times a peer waits", waited)
	}
}
