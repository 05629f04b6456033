package tests

import (
	"math/rand"
	"slices"
	"testing"

	"loop.example/g03315/impl"
)

// watchedMatch is a match of three players in which peer 0 has confirmed some ticks and plays on, with
// a watcher who has seen others, and the game that they play.
func watchedMatch(t *testing.T, base int, seen int) (impl.Match, *game) {
	t.Helper()
	m := matchOf(t, 3, 2, 8, impl.Wire{Delay: 3})
	g := scripted(m, impl.Fault{})
	now := min(base+3, 400)
	p := plainPeer{game: g, ahead: 8, base: base, now: now, known: []int{min(now+2, 400), min(base+1, 400), base}}
	m.Peers[0] = p.peer()
	m.Watchers = []impl.Spectator{g.at(min(seen, 400), 3)}
	m.Watchers[0].World.Tick = seen
	m.Lines = []impl.Wire{{Seed: 9, Delay: 2, Now: 50}}
	if p.known[0] < base || !impl.MatchOk(m) {
		t.Fatal("the match is not valid")
	}
	return m, g
}

func TestServeWatcherSends(t *testing.T) {
	for _, c := range []struct{ base, seen, rows int }{
		{0, 0, 0}, {1, 0, 1}, {30, 30, 0}, {30, 29, 1}, {30, 11, 19}, {30, 10, 20}, {30, 9, 20}, {30, 0, 20}, {400, 0, 20}, {400, 380, 20}, {400, 399, 1},
		{400, 400, 0}, {400, 379, 20}, {30, 31, 0}, {30, 400, 0}, {0, 5, 0}, {400, 401, 0}, {400, 100000, 0}, {392, 380, 12},
	} {
		m, g := watchedMatch(t, c.base, c.seen)
		want := copiedMatch(m)
		if c.rows > 0 {
			data := impl.EncodeStream(c.seen, g.rows(c.seen, c.seen+c.rows))
			want.Lines[0] = plainSend(m.Lines[0], data)
			if f := want.Lines[0].Flights; len(f) != 1 || f[0].Data != data || f[0].At != 52 {
				t.Fatal("nothing is sent")
			}
		}
		wantMatch(t, "ServeWatcher", impl.ServeWatcher(m, 0), want)
	}
	// No valid peer has confirmed more than tracks can tell.
	m, _ := watchedMatch(t, 400, 399)
	pastTrack(&m.Peers[0])
	wantMatch(t, "ServeWatcher of a peer past MaxTrack", impl.ServeWatcher(m, 0), m)
}

// withLine is a match in which just these data have arrived on the line of a watcher.
func withLine(m impl.Match, k int, data ...string) impl.Match {
	return changedMatch(m, func(m *impl.Match) {
		m.Lines[k].Flights = nil
		for _, text := range data {
			m.Lines[k].Flights = append(m.Lines[k].Flights, impl.Flight{At: m.Lines[k].Now, Data: text})
		}
	})
}

// TestServeWatcherHears has a watcher who has seen all that is confirmed, so that nothing is sent.
func TestServeWatcherHears(t *testing.T) {
	m, g := watchedMatch(t, 0, 9)
	stream := func(first int, end int) string { return impl.EncodeStream(first, g.rows(first, end)) }
	_, spoiled := impl.SpoilByte(7, stream(9, 12))
	for name, c := range map[string]struct {
		data           []string
		tick, gap, bad int
	}{
		"nothing":                 {nil, 9, 0, 0},
		"the next rows":           {[]string{stream(9, 12)}, 12, 0, 0},
		"rows that were seen":     {[]string{stream(0, 9), stream(3, 5)}, 9, 0, 0},
		"rows that overlap":       {[]string{stream(5, 20)}, 20, 0, 0},
		"rows in pieces":          {[]string{stream(9, 10), stream(10, 30), stream(30, 33)}, 33, 0, 0},
		"rows twice":              {[]string{stream(9, 12), stream(9, 12)}, 12, 0, 0},
		"a gap":                   {[]string{stream(10, 12)}, 9, 1, 1},
		"pieces in another order": {[]string{stream(12, 14), stream(9, 12)}, 12, 1, 1},
		"two gaps":                {[]string{stream(10, 12), stream(40, 50)}, 9, 2, 2},
		"a changed byte":          {[]string{spoiled}, 9, 0, 1},
		"what is no stream":       {[]string{"x", impl.EncodePacket(toldBy(t, m, 1, 0)), stream(9, 11)}, 11, 0, 2},
		"rows of two players":     {[]string{impl.EncodeStream(9, [][]int{{1, 2}})}, 9, 0, 1},
		"rows of four players":    {[]string{impl.EncodeStream(10, [][]int{{1, 2, 3, 4}})}, 9, 0, 1},
	} {
		want := withLine(m, 0)
		want.Watchers[0] = g.at(c.tick, 3+c.gap)
		want.Bad = c.bad
		wantMatch(t, "ServeWatcher with "+name, impl.ServeWatcher(withLine(m, 0, c.data...), 0), want)
	}
	for _, n := range []int{0, 999997, 999998, 999999, 1000000} {
		m.Bad = n
		want := withLine(m, 0)
		want.Bad = min(n+2, 1000000)
		want.Watchers[0].Gaps++
		wantMatch(t, "ServeWatcher with much that is bad", impl.ServeWatcher(withLine(m, 0, "x", stream(11, 12)), 0), want)
	}
}

// TestServeWatcherSendsAfterItHeard has rows that arrive before others are sent.
func TestServeWatcherSendsAfterItHeard(t *testing.T) {
	m, g := watchedMatch(t, 30, 5)
	heard := withLine(m, 0, impl.EncodeStream(2, g.rows(2, 9)))
	heard.Lines[0].Flights = append(heard.Lines[0].Flights, impl.Flight{At: 51, Data: "later"})
	want := withLine(m, 0)
	want.Watchers[0] = g.at(9, 3)
	want.Lines[0].Flights = []impl.Flight{{At: 51, Data: "later"}}
	want.Lines[0] = plainSend(want.Lines[0], impl.EncodeStream(9, g.rows(9, 29)))
	wantMatch(t, "ServeWatcher", impl.ServeWatcher(heard, 0), want)
	// Who has heard all is sent nothing.
	m, g = watchedMatch(t, 12, 5)
	got := impl.ServeWatcher(withLine(m, 0, impl.EncodeStream(5, g.rows(5, 12))), 0)
	if got.Lines[0].Sent != 0 || len(got.Lines[0].Flights) != 0 || got.Watchers[0].World.Tick != 12 {
		t.Error("a watcher that has heard all is sent", got.Lines[0])
	}
}

func TestServeWatcherServesOne(t *testing.T) {
	m := busyMatch(t)
	for k := range m.Lines {
		m.Lines[k].Flights = append(m.Lines[k].Flights, impl.Flight{At: 0, Data: "x"})
	}
	for k := range 2 {
		got := impl.ServeWatcher(m, k)
		want := changedMatch(m, func(m *impl.Match) { m.Bad, m.Lines[k], m.Watchers[k] = got.Bad, got.Lines[k], got.Watchers[k] })
		wantMatch(t, "ServeWatcher", got, want)
		if got.Bad <= m.Bad {
			t.Error("the line was not heard")
		}
	}
	for _, k := range outside(0, 1) {
		wantMatch(t, "ServeWatcher of nobody", impl.ServeWatcher(m, k), m)
	}
	calm := calmMatch(t)
	wantMatch(t, "ServeWatcher without watchers", impl.ServeWatcher(calm, 0), calm)
}

// TestServeWatcherAsItShould compares matches that go on with the second reading.
func TestServeWatcherAsItShould(t *testing.T) {
	r := rand.New(rand.NewSource(803))
	for range 20 {
		players := 1 + r.Intn(4)
		m := impl.RunMatch(roughMatch(t, r, players), r.Intn(60))
		m, _ = impl.JoinWatcher(m)
		m = impl.RunMatch(m, r.Intn(60))
		for k := 1; k < 3; k++ {
			m, _ = impl.JoinWatcher(m)
			m.Lines[k] = roughWire(r)
		}
		for range 20 {
			k := r.Intn(3)
			want := copiedMatch(m)
			plainServe(&want, k)
			m = impl.ServeWatcher(m, k)
			wantMatch(t, "ServeWatcher", m, want)
			plainWires(&m, func(w *impl.Wire) { w.Now += r.Intn(3) })
		}
	}
}

func TestJoinWatcher(t *testing.T) {
	for players := 1; players <= 4; players++ {
		m := matchOf(t, players, 1, 4, impl.Wire{})
		last := players - 1
		m.Wires[0][last] = impl.Wire{Seed: 7, Delay: 3, Jitter: 2, Loss: 40, Copies: 20, Damage: 5}
		for n := 1; n <= 4; n++ {
			m = impl.RunMatch(m, 25)
			want := copiedMatch(m)
			if n < 4 {
				w := m.Wires[0][last]
				line := impl.Wire{Seed: 7 * n, Delay: 3, Jitter: 2, Loss: 40, Copies: 20, Damage: 5, Now: w.Now, Sent: w.Sent, Lost: w.Lost}
				want.Watchers = append(want.Watchers, impl.Spectator{World: m.Peers[0].Base})
				want.Lines = append(want.Lines, line)
				if w.Now != 25*n || players > 1 && (w.Sent == 0 || w.Lost == 0 || len(w.Flights) == 0) {
					t.Fatal("nothing was sent to the last peer:", w)
				}
			}
			got, ok := impl.JoinWatcher(m)
			mustMatch(t, "JoinWatcher", got, ok, want, n < 4)
			if !impl.MatchOk(got) || len(got.Watchers) > 3 {
				t.Fatal("who has joined makes the match invalid")
			}
			m = got
		}
	}
}

// TestJoinWatcherSeesWhatPeerSees has a first peer with a fault: the watcher has its world.
func TestJoinWatcherSeesWhatPeerSees(t *testing.T) {
	m := impl.RunMatch(matchOf(t, 2, 1, 4, impl.Wire{Delay: 1}, impl.Fault{Tick: 5, Player: 1, Add: 7}, impl.Fault{}), 20)
	got, ok := impl.JoinWatcher(m)
	if !ok || !plainSame(got.Watchers[0].World, m.Peers[0].Base) || m.Peers[0].Base.Tick < 5 {
		t.Error("the watcher sees", got.Watchers)
	}
	if !impl.JudgePeer(got, 0) || impl.JudgeWatcher(got, 0) || impl.JudgeMatch(got) {
		t.Error("the watcher's world is judged right")
	}
	if slices.Equal(got.Watchers[0].World.Scores, m.Peers[1].Base.Scores) {
		t.Error("there is no fault")
	}
}
