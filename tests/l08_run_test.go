package tests

import (
	"math"
	"math/rand"
	"testing"

	"loop.example/g03315/impl"
)

// byHand is a unit of time, put together from the functions for single peers and watchers.
func byHand(m impl.Match, all bool) impl.Match {
	for i := range m.Peers {
		for j := range m.Peers {
			m = impl.HearPeer(m, i, j)
		}
		if all {
			m = impl.PlayPeer(m, i)
		} else {
			m = copiedMatch(m)
			m.Peers[i] = impl.Confirm(m.Peers[i])
		}
		for j := range m.Peers {
			m = impl.TellPeer(m, i, j)
		}
	}
	for k := range m.Watchers {
		m = impl.ServeWatcher(m, k)
	}
	m = copiedMatch(m)
	plainWires(&m, func(w *impl.Wire) { *w = impl.TickWire(*w) })
	return m
}

// roughMatches are matches that have gone on for some time, with faults, watchers and what wires do.
func roughMatches(t *testing.T, r *rand.Rand, n int) []impl.Match {
	t.Helper()
	list := []impl.Match{busyMatch(t), calmMatch(t), wrongMatch(t)}
	for range n {
		players := 1 + r.Intn(4)
		faults := make([]impl.Fault, players)
		faults[r.Intn(players)] = impl.Fault{Tick: 1 + r.Intn(30), Player: r.Intn(players), Add: r.Intn(10)}
		m := impl.RunMatch(roughMatch(t, r, players, faults...), r.Intn(80))
		for range r.Intn(4) {
			m, _ = impl.JoinWatcher(m)
			m = impl.RunMatch(m, r.Intn(12))
		}
		list = append(list, m)
	}
	return list
}

func TestStepMatch(t *testing.T) {
	r := rand.New(rand.NewSource(804))
	for _, m := range roughMatches(t, r, 30) {
		want := byHand(m, true)
		want.Clock++
		got := impl.StepMatch(m)
		wantMatch(t, "StepMatch", got, want)
		for range 4 {
			want = plainStepMatch(got)
			got = impl.StepMatch(got)
			wantMatch(t, "StepMatch", got, want)
		}
	}
}

func TestStepMatchAtTheLastClock(t *testing.T) {
	m := busyMatch(t)
	for _, clock := range []int{0, 998, 999} {
		m.Clock = clock
		got := impl.StepMatch(m)
		wantMatch(t, "StepMatch", got, plainStepMatch(m))
		if got.Clock != clock+1 || got.Wires[0][1].Now != m.Wires[0][1].Now+1 {
			t.Errorf("the clock goes from %d to %d", clock, got.Clock)
		}
	}
	m.Clock = 1000
	wantMatch(t, "StepMatch at the last clock", impl.StepMatch(m), m)
	wantMatch(t, "RunMatch at the last clock", impl.RunMatch(m, 5), m)
	m.Clock = 997
	want := m
	for range 3 {
		want = plainStepMatch(want)
	}
	wantMatch(t, "RunMatch up to the last clock", impl.RunMatch(m, 1000), want)
}

func TestRunMatch(t *testing.T) {
	r := rand.New(rand.NewSource(805))
	for _, m := range roughMatches(t, r, 6) {
		for _, n := range []int{-1, 1001, math.MinInt, math.MaxInt, 0} {
			wantMatch(t, "RunMatch of "+impl.FormatInt(n), impl.RunMatch(m, n), m)
		}
		want := m
		for n := range 25 {
			wantMatch(t, "RunMatch of "+impl.FormatInt(n), impl.RunMatch(m, n), want)
			want = impl.StepMatch(want)
		}
	}
}

// TestRunMatchToTheEnd plays all ticks that there are; the clock ends later.
func TestRunMatchToTheEnd(t *testing.T) {
	for players := 1; players <= 4; players++ {
		m := matchOf(t, players, players, 8, impl.Wire{Seed: 3, Delay: 1, Jitter: 1})
		end := impl.RunMatch(m, 1000)
		if end.Clock != 1000 || impl.TicksApart(end) != 0 {
			t.Errorf("the clock is %d", end.Clock)
		}
		g := scripted(m, impl.Fault{})
		for i, p := range end.Peers {
			if p.Base.Tick != 400 || p.Now.Tick != 400 || !plainSame(p.Base, g.worlds[400]) || len(p.Tracks[i].Inputs) != 400 {
				t.Errorf("peer %d comes to %d and %d", i, p.Base.Tick, p.Now.Tick)
			}
		}
		wantMatch(t, "RunMatch again", impl.RunMatch(end, 1000), end)
	}
}

func TestSettleMatch(t *testing.T) {
	r := rand.New(rand.NewSource(806))
	for k, m := range roughMatches(t, r, 20) {
		want := plainSettle(m)
		got := impl.SettleMatch(m)
		wantMatch(t, "SettleMatch", got, want)
		if k < 6 {
			hand := impl.MendWires(m)
			for range 30 {
				hand = byHand(hand, false)
			}
			wantMatch(t, "SettleMatch by hand", hand, want)
		}
		for i, p := range got.Peers {
			if p.Now.Tick != m.Peers[i].Now.Tick || len(p.Tracks[i].Inputs) != len(m.Peers[i].Tracks[i].Inputs) {
				t.Error("somebody plays while the match settles")
			}
		}
	}
	// Who hears nothing confirms even so.
	alone := matchOf(t, 1, 1, 8, impl.Wire{})
	for range 5 {
		alone.Peers[0], _ = impl.PressInput(alone.Peers[0], 2)
		alone.Peers[0], _ = impl.Advance(alone.Peers[0])
	}
	if got := impl.SettleMatch(alone); got.Peers[0].Base.Tick != 5 || alone.Peers[0].Base.Tick != 0 {
		t.Errorf("a peer that is alone confirms %d while the match settles", got.Peers[0].Base.Tick)
	}
	m := busyMatch(t)
	m.Clock = 1000
	if got := impl.SettleMatch(m); got.Clock != 1000 || got.Peers[0].Base.Tick <= m.Peers[0].Base.Tick {
		t.Error("the match does not settle at the last clock")
	}
}

func TestSetWire(t *testing.T) {
	m := busyMatch(t)
	for _, w := range []impl.Wire{
		{}, {Delay: 12}, {Jitter: 12}, {Loss: 100}, {Copies: 100}, {Damage: 100}, {Seed: 3, Delay: 1, Jitter: 2, Loss: 3, Copies: 4, Damage: 5, Now: 6, Flights: flightsAt(7), Sent: 8, Lost: 9},
		greatestWire(), busyWire(),
	} {
		for i := range 3 {
			for j := range 3 {
				want := copiedMatch(m)
				if i != j {
					set := &want.Wires[i][j]
					set.Delay, set.Jitter, set.Loss, set.Copies, set.Damage = w.Delay, w.Jitter, w.Loss, w.Copies, w.Damage
				}
				got, ok := impl.SetWire(m, i, j, w)
				mustMatch(t, "SetWire", got, ok, want, i != j)
			}
		}
	}
	for _, pair := range pairsOfNobody() {
		got, ok := impl.SetWire(m, pair[0], pair[1], impl.Wire{Delay: 1})
		mustMatch(t, "SetWire of nobody", got, ok, m, false)
	}
	for _, bad := range badWires()[:90] {
		got, ok := impl.SetWire(m, 0, 1, bad)
		mustMatch(t, "SetWire of a bad wire", got, ok, m, false)
	}
}

// TestSetWireRejects has one number of a wire at its limits and past them.
func TestSetWireRejects(t *testing.T) {
	m := calmMatch(t)
	for name, c := range map[string]struct {
		high int
		set  func(w *impl.Wire, n int)
		get  func(w impl.Wire) int
	}{
		"Delay":  {12, func(w *impl.Wire, n int) { w.Delay = n }, func(w impl.Wire) int { return w.Delay }},
		"Jitter": {12, func(w *impl.Wire, n int) { w.Jitter = n }, func(w impl.Wire) int { return w.Jitter }},
		"Loss":   {100, func(w *impl.Wire, n int) { w.Loss = n }, func(w impl.Wire) int { return w.Loss }},
		"Copies": {100, func(w *impl.Wire, n int) { w.Copies = n }, func(w impl.Wire) int { return w.Copies }},
		"Damage": {100, func(w *impl.Wire, n int) { w.Damage = n }, func(w impl.Wire) int { return w.Damage }},
	} {
		for _, n := range append(outside(0, c.high), 0, 1, c.high-1, c.high) {
			w := impl.Wire{Delay: 2}
			c.set(&w, n)
			got, ok := impl.SetWire(m, 2, 1, w)
			if fits := n >= 0 && n <= c.high; ok != fits || fits && c.get(got.Wires[2][1]) != n {
				t.Errorf("SetWire of the %s %d gives %v and %d", name, n, ok, c.get(got.Wires[2][1]))
			}
			acted, ok := impl.DoAct(m, impl.Act{Kind: impl.ActWire, From: 2, To: 1, Wire: w})
			mustMatch(t, "ActWire", acted, ok, got, n >= 0 && n <= c.high)
		}
	}
}

func TestMendWires(t *testing.T) {
	r := rand.New(rand.NewSource(807))
	for _, m := range roughMatches(t, r, 10) {
		plainWires(&m, func(w *impl.Wire) {
			if r.Intn(3) == 0 {
				*w = randomWire(r)
			}
		})
		got := impl.MendWires(m)
		wantMatch(t, "MendWires", got, plainMend(m))
		wantMatch(t, "MendWires again", impl.MendWires(got), got)
	}
	// What was sent twice still is, and what is on its way remains.
	m := impl.MendWires(matchOf(t, 2, 1, 4, busyWire()))
	if w := (impl.Wire{Seed: 4711, Delay: 1, Copies: 40}); !sameWire(m.Wires[0][0], w) {
		t.Error("the wire that is mended is", m.Wires[0][0])
	}
}

// strangeMatch is a valid match of which little follows from the scripts.
func strangeMatch(r *rand.Rand, m impl.Match) impl.Match {
	m = copiedMatch(m)
	var texts []string
	plainWires(&m, func(w *impl.Wire) {
		for _, f := range w.Flights {
			texts = append(texts, f.Data)
		}
	})
	plainWires(&m, func(w *impl.Wire) {
		switch {
		case r.Intn(4) == 0:
			*w = randomWire(r)
		case len(texts) > 0:
			w.Flights = append(w.Flights, impl.Flight{At: w.Now + r.Intn(2), Data: texts[r.Intn(len(texts))]})
		}
	})
	for i := range m.Peers {
		strangePeer(r, &m.Peers[i])
		for j := range m.Peers {
			if r.Intn(4) == 0 {
				m.Acks[i][j] = r.Intn(len(m.Peers[i].Tracks[i].Inputs) + 1)
			}
			if r.Intn(8) == 0 {
				m.Paces[i][j] = paceOf(r.Intn(100), r.Intn(100), r.Intn(100), r.Intn(20), r.Intn(9))
			}
		}
	}
	for k := range m.Watchers {
		if w := &m.Watchers[k].World; r.Intn(2) == 0 {
			w.Tick, w.Seed = []int{r.Intn(60), 400, 99999, 100000}[r.Intn(4)], r.Intn(65536)
		}
	}
	if r.Intn(3) == 0 {
		m.Bad, m.Clock = 1000000-r.Intn(2), r.Intn(996)
	}
	return m
}

// strangePeer changes some of what a valid peer has.
func strangePeer(r *rand.Rand, p *impl.Peer) {
	if len(p.Saves) > 0 {
		save, row := &p.Saves[r.Intn(len(p.Saves))], p.Used[r.Intn(len(p.Used))]
		switch r.Intn(6) {
		case 0:
			save.Delta = []string{"", "x", p.Saves[0].Delta}[r.Intn(3)]
		case 1, 2:
			row[r.Intn(len(row))] = r.Intn(16)
		case 3:
			p.Now.Seed, p.Now.Scores[0] = r.Intn(65536), r.Intn(9)
		}
	}
	inputs := p.Tracks[r.Intn(len(p.Tracks))].Inputs
	if r.Intn(3) == 0 && len(inputs) > 0 {
		inputs[r.Intn(len(inputs))] = r.Intn(16)
	}
	if r.Intn(3) == 0 {
		p.Sums[r.Intn(len(p.Sums))] = r.Intn(65536)
	}
	if r.Intn(6) == 0 {
		p.Rolls, p.Again = 1000000, 1000000
	}
}

// TestStrangeMatchesGoOn compares steps of matches that are only just valid with the functions for single
// peers, each of which asks anew whether the match is valid.
func TestStrangeMatchesGoOn(t *testing.T) {
	r := rand.New(rand.NewSource(815))
	for range 4 {
		for _, m := range roughMatches(t, r, 12) {
			m = strangeMatch(r, m)
			if !impl.MatchOk(m) {
				t.Fatal("the strange match is not valid")
			}
			want := m
			for range 5 {
				want = byHand(want, true)
				want.Clock++
			}
			got := impl.RunMatch(m, 5)
			wantMatch(t, "RunMatch", got, want)
			if !impl.MatchOk(got) {
				t.Fatal("the strange match does not remain valid")
			}
			wantMatch(t, "SettleMatch", impl.SettleMatch(m), plainSettle(m))
		}
	}
}
