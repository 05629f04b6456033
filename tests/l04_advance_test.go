package tests

import (
	"math"
	"testing"

	"loop.example/g03315/impl"
)

func TestPressInput(t *testing.T) {
	for delay := range 6 {
		g := arenaGame(t, 2, delay)
		for _, now := range []int{0, 1, 7, 394} {
			p := &plainPeer{game: g, me: 1, ahead: 8, base: now, now: now, known: []int{now + 1, now + delay}}
			q := p.peer()
			for input := range 16 {
				want := copiedPeer(q)
				want.Tracks[1].Inputs = append(want.Tracks[1].Inputs, input)
				got, ok := impl.PressInput(q, input)
				wantPeer(t, "PressInput", got, ok, want, true)
				again, ok := impl.PressInput(got, input)
				wantPeer(t, "PressInput for the same tick again", again, ok, want, false)
			}
			for _, n := range noInputs() {
				got, ok := impl.PressInput(q, n)
				wantPeer(t, "PressInput of no input", got, ok, q, false)
			}
		}
	}
}

func TestPressInputAtAnotherTick(t *testing.T) {
	g := arenaGame(t, 2, 3)
	for own := 9; own < 20; own++ {
		q := (&plainPeer{game: g, ahead: 8, base: 6, now: 9, known: []int{own, 6}}).peer()
		got, ok := impl.PressInput(q, 1)
		if !ok && own == 12 {
			t.Error("PressInput is false with as many inputs as there must be")
		}
		if own != 12 {
			wantPeer(t, "PressInput with "+impl.FormatInt(own)+" inputs", got, ok, q, false)
		}
	}
}

// TestPressInputIntoTheGreatestTrack has a track with MaxTrack inputs, and one with one less.
func TestPressInputIntoTheGreatestTrack(t *testing.T) {
	for _, delay := range []int{0, 1, 5} {
		g := arenaGame(t, 2, delay)
		p := &plainPeer{game: g, ahead: 8, base: 392, now: 399 - delay, known: []int{399, 392}}
		want := p.peer()
		want.Tracks[0].Inputs = append(want.Tracks[0].Inputs, 15)
		got, ok := impl.PressInput(p.peer(), 15)
		wantPeer(t, "PressInput as the last one", got, ok, want, true)
		p.now, p.base, p.known[0], p.known[1] = 400-delay, 393, 400, 393
		got, ok = impl.PressInput(p.peer(), 15)
		wantPeer(t, "PressInput behind the last one", got, ok, p.peer(), false)
	}
}

func TestCanAdvance(t *testing.T) {
	g := arenaGame(t, 2, 0)
	for ahead := 1; ahead <= 8; ahead++ {
		for lead := range ahead + 1 {
			for own := 20 + lead; own < 24+lead; own++ {
				p := &plainPeer{game: g, me: 1, ahead: ahead, base: 20, now: 20 + lead, known: []int{20, own}}
				want := lead < ahead && own > 20+lead
				q := p.peer()
				if got := impl.CanAdvance(q); got != want {
					t.Errorf("CanAdvance with the Ahead %d, the lead %d and %d inputs = %v", ahead, lead, own, got)
				}
				got, ok := impl.Advance(q)
				if ok != p.advance() {
					t.Errorf("Advance with the Ahead %d, the lead %d and %d inputs = %v", ahead, lead, own, ok)
				}
				wantPeer(t, "Advance", got, ok, p.peer(), want)
				if impl.LeadOf(got) != p.now-20 {
					t.Errorf("LeadOf behind Advance = %d", impl.LeadOf(got))
				}
			}
		}
	}
	last := (&plainPeer{game: g, ahead: 8, base: 395, now: 400, known: []int{400, 395}}).peer()
	got, ok := impl.Advance(last)
	wantPeer(t, "Advance behind the last input", got, ok, last, false)
	if impl.CanAdvance(last) {
		t.Error("CanAdvance behind the last input")
	}
}

// TestAdvanceFromTheBeginning plays as far ahead as allowed, without hearing anything.
func TestAdvanceFromTheBeginning(t *testing.T) {
	for players := 1; players <= 4; players++ {
		for _, delay := range []int{0, 1, 5} {
			g := arenaGame(t, players, delay)
			p := newPlainPeer(g, players-1, 8)
			q := p.peer()
			for range 12 {
				pressed, ok := impl.PressInput(q, g.inputs[p.me][min(p.known[p.me], 399)])
				want := p.press()
				wantPeer(t, "PressInput", pressed, ok, p.peer(), want)
				moved, ok := impl.Advance(pressed)
				want = p.advance()
				wantPeer(t, "Advance", moved, ok, p.peer(), want)
				q = moved
			}
			if players > 1 && (q.Base.Tick != 0 || q.Now.Tick != 8 || len(q.Saves) != 8) {
				t.Errorf("%d players with the delay %d: at %d, confirmed %d", players, delay, q.Now.Tick, q.Base.Tick)
			}
		}
	}
}

// TestAdvanceWithAFault reaches the tick of the fault, and steps over it.
func TestAdvanceWithAFault(t *testing.T) {
	for tick := range 8 {
		g := arenaGame(t, 2, 0)
		f := impl.Fault{Tick: tick, Player: 1, Add: 5}
		p, _ := impl.NewPeer(g.level, 2, g.seed, 0, 0, 8, f)
		p.Tracks[0].Inputs = make([]int, 8)
		for at := 1; at < 8; at++ {
			next, ok := impl.Advance(p)
			want := 0
			if tick > 0 && at >= tick {
				want = 5
			}
			if !ok || next.Now.Scores[1] != want || next.Now.Scores[0] != 0 || next.Fault != f {
				t.Errorf("Advance to %d with %v = %v, %v", at, f, next.Now, ok)
			}
			p = next
		}
	}
}

// TestAdvanceFromAnotherNow has a present world that does not follow from the confirmed one.
func TestAdvanceFromAnotherNow(t *testing.T) {
	for _, base := range []int{0, 6} {
		g := arenaGame(t, 2, 1)
		p := &plainPeer{game: g, ahead: 3, base: base, now: base, known: []int{base + 1, base}}
		if base == 0 {
			p.known[1] = 1
		}
		q := p.peer()
		q.Now.Seed, q.Now.Scores[1] = 77, 5
		want := copiedPeer(q)
		want.Saves = savesOf(q.Base, []impl.World{q.Now})
		want.Used = [][]int{p.row(base)}
		want.Now = impl.StepWorld(q.Now, want.Used[0])
		got, ok := impl.Advance(q)
		wantPeer(t, "Advance from another Now", got, ok, want, true)
		w, ok := impl.SaveAt(got, base)
		if !ok || !plainSame(w, q.Now) {
			t.Errorf("SaveAt of another Now = %v, %v", w, ok)
		}
	}
}

// TestAdvanceOverSaves needs the last save alone.
func TestAdvanceOverSaves(t *testing.T) {
	good := halfway(t)
	worlds := []string{}
	for tick := 6; tick < 9; tick++ {
		w, ok := impl.SaveAt(good, tick)
		if !ok {
			t.Fatal("no save for", tick)
		}
		worlds = append(worlds, impl.WorldBytes(w))
	}
	for name, c := range map[string]struct {
		texts []string
		want  bool
	}{
		"all of them":               {worlds, true},
		"no world at first":         {[]string{"no world", worlds[1], worlds[2]}, true},
		"no world before the last":  {[]string{worlds[0], "", worlds[2]}, true},
		"worlds in wrong places":    {[]string{worlds[2], worlds[0], worlds[2]}, true},
		"no world at last":          {[]string{worlds[0], worlds[1], "no world"}, false},
		"nothing at last":           {[]string{worlds[0], worlds[1], ""}, false},
		"another tick at last":      {[]string{worlds[0], worlds[1], worlds[1]}, false},
		"a world and a byte at end": {[]string{worlds[0], worlds[1], worlds[2] + "\x00"}, false},
	} {
		q := copiedPeer(good)
		q.Saves = savesOfTexts(q.Base, c.texts...)
		want := copiedPeer(q)
		if c.want {
			row, _ := impl.RowAt(q.Tracks, 9)
			want.Saves = savesOfTexts(q.Base, append(c.texts, impl.WorldBytes(q.Now))...)
			want.Used = append(want.Used, row)
			want.Now = impl.StepWorld(q.Now, row)
		}
		got, ok := impl.Advance(q)
		wantPeer(t, "Advance with "+name, got, ok, want, c.want)
		if !impl.CanAdvance(q) {
			t.Errorf("CanAdvance looks at the saves with %s", name)
		}
	}
	for k := range 3 {
		for _, delta := range []string{"", "\x80", "\x05", "\x05\x05", "\x01\x01\x00\x00"} {
			q := copiedPeer(good)
			q.Saves[k].Delta = delta
			got, ok := impl.Advance(q)
			wantPeer(t, "Advance over a delta that is none", got, ok, q, false)
		}
	}
}

func TestInvalidPeersStayAsTheyAre(t *testing.T) {
	x := impl.Packet{First: 12, Inputs: []int{1}, Acks: []int{0, 0, 0}}
	for name, bad := range badPeers(t) {
		for call, got := range map[string]func() (impl.Peer, bool){
			"PressInput": func() (impl.Peer, bool) { return impl.PressInput(bad, 1) },
			"Advance":    func() (impl.Peer, bool) { return impl.Advance(bad) },
			"RollTo":     func() (impl.Peer, bool) { return impl.RollTo(bad, bad.Base.Tick) },
			"Repair":     func() (impl.Peer, bool) { return impl.Repair(bad) },
			"Confirm":    func() (impl.Peer, bool) { return impl.Confirm(bad), false },
			"Learn":      func() (impl.Peer, bool) { return impl.Learn(bad, x) },
		} {
			p, ok := got()
			wantPeer(t, call+" with "+name, p, ok, bad, false)
			if !memoryIsApart(p, bad) {
				t.Errorf("%s with %s shares memory with its argument", call, name)
			}
		}
		checkNothingOf(t, name, bad)
	}
}

// checkNothingOf sees that a peer that is not valid has nothing.
func checkNothingOf(t *testing.T, name string, bad impl.Peer) {
	t.Helper()
	if impl.CanAdvance(bad) || impl.FirstWrong(bad) != -1 || impl.LeadOf(bad) != -1 {
		t.Errorf("%s: CanAdvance %v, FirstWrong %d, LeadOf %d", name, impl.CanAdvance(bad), impl.FirstWrong(bad), impl.LeadOf(bad))
	}
	for _, tick := range []int{-1, 0, 5, 6, 7, 8, 9, 10, math.MaxInt, math.MinInt} {
		if w, ok := impl.SaveAt(bad, tick); ok || !plainSame(w, impl.World{}) {
			t.Errorf("%s: SaveAt %d = %v, %v", name, tick, w, ok)
		}
		if w, ok := impl.Replayed(bad, tick); ok || !plainSame(w, impl.World{}) {
			t.Errorf("%s: Replayed to %d = %v, %v", name, tick, w, ok)
		}
		if x, ok := impl.Tell(bad, tick); ok || !plainPacketSame(x, impl.Packet{}) {
			t.Errorf("%s: Tell behind %d = %v, %v", name, tick, x, ok)
		}
	}
}
