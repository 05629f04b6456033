package tests

import (
	"math"
	"slices"
	"testing"

	"loop.example/g03315/impl"
)

// checkLearn compares what a peer learns with the peer that follows from more known inputs.
func checkLearn(t *testing.T, p plainPeer, from int, first int, end int) {
	t.Helper()
	q := p.peer()
	p.known = slices.Clone(p.known)
	want := p.learn(from, first, end)
	got, ok := impl.Learn(q, p.game.packet(from, first, end))
	expected := q
	if want {
		expected = p.peer()
	}
	wantPeer(t, "Learn of "+impl.FormatInt(from)+" from "+impl.FormatInt(first)+" to "+impl.FormatInt(end), got, ok, expected, want)
	if !impl.PeerOk(got) || !memoryIsApart(got, q) {
		t.Fatal("Learn gives a peer that is not valid, or shares memory")
	}
}

func TestLearn(t *testing.T) {
	g := arenaGame(t, 3, 2)
	for _, p := range []plainPeer{
		{known: []int{2, 3, 2}}, {known: []int{2, 8, 2}, now: 6}, {known: []int{3, 10, 2}, base: 2, now: 9}, {known: []int{8, 9, 7}, base: 7, now: 9},
		{known: []int{12, 13, 14}, base: 6, now: 9}, {known: []int{6, 13, 20}, base: 6, now: 13, rolls: 1000000, again: 1000000},
		{known: []int{6, 15, 9}, base: 6, now: 13, rolls: 999999, again: 999995},
	} {
		p.game, p.me, p.ahead = g, 1, 8
		for from := range 3 {
			for first := 0; first <= p.known[from]+2; first++ {
				for _, more := range []int{0, 1, 2, 5, 12, 40} {
					checkLearn(t, p, from, first, first+more)
				}
			}
		}
	}
}

// TestLearnWhatIsKnown tells inputs again, in the same way and in another one.
func TestLearnWhatIsKnown(t *testing.T) {
	p := plainPeer{game: arenaGame(t, 3, 2), me: 1, ahead: 8, known: []int{9, 14, 11}, base: 9, now: 13}
	q := p.peer()
	for first := range 10 {
		got, ok := impl.Learn(q, p.game.packet(0, first, 9))
		wantPeer(t, "Learn of the same inputs", got, ok, q, true)
		for lie := first; lie < 9; lie++ {
			for change := 1; change < 16; change++ {
				x := p.game.packet(0, first, 15)
				x.Inputs[lie-first] ^= change
				got, ok := impl.Learn(q, x)
				wantPeer(t, "Learn of another input", got, ok, q, false)
			}
		}
	}
}

func TestLearnRejects(t *testing.T) {
	p := plainPeer{game: arenaGame(t, 4, 2), me: 3, ahead: 8, known: []int{9, 9, 9, 14}, base: 9, now: 13}
	q := p.peer()
	check := func(what string, x impl.Packet) {
		t.Helper()
		got, ok := impl.Learn(q, x)
		wantPeer(t, "Learn of "+what, got, ok, q, false)
	}
	for _, x := range badPackets() {
		check("a packet that is not valid", x)
	}
	for _, acks := range []int{0, 1, 2, 3, 5} {
		x := p.game.packet(0, 9, 12)
		x.Acks = make([]int, acks)
		check("a packet of other players", x)
	}
	check("a packet with a gap", p.game.packet(0, 10, 12))
	check("an empty packet behind a gap", p.game.packet(0, 10, 10))
	check("own inputs", p.game.packet(3, 14, 16))
	check("own inputs that are known", p.game.packet(3, 9, 14))
	check("no own inputs", p.game.packet(3, 0, 0))
	x := p.game.packet(0, 9, 12)
	x.Inputs[1] = 16
	check("a number that is no input", x)
}

// TestLearnWithoutSaves cannot go back to the wrong tick.
func TestLearnWithoutSaves(t *testing.T) {
	g := turnGame(t, 9)
	p := plainPeer{game: g, me: 1, ahead: 8, base: 6, now: 12, known: []int{6, 15}}
	for lost := range 6 {
		q := p.peer()
		q.Saves[lost].Delta = "\x05"
		for end := 6; end < 16; end++ {
			got, ok := impl.Learn(q, g.packet(0, 6, end))
			// The save at 9 is needed if the turn there is told.
			if end > 9 && lost <= 3 {
				wantPeer(t, "Learn without the saves", got, ok, q, false)
			} else if !ok || got.Tracks[0].Inputs[min(end, 6)-1] != impl.PressRight || len(got.Tracks[0].Inputs) != end {
				t.Errorf("Learn up to %d without a save for %d = %v, %v", end, 6+lost, got, ok)
			}
		}
	}
}

// TestLearnUpToTheGreatestTrack ends with 400 inputs of everybody.
func TestLearnUpToTheGreatestTrack(t *testing.T) {
	g := arenaGame(t, 3, 2)
	for _, now := range []int{392, 395, 399, 400} {
		p := plainPeer{game: g, me: 1, ahead: 8, base: 392, now: now, known: []int{392, 400, 400}}
		for _, end := range []int{392, 393, 399, 400} {
			checkLearn(t, p, 0, 392, end)
			checkLearn(t, p, 0, max(end-40, 0), end)
		}
		q := p.peer()
		x := impl.Packet{First: 392, Inputs: make([]int, 9), Acks: []int{0, 0, 0}}
		got, ok := impl.Learn(q, x)
		wantPeer(t, "Learn past the greatest track", got, ok, q, false)
	}
}

func TestTell(t *testing.T) {
	g := arenaGame(t, 3, 2)
	for _, p := range []plainPeer{
		{known: []int{2, 2, 2}}, {known: []int{2, 10, 2}, now: 8}, {known: []int{60, 61, 70}, base: 58, now: 59}, {known: []int{400, 400, 400}, base: 400, now: 400},
		{known: []int{392, 400, 400}, base: 392, now: 400},
	} {
		p.game, p.me, p.ahead = g, 1, 8
		q := p.peer()
		own := p.known[1]
		for _, ack := range []int{math.MinInt, -1, 0, 1, 2, 19, 20, 21, 22, own - 1, own, own + 1, 401, math.MaxInt} {
			want := impl.Packet{}
			if ack >= 0 && ack <= own {
				want = impl.Packet{
					From: 1, Tick: p.now, First: ack, Inputs: g.inputs[1][ack:min(ack+40, own)], Acks: p.known, SumTick: p.base, Sum: impl.WorldSum(g.worlds[p.base]),
				}
			}
			got, ok := impl.Tell(q, ack)
			if ok != (want.Acks != nil) || !plainPacketSame(got, want) || !memoryIsApart(got, q) {
				t.Errorf("Tell behind %d of %d = %v, %v; want %v", ack, own, got, ok, want)
			}
			if ok && !impl.PacketOk(got) {
				t.Errorf("Tell behind %d gives a packet that is not valid: %v", ack, got)
			}
		}
	}
}

// TestTellSumsBaseAnew does not rely on the kept sums.
func TestTellSumsBaseAnew(t *testing.T) {
	q := halfway(t)
	q.Sums[6], q.Base.Seed = -5, 77
	x, ok := impl.Tell(q, 3)
	if !ok || x.Sum != impl.WorldSum(q.Base) || x.SumTick != 6 || x.Tick != 9 {
		t.Errorf("Tell = %v, %v", x, ok)
	}
}

func TestReplayed(t *testing.T) {
	for _, f := range []impl.Fault{{}, {Tick: 1, Player: 2, Add: 9}, {Tick: 7, Add: 3}, {Tick: 400, Player: 1, Add: 1}} {
		g := arenaGame(t, 3, 2)
		g = gameOf(g.level, g.seed, 2, f, g.inputs)
		for _, p := range []plainPeer{
			{known: []int{2, 2, 2}}, {known: []int{2, 10, 2}, now: 8}, {known: []int{20, 10, 13}, base: 5, now: 9}, {known: []int{400, 400, 400}, base: 400, now: 400},
		} {
			p.game, p.me, p.ahead = g, 1, 8
			q := p.peer()
			known := slices.Min(p.known)
			for _, tick := range []int{math.MinInt, -1, 0, 1, 2, 3, 5, 6, 7, 9, 10, 11, 13, 20, 399, 400, 401, math.MaxInt} {
				got, ok := impl.Replayed(q, tick)
				want := impl.World{}
				if tick >= 0 && tick <= known {
					want = g.worlds[tick]
				}
				if ok != (tick >= 0 && tick <= known) || !plainSame(got, want) || !memoryIsApart(got, q) {
					t.Errorf("Replayed to %d with %v, known up to %d = %v, %v; want %v", tick, f, known, got, ok, want)
				}
			}
		}
	}
}

// TestReplayedIsFoundFromTheNewWorld does not rely on the worlds of a peer.
func TestReplayedIsFoundFromTheNewWorld(t *testing.T) {
	q := halfway(t)
	q.Base.Seed, q.Base.Scores[0], q.Now.Seed = 1, 5, 2
	q.Used, q.Sums = [][]int{{15, 15, 15}, {15, 15, 15}, {15, 15, 15}}, make([]int, 7)
	for tick, want := range arenaGame(t, 3, 2).worlds[:13] {
		if got, ok := impl.Replayed(q, tick); !ok || !plainSame(got, want) {
			t.Errorf("Replayed to %d = %v, %v; want %v", tick, got, ok, want)
		}
	}
}
