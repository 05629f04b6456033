package tests

import (
	"math/rand"
	"slices"
	"testing"

	"loop.example/g03315/impl"
)

// heldGame is a game without a fault of players who hold what they press, so that much happens.
func heldGame(r *rand.Rand, l impl.Level, players int, delay int) *game {
	var inputs [][]int
	for range players {
		inputs = append(inputs, make([]int, delay))
	}
	for _, row := range heldRows(r, players, 400-delay) {
		for k, input := range row {
			inputs[k] = append(inputs[k], input)
		}
	}
	return gameOf(l, r.Intn(65536), delay, impl.Fault{}, inputs)
}

// recorded is a replay that is added row by row, or several rows at once.
func recorded(t *testing.T, r *rand.Rand, g *game, every int, n int) impl.Replay {
	t.Helper()
	p, ok := impl.NewReplay(g.level, len(g.inputs), g.seed, every)
	if !ok {
		t.Fatal("no new replay")
	}
	for ok && len(p.Rows) < n {
		at := len(p.Rows)
		if r.Intn(2) == 0 {
			p, ok = impl.AddRow(p, g.rows(at, at+1)[0])
		} else {
			p, ok = impl.AddRows(p, g.rows(at, min(at+r.Intn(40), n)))
		}
	}
	wantReplay(t, "a replay that grows", p, ok, g.replay(every, n), true)
	return p
}

// TestEveryTickOfAReplayIsAsItWas compares the worlds by the keys, those from the beginning and those
// that were, with many keys and few.
func TestEveryTickOfAReplayIsAsItWas(t *testing.T) {
	r := rand.New(rand.NewSource(701))
	points := 0
	for _, every := range []int{1, 2, 5, 16, 33, 100, 1 + r.Intn(100), 1 + r.Intn(100), 1 + r.Intn(10), 1 + r.Intn(10)} {
		g := heldGame(r, randomLevel(r), 1+r.Intn(4), r.Intn(6))
		n := []int{400, r.Intn(401)}[r.Intn(2)]
		p := recorded(t, r, g, every, n)
		for tick := range n + 1 {
			checkSeek(t, "a game", p, tick, g.worlds[tick])
			if r.Intn(4) == 0 {
				checkPlay(t, "a game", p, tick, g.worlds[tick])
			}
		}
		for k := -1; k < len(p.Keys); k++ {
			checkKey(t, "a game", p, k, g.worlds[(k+1)*every])
		}
		if got := impl.FindTamper(p); got != -1 {
			t.Errorf("FindTamper of a game = %d", got)
		}
		for _, score := range g.worlds[n].Scores {
			points += score
		}
	}
	// Games in which nothing happens would prove little.
	if points < 20 {
		t.Errorf("only %d points", points)
	}
}

// TestReplaysFromBytesAndCut reads replays from their bytes, and cuts them.
func TestReplaysFromBytesAndCut(t *testing.T) {
	r := rand.New(rand.NewSource(702))
	for range 12 {
		g := heldGame(r, randomLevel(r), 1+r.Intn(4), 0)
		every, n := 1+r.Intn(20), r.Intn(401)
		p := g.replay(every, n)
		text := impl.EncodeReplay(p)
		q, ok := impl.DecodeReplay(text)
		wantReplay(t, "DecodeReplay", q, ok, p, true)
		if !impl.SameReplay(p, q) || impl.FindTamper(q) != -1 {
			t.Fatal("a replay that was read is another one")
		}
		for range 300 {
			spoiled := []byte(text)
			spoiled[r.Intn(len(spoiled))] ^= byte(1 + r.Intn(255))
			noReplay(t, "one changed byte", string(spoiled))
		}
		for range 20 {
			cut := r.Intn(n + 1)
			short, ok := impl.CutReplay(q, cut)
			wantReplay(t, "CutReplay", short, ok, g.replay(every, cut), true)
			again, ok := impl.AddRows(short, q.Rows[cut:])
			wantReplay(t, "AddRows to a replay that was cut", again, ok, p, true)
		}
	}
}

// TestExchangedKeysAreFound exchanges keys with others of the same replay and of other ones, and with
// ones of which a byte is changed.
func TestExchangedKeysAreFound(t *testing.T) {
	r := rand.New(rand.NewSource(703))
	found := 0
	for range 12 {
		l, players, every := randomLevel(r), 1+r.Intn(4), 1+r.Intn(20)
		p := heldGame(r, l, players, 0).replay(every, 400)
		q := heldGame(r, l, players, 0).replay(every, 400)
		for range 25 {
			bad := copiedReplay(p)
			i, k := r.Intn(len(p.Keys)), r.Intn(len(p.Keys))
			switch r.Intn(4) {
			case 0:
				bad.Keys[i], bad.Keys[k] = bad.Keys[k], bad.Keys[i]
			case 1:
				bad.Keys[k] = q.Keys[i]
			case 2:
				key := []byte(bad.Keys[k])
				key[r.Intn(len(key))] ^= byte(1 + r.Intn(255))
				bad.Keys[k] = string(key)
			case 3:
				bad.Keys = slices.Concat(bad.Keys[:k], q.Keys[k:])
			}
			want := 0
			for want < len(bad.Keys) && bad.Keys[want] == p.Keys[want] {
				want++
			}
			if want == len(bad.Keys) {
				want = -1
			} else {
				found++
			}
			if got := impl.FindTamper(bad); got != want {
				t.Fatalf("FindTamper = %d; want %d, of %d keys", got, want, len(bad.Keys))
			}
			checkBefore(t, bad, p, want)
		}
	}
	if found < 200 {
		t.Errorf("only %d exchanged keys", found)
	}
}

// checkBefore sees that what stands before an exchanged key is as it was.
func checkBefore(t *testing.T, bad impl.Replay, p impl.Replay, exchanged int) {
	t.Helper()
	if exchanged < 0 {
		return
	}
	tick := (exchanged+1)*p.Every - 1
	want, ok := impl.PlayReplay(p, tick)
	if !ok {
		t.Fatal("no world", tick)
	}
	checkSeek(t, "an exchanged key", bad, tick, want)
	w, ok := impl.KeyAt(bad, exchanged)
	if right, _ := impl.KeyAt(p, exchanged); ok && plainSame(w, right) {
		t.Fatalf("the key %d is the one that was", exchanged)
	}
}

// TestSpectatorsSeeTheWorld lets spectators join at any tick and see rows in pieces that overlap, come
// again and leave gaps.
func TestSpectatorsSeeTheWorld(t *testing.T) {
	r := rand.New(rand.NewSource(704))
	allGaps := 0
	for range 30 {
		g := heldGame(r, randomLevel(r), 1+r.Intn(4), 0)
		tick, gaps := r.Intn(401), 0
		s, ok := impl.NewSpectator(g.level, impl.WorldBytes(g.worlds[tick]))
		wantSpectator(t, "NewSpectator", s, ok, g.at(tick, 0), true)
		for tick < 400 {
			first := min(max(tick-8+r.Intn(12), 0), 399)
			end := min(first+r.Intn(20), 400)
			fits := first <= tick
			if fits {
				tick = max(tick, end)
			} else {
				gaps++
			}
			s, ok = impl.FeedRows(s, first, g.rows(first, end))
			wantSpectator(t, "FeedRows", s, ok, g.at(tick, gaps), fits)
		}
		allGaps += gaps
	}
	if allGaps < 100 {
		t.Errorf("only %d gaps", allGaps)
	}
}

// TestSpectatorsOverWires lets a spectator hear streams over a wire that loses, copies, mixes up and
// damages them. Who sends knows the tick of the spectator only now and then.
func TestSpectatorsOverWires(t *testing.T) {
	r := rand.New(rand.NewSource(705))
	allGaps, unread := 0, 0
	for range 12 {
		g := heldGame(r, randomLevel(r), 1+r.Intn(4), 0)
		from := r.Intn(200)
		s, _ := impl.NewSpectator(g.level, impl.WorldBytes(g.worlds[from]))
		w, ok := impl.NewWire(r.Intn(65536), r.Intn(4), r.Intn(8), r.Intn(50), r.Intn(50), r.Intn(30))
		if !ok {
			t.Fatal("no wire")
		}
		seen, gaps := from, 0
		for steps := 0; seen < 400; steps++ {
			if steps > 5000 {
				t.Fatal("the spectator does not come to an end")
			}
			if from = min(from+r.Intn(8), 399); r.Intn(6) == 0 {
				from = seen
			}
			w = impl.TickWire(impl.SendWire(w, impl.EncodeStream(from, g.rows(from, min(from+1+r.Intn(20), 400)))))
			var list []string
			w, list = impl.ArriveWire(w)
			for _, data := range list {
				first, rows, ok := impl.DecodeStream(data)
				if !ok {
					unread++
					continue
				}
				if first > seen {
					gaps++
				} else {
					seen = max(seen, first+len(rows))
				}
				s, ok = impl.FeedRows(s, first, rows)
				wantSpectator(t, "FeedRows", s, ok, g.at(seen, gaps), first <= seen)
			}
		}
		allGaps += gaps
	}
	if allGaps < 50 || unread < 50 {
		t.Errorf("only %d gaps and %d streams that cannot be read", allGaps, unread)
	}
}

// TestReplaysOfPeersHaveTheirWorld lets peers play at random: the replay of a peer has its confirmed
// world at the end, and so has who joins by its snapshot.
func TestReplaysOfPeersHaveTheirWorld(t *testing.T) {
	r := rand.New(rand.NewSource(706))
	for range 5 {
		g := newGame(r, randomLevel(r), 1+r.Intn(4), r.Intn(6), impl.Fault{})
		p := newPlainPeer(g, r.Intn(len(g.inputs)), 1+r.Intn(8))
		q, ok := impl.NewPeer(g.level, len(g.inputs), g.seed, p.me, g.delay, p.ahead, g.fault)
		wantPeer(t, "NewPeer", q, ok, p.peer(), true)
		for p.base < 400 {
			for range 40 {
				q = randomStep(t, r, p, q)
			}
			checkRecorded(t, g, q, 1+r.Intn(100))
		}
	}
}

// checkRecorded compares the replay and the snapshot of a peer without a fault with its confirmed
// world.
func checkRecorded(t *testing.T, g *game, p impl.Peer, every int) {
	t.Helper()
	tick := p.Base.Tick
	rec, ok := impl.RecordPeer(p, every)
	wantReplay(t, "RecordPeer", rec, ok, g.replay(every, tick), true)
	checkSeek(t, "a peer", rec, tick, p.Base)
	checkPlay(t, "a peer", rec, tick, p.Base)
	s, ok := impl.NewSpectator(g.level, impl.SnapshotOf(p))
	wantSpectator(t, "NewSpectator of a snapshot", s, ok, impl.Spectator{World: p.Base}, true)
	wantSpectator(t, "NewSpectator of a snapshot", s, ok, g.at(tick, 0), true)
}

// TestReplaysOfPeersOverWires has peers of whom one has a fault, and a spectator of each: the replays
// are those of the game without a fault.
func TestReplaysOfPeersOverWires(t *testing.T) {
	r := rand.New(rand.NewSource(707))
	for range 4 {
		o := newTable(t, r, 2+r.Intn(3))
		right := o.games[(o.faulty+1)%len(o.games)]
		seen := make([]impl.Spectator, len(o.peers))
		for k, p := range o.peers {
			seen[k], _ = impl.NewSpectator(right.level, impl.SnapshotOf(p))
		}
		for steps := range 150 {
			o.step(t)
			for k, p := range o.peers {
				from := max(seen[k].World.Tick-r.Intn(3), 0)
				seen[k], _ = impl.FeedRows(seen[k], from, impl.RowsOf(p.Tracks, from, p.Base.Tick))
				wantSpectator(t, "FeedRows", seen[k], true, right.at(p.Base.Tick, 0), true)
				if steps%30 == 29 && k != o.faulty {
					checkRecorded(t, right, p, 1+r.Intn(20))
				}
			}
		}
		p := o.peers[o.faulty]
		rec, ok := impl.RecordPeer(p, 7)
		wantReplay(t, "RecordPeer with a fault", rec, ok, right.replay(7, p.Base.Tick), true)
		w, ok := impl.PlayReplay(rec, p.Base.Tick)
		if early := p.Base.Tick < p.Fault.Tick; !ok || plainSame(w, p.Base) != early {
			t.Errorf("the fault %v is seen at %d", p.Fault, p.Base.Tick)
		}
	}
}
