package tests

import (
	"math/rand"
	"slices"
	"testing"

	"loop.example/g03315/impl"
)

// randomGame has an own level each time, and often a fault.
func randomGame(r *rand.Rand, players int) *game {
	f := impl.Fault{Tick: r.Intn(401), Player: r.Intn(players), Add: r.Intn(10)}
	if r.Intn(2) == 0 {
		f = impl.Fault{}
	}
	return newGame(r, randomLevel(r), players, r.Intn(6), f)
}

// TestPeersFollowFromWhatIsKnown lets a peer press, play and learn at random, late, in pieces, again
// and with gaps, and compares all of it with the lockstep worlds and what is predicted from them.
func TestPeersFollowFromWhatIsKnown(t *testing.T) {
	r := rand.New(rand.NewSource(403))
	rolls := 0
	for _, players := range []int{1, 2, 3, 4, 2, 3} {
		g := randomGame(r, players)
		p := newPlainPeer(g, r.Intn(len(g.inputs)), 1+r.Intn(8))
		q, ok := impl.NewPeer(g.level, len(g.inputs), g.seed, p.me, g.delay, p.ahead, g.fault)
		wantPeer(t, "NewPeer", q, ok, p.peer(), true)
		for p.base < 400 {
			for range 3 {
				q = randomStep(t, r, p, q)
			}
			checkSaves(t, p, q)
			if r.Intn(60) == 0 {
				checkReplayed(t, p, q)
			}
		}
		rolls += q.Rolls
	}
	// Games in which everything is foreseen would prove little.
	if rolls < 300 {
		t.Errorf("only %d rollbacks", rolls)
	}
}

func checkReplayed(t *testing.T, p *plainPeer, q impl.Peer) {
	t.Helper()
	if w, ok := impl.Replayed(q, p.base); !ok || !plainSame(w, q.Base) {
		t.Fatalf("Replayed to %d = %v, %v; want %v", p.base, w, ok, q.Base)
	}
}

// randomStep performs the same step with the peer and with what it follows from.
func randomStep(t *testing.T, r *rand.Rand, p *plainPeer, q impl.Peer) impl.Peer {
	t.Helper()
	var next impl.Peer
	var ok, want bool
	kind := r.Intn(4)
	// Who plays a tick without pressing for a later one can never press again.
	if kind == 1 && p.known[p.me] == p.now+p.game.delay && p.known[p.me] < 400 {
		kind = 0
	}
	switch from := r.Intn(len(p.known)); kind {
	case 0:
		next, ok = impl.PressInput(q, p.game.inputs[p.me][min(p.known[p.me], 399)])
		want = p.press()
	case 1:
		if impl.CanAdvance(q) != (p.now-p.base < p.ahead && p.now < p.known[p.me]) {
			t.Fatalf("CanAdvance of %v = %v", q, impl.CanAdvance(q))
		}
		next, ok = impl.Advance(q)
		want = p.advance()
	case 2:
		next, ok, want = impl.Confirm(q), true, true
		p.confirm()
	case 3:
		// What is told may be known already, begin behind a gap, or be of ticks to come.
		first := min(max(p.known[from]+2-r.Intn(12), 0), 400)
		end := max(first, min(first+r.Intn(14), p.now+r.Intn(4)-1, 400))
		next, ok = impl.Learn(q, p.game.packet(from, first, end))
		want = p.learn(from, first, end)
	}
	wantPeer(t, "a step", next, ok, p.peer(), want)
	return next
}

// checkSaves sees that every saved world is the one that is predicted for its tick.
func checkSaves(t *testing.T, p *plainPeer, q impl.Peer) {
	t.Helper()
	if !impl.PeerOk(q) || impl.LeadOf(q) != p.now-p.base || impl.FirstWrong(q) != -1 {
		t.Fatalf("PeerOk %v, LeadOf %d, FirstWrong %d of %v", impl.PeerOk(q), impl.LeadOf(q), impl.FirstWrong(q), q)
	}
	for k, want := range p.saved()[:p.now-p.base] {
		if w, ok := impl.SaveAt(q, p.base+k); !ok || !plainSame(w, want) {
			t.Fatalf("SaveAt %d = %v, %v; want %v", p.base+k, w, ok, want)
		}
	}
}

// TestInputsThatComeLate tells each input some ticks late, in pieces and twice, and always gives the
// same worlds in the end.
func TestInputsThatComeLate(t *testing.T) {
	g := newGame(rand.New(rand.NewSource(404)), levelOf(t, arena), 2, 0, impl.Fault{})
	for _, late := range []int{0, 1, 4, 7} {
		for _, piece := range []int{1, 8 - late} {
			q, _ := impl.NewPeer(g.level, 2, g.seed, 0, 0, 8, impl.Fault{})
			for tick := range 400 {
				q = playTick(t, g, q, tick)
				if end := tick + 1 - late; (tick+1)%piece == 0 && end > 0 {
					q = learnTwice(t, g, q, max(end-piece-late%3, 0), end)
				}
			}
			q = learnTwice(t, g, q, 380, 400)
			if !plainSame(q.Base, g.worlds[400]) || !plainSame(q.Now, g.worlds[400]) || !slices.Equal(q.Sums, g.sums) || len(q.Saves) != 0 {
				t.Errorf("%d ticks late, in pieces of %d: %v in the end", late, piece, q.Base)
			}
		}
	}
}

func playTick(t *testing.T, g *game, q impl.Peer, tick int) impl.Peer {
	t.Helper()
	pressed, ok := impl.PressInput(q, g.inputs[q.Me][tick])
	if !ok {
		t.Fatalf("PressInput of %v fails", q)
	}
	next, ok := impl.Advance(pressed)
	if !ok || next.Now.Tick != tick+1 {
		t.Fatalf("Advance of %v fails", pressed)
	}
	return next
}

// learnTwice tells inputs of player 1 at once and again, and, to the same peer, one by one.
func learnTwice(t *testing.T, g *game, q impl.Peer, first int, end int) impl.Peer {
	t.Helper()
	once, ok := impl.Learn(q, g.packet(1, first, end))
	if !ok {
		t.Fatalf("Learn of the inputs from %d to %d fails", first, end)
	}
	checkKnown(t, g, once)
	twice, ok := impl.Learn(once, g.packet(1, first, end))
	wantPeer(t, "Learn again", twice, ok, once, true)
	for at := first; at < end; at++ {
		q, ok = impl.Learn(q, g.packet(1, at, at+1))
		if !ok {
			t.Fatalf("Learn of the input for %d fails", at)
		}
		checkKnown(t, g, q)
	}
	q.Rolls, q.Again = once.Rolls, once.Again
	wantPeer(t, "Learn of one input after another", q, true, once, true)
	return once
}

// checkKnown compares a peer with the lockstep worlds and with what it knows, but for its counts.
func checkKnown(t *testing.T, g *game, q impl.Peer) {
	t.Helper()
	p := plainPeer{game: g, me: q.Me, ahead: q.Ahead, base: q.Base.Tick, now: q.Now.Tick, rolls: q.Rolls, again: q.Again}
	for _, track := range q.Tracks {
		p.known = append(p.known, len(track.Inputs))
	}
	wantPeer(t, "what is known", q, true, p.peer(), true)
	if p.base != min(p.now, slices.Min(p.known)) {
		t.Fatalf("confirmed up to %d, though at %d and known are %v", p.base, p.now, p.known)
	}
}

// post carries packets between peers: it loses some, copies some, and turns them around.
type post struct {
	r       *rand.Rand
	loss    int
	flights [][]string
}

func (o *post) send(to int, text string) {
	for range 1 + o.r.Intn(2) {
		if o.r.Intn(100) >= o.loss {
			o.flights[to] = append(o.flights[to], text)
		}
	}
}

func (o *post) arrive(to int) []string {
	list := o.flights[to]
	o.r.Shuffle(len(list), func(i int, j int) { list[i], list[j] = list[j], list[i] })
	n := o.r.Intn(len(list) + 1)
	o.flights[to] = slices.Clone(list[n:])
	return list[:n]
}

// TestPeersOverALossyPost brings all peers to the lockstep worlds, one of them with its own fault.
func TestPeersOverALossyPost(t *testing.T) {
	r := rand.New(rand.NewSource(405))
	for range 5 {
		players := 2 + r.Intn(3)
		right := newGame(r, randomLevel(r), players, r.Intn(6), impl.Fault{})
		games := slices.Repeat([]*game{right}, players)
		faulty := r.Intn(players)
		games[faulty] = gameOf(right.level, right.seed, right.delay, impl.Fault{Tick: 1 + r.Intn(400), Player: r.Intn(players), Add: 1 + r.Intn(9)}, right.inputs)
		var peers []impl.Peer
		for k, g := range games {
			q, ok := impl.NewPeer(g.level, players, g.seed, k, g.delay, 1+r.Intn(8), g.fault)
			if !ok {
				t.Fatal("no peer", k)
			}
			peers = append(peers, q)
		}
		runOverPost(t, &post{r: r, loss: r.Intn(60), flights: make([][]string, players)}, games, peers)
		for k, q := range peers {
			if !plainSame(q.Base, games[k].worlds[400]) || !plainSame(q.Now, q.Base) || !slices.Equal(q.Sums, games[k].sums) {
				t.Errorf("peer %d ends with %v; want %v", k, q.Base, games[k].worlds[400])
			}
		}
		// The sums tell the fault from its tick on.
		other, at := peers[(faulty+1)%players], games[faulty].fault.Tick
		if !slices.Equal(peers[faulty].Sums[:at], other.Sums[:at]) || peers[faulty].Sums[at] == other.Sums[at] {
			t.Errorf("the fault at %d is not told by the sums", at)
		}
	}
}

// runOverPost lets peers play until all of them have confirmed 400 ticks.
func runOverPost(t *testing.T, o *post, games []*game, peers []impl.Peer) {
	t.Helper()
	acks := make([][]int, len(peers))
	for k := range acks {
		acks[k] = make([]int, len(peers))
	}
	for rounds := 0; slices.ContainsFunc(peers, func(q impl.Peer) bool { return q.Base.Tick < 400 }); rounds++ {
		if rounds > 20000 {
			t.Fatal("the peers do not come to an end")
		}
		k := o.r.Intn(len(peers))
		for _, text := range o.arrive(k) {
			x, ok := impl.DecodePacket(text)
			acks[k][x.From] = max(acks[k][x.From], x.Acks[k])
			before := peers[k]
			// A packet that was overtaken by nothing that it needs is always learned.
			if peers[k], ok = impl.Learn(before, x); !ok && x.First <= len(before.Tracks[x.From].Inputs) {
				t.Fatalf("Learn of %v by %v fails", x, before)
			}
		}
		peers[k], _ = impl.PressInput(peers[k], games[k].inputs[k][min(len(peers[k].Tracks[k].Inputs), 399)])
		peers[k], _ = impl.Advance(peers[k])
		peers[k] = impl.Confirm(peers[k])
		checkKnown(t, games[k], peers[k])
		for to := range peers {
			if x, ok := impl.Tell(peers[k], acks[k][to]); to != k && ok {
				o.send(to, impl.EncodePacket(x))
			} else if !ok {
				t.Fatalf("Tell of %v behind %d fails", peers[k], acks[k][to])
			}
		}
	}
}
