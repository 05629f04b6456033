package tests

import (
	"math/bits"
	"math/rand"
	"slices"
	"testing"

	"loop.example/g03315/impl"
)

// TestHuntsFindWhereListsPart has lists that agree up to an index and never again, of all lengths up
// to some and at all indices.
func TestHuntsFindWhereListsPart(t *testing.T) {
	for n := 2; n <= 70; n++ {
		for _, m := range []int{n, n + 1, 2 * n} {
			for at := 1; at < n; at++ {
				a, b := partingLists(n, m, at)
				checkFound(t, a, b, at)
				checkFound(t, b, a, at)
			}
		}
	}
	for _, n := range []int{401, 1000, 65537, 1000001} {
		for _, at := range []int{1, 2, n / 3, n/2 - 1, n / 2, n - 2, n - 1} {
			a, b := partingLists(n, n, at)
			checkFound(t, a, b, at)
		}
	}
}

// checkFound also sees that a place is compared only while half of the others can be left out.
func checkFound(t *testing.T, a []int, b []int, at int) {
	t.Helper()
	k, steps := impl.RunHunt(a, b)
	if first := impl.FirstDifference(a, b); k != at || first != at {
		t.Fatalf("RunHunt = %d and FirstDifference = %d of %d and %d sums; want %d", k, first, len(a), len(b), at)
	}
	if last := min(len(a), len(b)) - 1; steps < 2 || steps > 2+bits.Len(uint(last-1)) {
		t.Fatalf("%d steps for %d and %d sums that part at %d", steps, len(a), len(b), at)
	}
}

// TestFaultsAreFound has a fault at each tick of a game, told from the lockstep worlds.
func TestFaultsAreFound(t *testing.T) {
	r := rand.New(rand.NewSource(605))
	for tick := 1; tick <= 400; tick += 1 + r.Intn(12) {
		players := 1 + r.Intn(4)
		right := newGame(r, randomLevel(r), players, 0, impl.Fault{})
		f := impl.Fault{Tick: tick, Player: r.Intn(players), Add: 1 + r.Intn(9)}
		wrong := gameOf(right.level, right.seed, 0, f, right.inputs)
		at := func(g *game, base int) impl.Peer {
			return (&plainPeer{game: g, me: r.Intn(players), ahead: 1 + r.Intn(8), base: base, now: base, known: slices.Repeat([]int{base}, players)}).peer()
		}
		n, m := tick+r.Intn(401-tick), tick+r.Intn(401-tick)
		p, q := at(right, n), at(wrong, m)
		checkAlarm(t, p, q, f)
		checkAlarm(t, q, p, f)
		// What both have confirmed before is the same.
		early := at(wrong, tick-1)
		if a, ok := impl.Diagnose(p, early); ok || !sameAlarm(a, impl.Alarm{}) || impl.CleanUpTo(p, early) != tick-1 {
			t.Errorf("a fault at %d is found before: %v, clean up to %d", tick, a, impl.CleanUpTo(p, early))
		}
		lists := slices.Insert([][]int{p.Sums, at(right, m).Sums, at(right, 400).Sums}, r.Intn(4), q.Sums)
		for _, k := range []int{0, tick - 1, tick, min(n, m)} {
			blamed := -1
			if k >= tick {
				blamed = slices.IndexFunc(lists, func(list []int) bool { return list[k] == q.Sums[k] })
			}
			if got := impl.Blame(lists, k); got != blamed {
				t.Errorf("Blame at %d = %d; want %d, for the fault at %d", k, got, blamed, tick)
			}
		}
	}
}

// checkAlarm sees that the alarm of two peers tells a fault that one of them has, and as a text.
func checkAlarm(t *testing.T, p impl.Peer, q impl.Peer, f impl.Fault) {
	t.Helper()
	a, ok := impl.Diagnose(p, q)
	part := "score " + impl.FormatInt(f.Player)
	if !ok || !sameAlarm(a, impl.Alarm{Tick: f.Tick, Parts: []string{part}}) {
		t.Fatalf("Diagnose = %v, %v; want the fault %v", a, ok, f)
	}
	text := impl.FormatAlarm(a)
	if read, ok := impl.ParseAlarm(text); text != impl.FormatInt(f.Tick)+":"+part || !ok || !sameAlarm(read, a) {
		t.Fatalf("the alarm %v is told as %q", a, text)
	}
	if clean := impl.CleanUpTo(p, q); clean != f.Tick-1 {
		t.Fatalf("CleanUpTo = %d with the fault %v", clean, f)
	}
	if _, steps := impl.RunHunt(p.Sums, q.Sums); steps > 11 {
		t.Fatalf("%d steps for %d and %d sums", steps, len(p.Sums), len(q.Sums))
	}
}

// table are peers that talk over wires, one of whom has a fault.
type table struct {
	games  []*game
	faulty int
	peers  []impl.Peer
	wires  [][]impl.Wire
	acks   [][]int
	// suspected counts the packets that were suspect to each peer.
	suspected []int
}

func newTable(t *testing.T, r *rand.Rand, players int) *table {
	t.Helper()
	right := newGame(r, randomLevel(r), players, r.Intn(6), impl.Fault{})
	o := &table{games: slices.Repeat([]*game{right}, players), faulty: r.Intn(players), suspected: make([]int, players)}
	f := impl.Fault{Tick: 1 + r.Intn(60), Player: r.Intn(players), Add: 1 + r.Intn(9)}
	o.games[o.faulty] = gameOf(right.level, right.seed, right.delay, f, right.inputs)
	for k, g := range o.games {
		p, ok := impl.NewPeer(g.level, players, g.seed, k, g.delay, 1+r.Intn(8), g.fault)
		if !ok {
			t.Fatal("no peer", k)
		}
		o.peers = append(o.peers, p)
		o.acks = append(o.acks, make([]int, players))
		var wires []impl.Wire
		for range players {
			w, ok := impl.NewWire(r.Intn(65536), r.Intn(3), r.Intn(4), r.Intn(40), r.Intn(40), r.Intn(10))
			if !ok {
				t.Fatal("no wire")
			}
			wires = append(wires, w)
		}
		o.wires = append(o.wires, wires)
	}
	return o
}

// hear lets peer i hear peer j, and suspect it.
func (o *table) hear(t *testing.T, i int, j int) {
	t.Helper()
	wire, list := impl.ArriveWire(o.wires[j][i])
	o.wires[j][i] = wire
	for _, data := range list {
		x, ok := impl.DecodePacket(data)
		if !ok {
			continue
		}
		o.acks[i][j] = max(o.acks[i][j], x.Acks[i])
		o.peers[i], _ = impl.Learn(o.peers[i], x)
		o.suspect(t, i, j, x)
	}
}

// suspect sees that a packet is suspect just if both have confirmed a world that the fault changed.
func (o *table) suspect(t *testing.T, i int, j int, x impl.Packet) {
	t.Helper()
	f := o.games[o.faulty].fault
	known := x.SumTick < len(o.peers[i].Sums)
	want := known && x.SumTick >= f.Tick && (i == o.faulty || j == o.faulty)
	if got := impl.Suspects(o.peers[i], x); got != want {
		t.Fatalf("Suspects by peer %d of peer %d at %d = %v; the fault of peer %d is %v", i, j, x.SumTick, got, o.faulty, f)
	}
	if want {
		checkAlarm(t, o.peers[i], o.peers[j], f)
		o.suspected[i]++
	} else if a, ok := impl.Diagnose(o.peers[i], o.peers[j]); ok && i != o.faulty && j != o.faulty {
		t.Fatalf("the alarm %v of the peers %d and %d, which have no fault", a, i, j)
	}
}

// step lets all peers hear, play and tell.
func (o *table) step(t *testing.T) {
	t.Helper()
	for i := range o.peers {
		for j := range o.peers {
			if j != i {
				o.hear(t, i, j)
			}
		}
		own := o.peers[i].Tracks[i].Inputs
		o.peers[i], _ = impl.PressInput(o.peers[i], o.games[i].inputs[i][min(len(own), 399)])
		o.peers[i], _ = impl.Advance(o.peers[i])
		o.peers[i] = impl.Confirm(o.peers[i])
		for j := range o.peers {
			x, ok := impl.Tell(o.peers[i], o.acks[i][j])
			if !ok {
				t.Fatalf("Tell of peer %d fails", i)
			}
			if j != i {
				o.wires[i][j] = impl.TickWire(impl.SendWire(o.wires[i][j], impl.EncodePacket(x)))
			}
		}
	}
}

// TestFaultsAreSuspectedOverWires lets peers play until all have confirmed what the fault changed, and
// some ticks more. Only the peer with the fault is suspected, and only that peer suspects others.
func TestFaultsAreSuspectedOverWires(t *testing.T) {
	r := rand.New(rand.NewSource(606))
	for range 8 {
		o := newTable(t, r, 2+r.Intn(3))
		end := o.games[o.faulty].fault.Tick + 12
		for steps := 0; slices.ContainsFunc(o.peers, func(p impl.Peer) bool { return p.Base.Tick < end }); steps++ {
			if steps > 3000 {
				t.Fatal("the peers do not come to an end")
			}
			o.step(t)
		}
		// Who is behind the others has no sums to compare theirs with, but they have.
		if slices.Max(o.suspected) == 0 {
			t.Errorf("the fault %v is told to nobody", o.games[o.faulty].fault)
		}
		var lists [][]int
		for _, p := range o.peers {
			lists = append(lists, p.Sums)
		}
		want := o.faulty
		if len(lists) < 3 {
			want = -1
		}
		if got := impl.Blame(lists, end); got != want {
			t.Errorf("Blame at %d = %d; want %d", end, got, want)
		}
	}
}
