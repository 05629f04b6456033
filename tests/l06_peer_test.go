package tests

import (
	"math"
	"slices"
	"testing"

	"loop.example/g03315/impl"
)

// withSum is a packet that tells a sum.
func withSum(x impl.Packet, tick int, sum int) impl.Packet {
	x = copiedPacket(x)
	x.SumTick, x.Sum = tick, sum
	return x
}

func TestSuspects(t *testing.T) {
	p := halfway(t)
	for _, x := range goodPackets() {
		for tick := range 401 {
			// The peer has the sums for the ticks from 0 to 6.
			if tick > 6 {
				if got := impl.Suspects(p, withSum(x, tick, 5)); got {
					t.Fatalf("Suspects for a tick %d without a sum", tick)
				}
				continue
			}
			right := p.Sums[tick]
			if impl.Suspects(p, withSum(x, tick, right)) {
				t.Errorf("Suspects for the right sum at %d", tick)
			}
			for _, sum := range []int{right + 1, right - 1, 0, greatestSum, p.Sums[(tick+1)%7]} {
				if !impl.Suspects(p, withSum(x, tick, sum)) {
					t.Errorf("Suspects is false for the sum %d at %d", sum, tick)
				}
			}
		}
	}
	// Sums are whatever they are, also those that no packet can tell.
	for _, sum := range []int{-1, greatestSum + 1, math.MaxInt, math.MinInt} {
		p.Sums[4] = sum
		if !impl.Suspects(p, withSum(goodPackets()[0], 4, greatestSum)) {
			t.Errorf("Suspects is false where the own sum is %d", sum)
		}
	}
}

// TestSuspectsNobody has peers and packets that are not valid, each with one that is suspect.
func TestSuspectsNobody(t *testing.T) {
	p := halfway(t)
	x := withSum(goodPackets()[0], 6, 1)
	if !impl.Suspects(p, x) {
		t.Fatal("Suspects is false")
	}
	for _, bad := range badPackets() {
		if impl.Suspects(p, bad) {
			t.Errorf("Suspects for %v", bad)
		}
		if within := bad.SumTick >= 0 && bad.SumTick <= 400; within && impl.Suspects(p, withSum(bad, 2, bad.Sum)) {
			t.Errorf("Suspects for %v at 2", bad)
		}
	}
	for _, tick := range outside(0, 400) {
		if impl.Suspects(p, withSum(x, tick, 1)) {
			t.Errorf("Suspects at %d", tick)
		}
	}
	for _, sum := range outside(0, greatestSum) {
		if impl.Suspects(p, withSum(x, 6, sum)) {
			t.Errorf("Suspects for the sum %d", sum)
		}
	}
	for name, bad := range badPeers(t) {
		for _, tick := range []int{0, 1, 5, 6, 7} {
			if impl.Suspects(bad, withSum(x, tick, 1)) {
				t.Errorf("Suspects at %d with %s", tick, name)
			}
		}
	}
}

// checkDiagnose compares an alarm; one at the tick 0 is none.
func checkDiagnose(t *testing.T, what string, p impl.Peer, q impl.Peer, tick int, parts ...string) {
	t.Helper()
	want := impl.Alarm{Tick: tick, Parts: parts}
	if got, ok := impl.Diagnose(p, q); ok != (tick > 0) || !sameAlarm(got, want) {
		t.Errorf("Diagnose of %s = %v, %v; want %v", what, got, ok, want)
	}
}

func TestDiagnoseFollowsTheSums(t *testing.T) {
	p := confirmedPeer(t, []int{1, 2, 3, 4, 5, 6})
	for _, c := range []struct {
		sums []int
		tick int
	}{
		{[]int{1, 2, 3, 4, 5, 6}, 0}, {[]int{1, 2, 3, 9, 9, 9}, 3}, {[]int{1, 9, 9, 9, 9, 9, 9, 9}, 1}, {[]int{1, 2, 3, 4, 5, 9}, 5}, {[]int{1, 2, 9}, 2},
		{[]int{1, 2, 3}, 0}, {[]int{1}, 0}, {[]int{9}, 0}, {[]int{1, 9}, 1}, {[]int{9, 9, 9, 9}, 0}, {[]int{9, 2, 3, 4}, 0}, {[]int{1, 9, 9, 9, 9, 6}, 0},
		{[]int{1, 9, 3, 4, 5, 9}, 5}, {[]int{1, 2, 3, 4, 5, 6, 7, 8}, 0},
	} {
		q := confirmedPeer(t, c.sums)
		at, _ := plainHunt(p.Sums, q.Sums)
		if max(at, 0) != c.tick {
			t.Fatalf("the sums %v differ at %d", c.sums, at)
		}
		// The sums differ, but the worlds do not.
		checkDiagnose(t, "sums", p, q, c.tick)
		checkDiagnose(t, "sums", q, p, c.tick)
	}
}

// faultyPair are two peers of a game, the second one with a fault, that have confirmed some ticks.
func faultyPair(t *testing.T, f impl.Fault, n int, m int) (impl.Peer, impl.Peer) {
	t.Helper()
	g := arenaGame(t, 3, 2)
	h := gameOf(g.level, g.seed, 2, f, g.inputs)
	p := &plainPeer{game: g, ahead: 8, base: n, now: n + 2, known: []int{n + 4, n, n + 1}}
	q := &plainPeer{game: h, me: 1, ahead: 8, base: m, now: m, known: []int{m, m + 2, m}}
	return p.peer(), q.peer()
}

func TestDiagnoseOfAFault(t *testing.T) {
	f := impl.Fault{Tick: 9, Player: 2, Add: 4}
	for _, c := range []struct{ n, m, tick int }{
		{30, 30, 9}, {9, 30, 9}, {30, 9, 9}, {9, 9, 9}, {10, 9, 9}, {11, 300, 9}, {8, 30, 0}, {30, 8, 0}, {8, 8, 0}, {2, 2, 0}, {300, 1, 0}, {390, 390, 9},
	} {
		p, q := faultyPair(t, f, c.n, c.m)
		var parts []string
		clean := min(c.n, c.m)
		if c.tick > 0 {
			parts, clean = []string{"score 2"}, 8
		}
		checkDiagnose(t, "a fault", p, q, c.tick, parts...)
		checkDiagnose(t, "a fault", q, p, c.tick, parts...)
		if got, back := impl.CleanUpTo(p, q), impl.CleanUpTo(q, p); got != clean || back != clean {
			t.Errorf("CleanUpTo of %d and %d ticks = %d and %d; want %d", c.n, c.m, got, back, clean)
		}
		checkDiagnose(t, "a peer and itself", q, copiedPeer(q), 0)
	}
	p, q := faultyPair(t, impl.Fault{Tick: 9, Player: 2}, 30, 30)
	checkDiagnose(t, "a fault that changes nothing", p, q, 0)
	p, q = faultyPair(t, impl.Fault{Player: 2, Add: 4}, 30, 30)
	checkDiagnose(t, "a fault that is none", p, q, 0)
}

// TestDiagnoseOfTwoFaults has faults at different ticks, at the same one, and the same one.
func TestDiagnoseOfTwoFaults(t *testing.T) {
	g := arenaGame(t, 3, 0)
	at := func(f impl.Fault) impl.Peer {
		return (&plainPeer{game: gameOf(g.level, g.seed, 0, f, g.inputs), ahead: 8, base: 40, now: 40, known: []int{40, 40, 40}}).peer()
	}
	p := at(impl.Fault{Tick: 20, Player: 1, Add: 3})
	checkDiagnose(t, "a fault before", p, at(impl.Fault{Tick: 12, Player: 0, Add: 3}), 12, "score 0")
	checkDiagnose(t, "a fault behind", p, at(impl.Fault{Tick: 21, Player: 0, Add: 3}), 20, "score 1")
	checkDiagnose(t, "faults of two players", p, at(impl.Fault{Tick: 20, Player: 2, Add: 3}), 20, "score 1", "score 2")
	checkDiagnose(t, "faults of one player", p, at(impl.Fault{Tick: 20, Player: 1, Add: 4}), 20, "score 1")
	checkDiagnose(t, "the same fault", p, at(impl.Fault{Tick: 20, Player: 1, Add: 3}), 0)
}

// TestDiagnoseOfOtherGames has peers that began otherwise: their inputs, players and levels differ.
func TestDiagnoseOfOtherGames(t *testing.T) {
	still, run := make([]int, 400), slices.Repeat([]int{impl.PressRight}, 400)
	l := levelOf(t, "########/#1....2#/########")
	at := func(l impl.Level, seed int, inputs ...[]int) impl.Peer {
		known := slices.Repeat([]int{5}, len(inputs))
		return (&plainPeer{game: gameOf(l, seed, 0, impl.Fault{}, inputs), ahead: 8, base: 5, now: 5, known: known}).peer()
	}
	p := at(l, 7, still, still)
	checkDiagnose(t, "other inputs", p, at(l, 7, run, still), 1, "body 0")
	checkDiagnose(t, "all other inputs", p, at(l, 7, run, run), 1, "body 0", "body 1")
	// The new worlds have other sums already: no hunt begins.
	for what, q := range map[string]impl.Peer{"another seed": at(l, 8, still, still), "fewer players": at(l, 7, still)} {
		checkDiagnose(t, what, p, q, 0)
		if got := impl.CleanUpTo(p, q); got != -1 {
			t.Errorf("CleanUpTo with %s = %d", what, got)
		}
	}
	one := at(l, 7, run)
	one.Sums = append([]int{p.Sums[0]}, one.Sums[1:]...)
	checkDiagnose(t, "fewer players and a false sum", p, one, 1, "score 1", "body 0", "body 1")
	checkDiagnose(t, "more players and a false sum", one, p, 1, "body 0", "score 1", "body 1")
	q := at(levelOf(t, "########/#1....2#/#......#/########"), 7, still, still)
	checkDiagnose(t, "another level", p, q, 2, "body 0", "body 1")
}

func TestDiagnoseAndCleanUpToRejectBadPeers(t *testing.T) {
	_, good := faultyPair(t, impl.Fault{Tick: 3, Player: 2, Add: 4}, 6, 6)
	if at, ok := impl.Diagnose(halfway(t), good); !ok || at.Tick != 3 || impl.CleanUpTo(halfway(t), good) != 2 {
		t.Fatal("the good peers have no alarm", at)
	}
	for name, bad := range badPeers(t) {
		for _, pair := range [][2]impl.Peer{{good, bad}, {bad, good}, {bad, bad}, {bad, {}}} {
			checkDiagnose(t, name, pair[0], pair[1], 0)
			if got := impl.CleanUpTo(pair[0], pair[1]); got != -1 {
				t.Errorf("CleanUpTo with %s = %d", name, got)
			}
		}
	}
}

func TestCleanUpTo(t *testing.T) {
	peers := map[int][]impl.Peer{}
	for _, sums := range shortLists(4)[1:] {
		peers[len(sums)] = append(peers[len(sums)], confirmedPeer(t, sums))
	}
	for _, p := range slices.Concat(peers[1], peers[2], peers[3], peers[4]) {
		for _, q := range slices.Concat(peers[1], peers[2], peers[3], peers[4]) {
			want := 0
			for want < min(len(p.Sums), len(q.Sums)) && p.Sums[want] == q.Sums[want] {
				want++
			}
			if got := impl.CleanUpTo(p, q); got != want-1 {
				t.Fatalf("CleanUpTo of %v and %v = %d; want %d", p.Sums, q.Sums, got, want-1)
			}
		}
	}
}
