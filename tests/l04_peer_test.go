package tests

import (
	"math"
	"slices"
	"testing"

	"loop.example/g03315/impl"
)

// changedPeer is a peer of which one thing is changed.
func changedPeer(p impl.Peer, how func(p *impl.Peer)) impl.Peer {
	p = copiedPeer(p)
	how(&p)
	return p
}

// badPeers are peers of which one thing is not valid, by its name.
func badPeers(t *testing.T) map[string]impl.Peer {
	good := halfway(t)
	list := map[string]impl.Peer{"the zero Peer": {}}
	for name, how := range map[string]func(p *impl.Peer){
		"no such track":              func(p *impl.Peer) { p.Me = 3 },
		"a negative Me":              func(p *impl.Peer) { p.Me = -1 },
		"the Delay 6":                func(p *impl.Peer) { p.Delay = 6 },
		"the Ahead 9":                func(p *impl.Peer) { p.Ahead = 9 },
		"a lead past Ahead":          func(p *impl.Peer) { p.Ahead = 2 },
		"the Seed 65536":             func(p *impl.Peer) { p.Seed = 65536 },
		"too many Rolls":             func(p *impl.Peer) { p.Rolls = 1000001 },
		"negative Again":             func(p *impl.Peer) { p.Again = -1 },
		"no tracks":                  func(p *impl.Peer) { p.Tracks = nil },
		"a track too few":            func(p *impl.Peer) { p.Tracks = p.Tracks[:2] },
		"a track too many":           func(p *impl.Peer) { p.Tracks = append(p.Tracks, trackOf(slices.Clone(p.Tracks[0].Inputs)...)) },
		"an input 16":                func(p *impl.Peer) { p.Tracks[2].Inputs[13] = 16 },
		"a short track of others":    func(p *impl.Peer) { p.Tracks[0].Inputs = p.Tracks[0].Inputs[:5] },
		"a short own track":          func(p *impl.Peer) { p.Tracks[1].Inputs = p.Tracks[1].Inputs[:8] },
		"a track of 401":             func(p *impl.Peer) { p.Tracks[0].Inputs = make([]int, 401) },
		"no Base":                    func(p *impl.Peer) { p.Base = impl.World{} },
		"no Now":                     func(p *impl.Peer) { p.Now = impl.World{} },
		"a Base that is no world":    func(p *impl.Peer) { p.Base.Scores[0] = -1 },
		"a Now that is no world":     func(p *impl.Peer) { p.Now.Bodies[0].Aim = 0 },
		"another Level of Base":      func(p *impl.Peer) { p.Base.Level.Rows[1] = "#1.o.o..o.2#" },
		"another Level of Now":       func(p *impl.Peer) { p.Now.Level.Rows[1] = "#1.o.o..o.2#" },
		"two scores in Base":         func(p *impl.Peer) { p.Base = twoOf(p.Base) },
		"two scores in Now":          func(p *impl.Peer) { p.Now = twoOf(p.Now) },
		"a row too few":              func(p *impl.Peer) { p.Used = p.Used[:2] },
		"a row too many":             func(p *impl.Peer) { p.Used = append(p.Used, []int{0, 0, 0}) },
		"a short row":                func(p *impl.Peer) { p.Used[1] = p.Used[1][:2] },
		"a long row":                 func(p *impl.Peer) { p.Used[2] = append(p.Used[2], 0) },
		"an input -1 in a row":       func(p *impl.Peer) { p.Used[0][2] = -1 },
		"a save too few":             func(p *impl.Peer) { p.Saves = p.Saves[:2] },
		"a save too many":            func(p *impl.Peer) { p.Saves = append(p.Saves, impl.Save{Tick: 9, Delta: p.Saves[2].Delta}) },
		"a save of another tick":     func(p *impl.Peer) { p.Saves[1].Tick++ },
		"two saves that are swapped": func(p *impl.Peer) { p.Saves[0].Tick, p.Saves[1].Tick = 7, 6 },
		"a sum too few":              func(p *impl.Peer) { p.Sums = p.Sums[:6] },
		"a sum too many":             func(p *impl.Peer) { p.Sums = append(p.Sums, 0) },
		"no sums":                    func(p *impl.Peer) { p.Sums = nil },
		"a Now one tick later":       func(p *impl.Peer) { p.Now.Tick++ },
		"a Base one tick later":      func(p *impl.Peer) { p.Base.Tick++ },
		"a Now before Base":          func(p *impl.Peer) { p.Now.Tick, p.Used, p.Saves = 5, nil, nil },
	} {
		list[name] = changedPeer(good, how)
	}
	idle := idlePeer(t)
	list["an input 16 before the first tick"] = changedPeer(idle, func(p *impl.Peer) { p.Tracks[0].Inputs[1] = 16 })
	list["a track of 401 before the first tick"] = changedPeer(idle, func(p *impl.Peer) { p.Tracks[2].Inputs = make([]int, 401) })
	for _, f := range badFaults() {
		list["the fault "+impl.FormatInt(f.Tick)+" "+impl.FormatInt(f.Player)+" "+impl.FormatInt(f.Add)] = changedPeer(good, func(p *impl.Peer) { p.Fault = f })
	}
	return list
}

// idlePeer is a peer of player 1 of three that has played nothing.
func idlePeer(t *testing.T) impl.Peer {
	t.Helper()
	return (&plainPeer{game: arenaGame(t, 3, 2), me: 1, ahead: 5, known: []int{2, 2, 2}}).peer()
}

// twoOf is a valid world of the first two players.
func twoOf(w impl.World) impl.World {
	w = deepCopy(w)
	w.Scores, w.Bodies = w.Scores[:2], w.Bodies[:2]
	return w
}

func TestPeerOk(t *testing.T) {
	g := arenaGame(t, 3, 2)
	for _, p := range []plainPeer{
		{known: []int{2, 2, 2}}, {known: []int{9, 9, 9}, now: 9, base: 9}, {known: []int{9, 9, 9}, now: 9, base: 1}, {known: []int{0, 8, 0}, now: 8},
		{known: []int{400, 400, 400}, now: 400, base: 400}, {known: []int{392, 400, 400}, now: 400, base: 392}, {known: []int{6, 9, 7}, now: 9, base: 6},
		{known: []int{1, 1, 1}, now: 1, rolls: 1000000, again: 1000000},
	} {
		p.game, p.me, p.ahead = g, 1, 8
		q := p.peer()
		if !impl.PeerOk(q) {
			t.Errorf("PeerOk is false for %v", q)
		}
		if got := impl.LeadOf(q); got != p.now-p.base {
			t.Errorf("LeadOf = %d; want %d", got, p.now-p.base)
		}
		q.Ahead = max(p.now-p.base, 1)
		q.Sums = make([]int, p.base+1)
		if !impl.PeerOk(q) {
			t.Errorf("PeerOk is false with the Ahead %d for %v", q.Ahead, q)
		}
		q.Ahead = p.now - p.base - 1
		if impl.PeerOk(q) || impl.LeadOf(q) != -1 {
			t.Errorf("PeerOk is true with the Ahead %d for %v", q.Ahead, q)
		}
	}
	for name, bad := range badPeers(t) {
		if impl.PeerOk(bad) || impl.LeadOf(bad) != -1 {
			t.Errorf("PeerOk is true with %s", name)
		}
	}
}

func TestPeerOkNumbers(t *testing.T) {
	good := halfway(t)
	idle := idlePeer(t)
	for _, c := range []struct {
		name      string
		peer      impl.Peer
		set       func(p *impl.Peer, n int)
		low, high int
	}{
		{"Me", good, func(p *impl.Peer, n int) { p.Me = n }, 0, 2},
		{"Delay", good, func(p *impl.Peer, n int) { p.Delay = n }, 0, 5},
		{"Ahead", good, func(p *impl.Peer, n int) { p.Ahead = n }, 3, 8},
		{"Ahead of one that has played nothing", idle, func(p *impl.Peer, n int) { p.Ahead = n }, 1, 8},
		{"Seed", good, func(p *impl.Peer, n int) { p.Seed = n }, 0, 65535},
		{"Rolls", good, func(p *impl.Peer, n int) { p.Rolls = n }, 0, 1000000},
		{"Again", good, func(p *impl.Peer, n int) { p.Again = n }, 0, 1000000},
		{"the Tick of the fault", good, func(p *impl.Peer, n int) { p.Fault.Tick = n }, 0, 400},
		{"the Player of the fault", good, func(p *impl.Peer, n int) { p.Fault.Player = n }, 0, 2},
		{"the Add of the fault", good, func(p *impl.Peer, n int) { p.Fault.Add = n }, 0, 9},
		{"the Tick of Base", good, func(p *impl.Peer, n int) { p.Base.Tick = n }, 6, 6},
		{"the Tick of Now", good, func(p *impl.Peer, n int) { p.Now.Tick = n }, 9, 9},
		{"the Tick of the first save", good, func(p *impl.Peer, n int) { p.Saves[0].Tick = n }, 6, 6},
		{"the Tick of the last save", good, func(p *impl.Peer, n int) { p.Saves[2].Tick = n }, 8, 8},
		{"the first input of a row", good, func(p *impl.Peer, n int) { p.Used[0][0] = n }, 0, 15},
		{"the last input of a row", good, func(p *impl.Peer, n int) { p.Used[2][2] = n }, 0, 15},
		{"an input of a track", good, func(p *impl.Peer, n int) { p.Tracks[2].Inputs[0] = n }, 0, 15},
		{"the Seed of Base", good, func(p *impl.Peer, n int) { p.Base.Seed = n }, 0, 65535},
		{"the Seed of Now", good, func(p *impl.Peer, n int) { p.Now.Seed = n }, 0, 65535},
		{"a sum", good, func(p *impl.Peer, n int) { p.Sums[3] = n }, math.MinInt, math.MaxInt},
	} {
		for _, n := range []int{math.MinInt, -65536, -1, 0, 1, 2, 3, 4, 5, 6, 7, 8, 9, 10, 15, 16, 400, 401, 65535, 65536, 1000000, 1000001, 1 << 32, math.MaxInt} {
			p := changedPeer(c.peer, func(p *impl.Peer) { c.set(p, n) })
			if got := impl.PeerOk(p); got != (n >= c.low && n <= c.high) {
				t.Errorf("PeerOk with %d as %s = %v", n, c.name, got)
			}
		}
	}
}

// TestPeerOkLengths changes how many elements each list has.
func TestPeerOkLengths(t *testing.T) {
	good := halfway(t)
	for n := range 20 {
		for name, c := range map[string]struct {
			low, high int
			how       func(p *impl.Peer)
		}{
			"rows":           {3, 3, func(p *impl.Peer) { p.Used = slices.Repeat([][]int{{0, 0, 0}}, n) }},
			"inputs":         {3, 3, func(p *impl.Peer) { p.Used[1] = make([]int, n) }},
			"saves":          {3, 3, func(p *impl.Peer) { p.Saves = manySaves(p.Saves, n) }},
			"sums":           {7, 7, func(p *impl.Peer) { p.Sums = make([]int, n) }},
			"known inputs":   {6, 20, func(p *impl.Peer) { p.Tracks[0].Inputs = make([]int, n) }},
			"own inputs":     {9, 20, func(p *impl.Peer) { p.Tracks[1].Inputs = make([]int, n) }},
			"tracks":         {3, 3, func(p *impl.Peer) { p.Tracks = slices.Repeat([]impl.Track{p.Tracks[1]}, n) }},
			"rows and saves": {3, 3, func(p *impl.Peer) { p.Used, p.Saves = slices.Repeat([][]int{{0, 0, 0}}, n), manySaves(p.Saves, n) }},
		} {
			if got, want := impl.PeerOk(changedPeer(good, c.how)), n >= c.low && n <= c.high; got != want {
				t.Errorf("PeerOk with %d %s = %v", n, name, got)
			}
		}
	}
}

// manySaves are n saves with ascending ticks.
func manySaves(saves []impl.Save, n int) []impl.Save {
	list := make([]impl.Save, n)
	for k := range list {
		list[k] = impl.Save{Tick: saves[0].Tick + k, Delta: saves[0].Delta}
	}
	return list
}

// TestPeerOkIsAboutTicksAlone has worlds and deltas that do not follow from one another.
func TestPeerOkIsAboutTicksAlone(t *testing.T) {
	for name, how := range map[string]func(p *impl.Peer){
		"another Now":   func(p *impl.Peer) { p.Now.Bodies[0].Timer = 5 },
		"another Base":  func(p *impl.Peer) { p.Base.Seed = 3 },
		"another Seed":  func(p *impl.Peer) { p.Seed = 3 },
		"wrong rows":    func(p *impl.Peer) { p.Used = [][]int{{15, 14, 13}, {12, 11, 10}, {9, 8, 7}} },
		"no deltas":     func(p *impl.Peer) { p.Saves = []impl.Save{{Tick: 6}, {Tick: 7}, {Tick: 8}} },
		"strange sums":  func(p *impl.Peer) { p.Sums = []int{-1, 0, 1, math.MaxInt, math.MinInt, 5, 5} },
		"a later fault": func(p *impl.Peer) { p.Fault = impl.Fault{Tick: 400, Player: 2, Add: 9} },
	} {
		if p := changedPeer(halfway(t), how); !impl.PeerOk(p) || impl.LeadOf(p) != 3 {
			t.Errorf("PeerOk is false with %s", name)
		}
	}
}

func TestNewPeer(t *testing.T) {
	for players := 1; players <= 4; players++ {
		for delay := range 6 {
			g := arenaGame(t, players, delay)
			for me := range players {
				for _, ahead := range []int{1, 2, 8} {
					for _, f := range []impl.Fault{{}, {Tick: 400, Player: players - 1, Add: 9}} {
						g.fault = f
						want := newPlainPeer(g, me, ahead).peer()
						got, ok := impl.NewPeer(g.level, players, g.seed, me, delay, ahead, f)
						wantPeer(t, "NewPeer", got, ok, want, true)
						if !impl.PeerOk(got) || !memoryIsApart(got, g.level) {
							t.Fatalf("NewPeer = %v is not valid, or shares memory", got)
						}
					}
				}
			}
		}
	}
	l := levelOf(t, arena)
	for _, seed := range []int{0, 65535} {
		if p, ok := impl.NewPeer(l, 1, seed, 0, 0, 1, impl.Fault{}); !ok || p.Seed != seed || p.Base.Seed != seed || p.Now.Seed != seed {
			t.Errorf("NewPeer with the seed %d = %v, %v", seed, p, ok)
		}
	}
}

func TestNewPeerRejects(t *testing.T) {
	l := levelOf(t, arena)
	check := func(l impl.Level, players int, seed int, me int, delay int, ahead int, f impl.Fault) {
		t.Helper()
		got, ok := impl.NewPeer(l, players, seed, me, delay, ahead, f)
		wantPeer(t, "NewPeer", got, ok, impl.Peer{}, false)
	}
	for _, n := range []int{math.MinInt, -1, 0, 5, 100, math.MaxInt} {
		check(l, n, 1, 0, 2, 3, impl.Fault{})
	}
	for _, n := range []int{math.MinInt, -1, 65536, math.MaxInt} {
		check(l, 3, n, 0, 2, 3, impl.Fault{})
	}
	for _, n := range []int{math.MinInt, -1, 3, 4, math.MaxInt} {
		check(l, 3, 1, n, 2, 3, impl.Fault{})
	}
	for _, n := range []int{math.MinInt, -1, 6, 400, 401, 1 << 40, math.MaxInt} {
		check(l, 3, 1, 0, n, 3, impl.Fault{})
	}
	for _, n := range []int{math.MinInt, -1, 0, 9, math.MaxInt} {
		check(l, 3, 1, 0, 2, n, impl.Fault{})
	}
	for _, f := range badFaults() {
		check(l, 3, 1, 0, 2, 3, f)
	}
	for _, bad := range []impl.Level{{}, boxOf(2, 8), boxOf(4, 21), withTile(l, 0, 0, '.'), withTile(l, 2, 3, 'x')} {
		check(bad, 3, 1, 0, 2, 3, impl.Fault{})
	}
}
