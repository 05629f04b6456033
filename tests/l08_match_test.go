package tests

import (
	"math"
	"slices"
	"testing"

	"loop.example/g03315/impl"
)

// matchCalls are all functions that change a match, with arguments that do something in a match of
// three players and two watchers; each says whether it did anything, if it says so at all.
func matchCalls() map[string]func(m impl.Match) (impl.Match, bool) {
	only := func(m impl.Match) (impl.Match, bool) { return m, false }
	return map[string]func(m impl.Match) (impl.Match, bool){
		"HearPeer":     func(m impl.Match) (impl.Match, bool) { return only(impl.HearPeer(m, 1, 2)) },
		"PlayPeer":     func(m impl.Match) (impl.Match, bool) { return only(impl.PlayPeer(m, 0)) },
		"TellPeer":     func(m impl.Match) (impl.Match, bool) { return only(impl.TellPeer(m, 2, 0)) },
		"ServeWatcher": func(m impl.Match) (impl.Match, bool) { return only(impl.ServeWatcher(m, 0)) },
		"StepMatch":    func(m impl.Match) (impl.Match, bool) { return only(impl.StepMatch(m)) },
		"RunMatch":     func(m impl.Match) (impl.Match, bool) { return only(impl.RunMatch(m, 2)) },
		"JoinWatcher":  impl.JoinWatcher,
		"SetWire":      func(m impl.Match) (impl.Match, bool) { return impl.SetWire(m, 0, 1, impl.Wire{Delay: 3}) },
		"MendWires":    func(m impl.Match) (impl.Match, bool) { return only(impl.MendWires(m)) },
		"SettleMatch":  func(m impl.Match) (impl.Match, bool) { return only(impl.SettleMatch(m)) },
		"ActRun":       func(m impl.Match) (impl.Match, bool) { return impl.DoAct(m, impl.Act{Kind: 0, N: 1}) },
		"ActRun of 0":  func(m impl.Match) (impl.Match, bool) { return impl.DoAct(m, impl.Act{Kind: 0}) },
		"ActWire":      func(m impl.Match) (impl.Match, bool) { return impl.DoAct(m, impl.Act{Kind: 1, To: 1}) },
		"ActJoin":      func(m impl.Match) (impl.Match, bool) { return impl.DoAct(m, impl.Act{Kind: 2}) },
		"ActMend":      func(m impl.Match) (impl.Match, bool) { return impl.DoAct(m, impl.Act{Kind: 3}) },
		"ActDrop":      func(m impl.Match) (impl.Match, bool) { return impl.DoAct(m, impl.Act{Kind: 4, From: 1}) },
		"no act":       func(m impl.Match) (impl.Match, bool) { return impl.DoAct(m, impl.Act{Kind: 5}) },
		"RunActs": func(m impl.Match) (impl.Match, bool) {
			return only(impl.RunActs(m, []impl.Act{{Kind: 2}, {Kind: 3}, {Kind: 0, N: 2}, {Kind: 4, To: 2}}))
		},
	}
}

// TestBadMatchesRemain has matches with which nothing can be done.
func TestBadMatchesRemain(t *testing.T) {
	for name, bad := range badMatches(t) {
		if impl.MatchOk(bad) {
			t.Errorf("MatchOk is true with %s", name)
		}
		for call, do := range matchCalls() {
			got, ok := do(bad)
			mustMatch(t, call+" with "+name, got, ok, bad, false)
		}
		w, ok := impl.LockstepAt(bad, 3, impl.Fault{})
		wantWorld(t, "LockstepAt with "+name, w, ok, impl.World{})
		if impl.TicksApart(bad) != -1 || impl.JudgeMatch(bad) {
			t.Errorf("TicksApart = %d with %s, or the match is judged right", impl.TicksApart(bad), name)
		}
		for k := -1; k < 4; k++ {
			if impl.JudgePeer(bad, k) || impl.JudgeWatcher(bad, k) {
				t.Errorf("peer or watcher %d is judged right with %s", k, name)
			}
		}
	}
}

func TestBadWiresAndPacesAreBad(t *testing.T) {
	good := busyMatch(t)
	for _, bad := range badWires() {
		for _, how := range []func(m *impl.Match){
			func(m *impl.Match) { m.Wires[1][2] = bad }, func(m *impl.Match) { m.Wires[0][0] = bad }, func(m *impl.Match) { m.Lines[1] = bad },
		} {
			m := good
			m.Wires, m.Lines = eachOf(good.Wires, slices.Clone[[]impl.Wire]), slices.Clone(good.Lines)
			if how(&m); impl.MatchOk(m) {
				t.Fatalf("MatchOk is true with the wire %s", brief(bad))
			}
		}
	}
	for _, bad := range badPaces() {
		if impl.MatchOk(changedMatch(good, func(m *impl.Match) { m.Paces[2][0] = bad })) {
			t.Fatalf("MatchOk is true with the pace %v", bad)
		}
	}
}

// TestBadPeersAndWorldsAreBad has a peer and a watcher that are valid before one thing is changed.
func TestBadPeersAndWorldsAreBad(t *testing.T) {
	p := halfway(t)
	m, ok := impl.NewMatch(p.Base.Level, someScripts(3), p.Seed, p.Delay, 4, make([]impl.Fault, 3), impl.Wire{})
	if m.Peers[1] = p; !ok || !impl.MatchOk(m) {
		t.Fatal("the match is not valid")
	}
	for name, bad := range badPeers(t) {
		if m.Peers[1] = bad; impl.MatchOk(m) {
			t.Errorf("MatchOk is true with %s", name)
		}
		wantMatch(t, "PlayPeer with "+name, impl.PlayPeer(m, 1), m)
	}
	w := busyWorld(t)
	m, ok = impl.NewMatch(w.Level, someScripts(2), 5, 2, 4, make([]impl.Fault, 2), impl.Wire{})
	m.Watchers, m.Lines = []impl.Spectator{{World: w}}, []impl.Wire{{}}
	if !ok || !impl.MatchOk(m) {
		t.Fatal("the match with a watcher is not valid")
	}
	for k, bad := range badWorlds(t) {
		if m.Watchers[0].World = bad; impl.MatchOk(m) {
			t.Errorf("MatchOk is true with the world %d", k)
		}
		wantMatch(t, "ServeWatcher of a bad world", impl.ServeWatcher(m, 0), m)
	}
}

// TestMatchOk changes what may be otherwise.
func TestMatchOk(t *testing.T) {
	good := busyMatch(t)
	changes := map[string]func(m *impl.Match){
		"nothing":        func(m *impl.Match) {},
		"the Clock 0":    func(m *impl.Match) { m.Clock = 0 },
		"the Clock 1000": func(m *impl.Match) { m.Clock = 1000 },
		"Bad of 0":       func(m *impl.Match) { m.Bad = 0 },
		"Bad of 999999":  func(m *impl.Match) { m.Bad = 999999 },
		"Bad of 1000000": func(m *impl.Match) { m.Bad = 1000000 },
		"no Acks known":  func(m *impl.Match) { m.Acks = [][]int{{0, 0, 0}, {0, 0, 0}, {0, 0, 0}} },
		"other scripts":  func(m *impl.Match) { m.Scripts = [][]int{make([]int, 400), {15}, {0}} },
		"great wires": func(m *impl.Match) {
			m.Wires[1][1], m.Wires[0][2], m.Lines[0] = greatestWire(), greatestWire(), greatestWire()
		},
		"great paces":           func(m *impl.Match) { m.Paces[0][0] = paceOf(1000001, 1000001, 1000001, 1000001, 1000001) },
		"no watchers":           func(m *impl.Match) { m.Watchers, m.Lines = nil, nil },
		"other gaps":            func(m *impl.Match) { m.Watchers[0].Gaps, m.Watchers[1].Gaps = -5, math.MaxInt },
		"a watcher far ahead":   func(m *impl.Match) { m.Watchers[1].World.Tick = 100000 },
		"strange alarms":        func(m *impl.Match) { m.Alarms = []impl.Alarm{{Tick: -4}, {Tick: -4, Parts: []string{"", "x,y"}}, {}} },
		"others who go ahead":   func(m *impl.Match) { m.Peers[0].Ahead, m.Peers[1].Ahead = 8, 7 },
		"another score of Base": func(m *impl.Match) { m.Peers[0].Base.Scores[0] += 5 },
		"three watchers": func(m *impl.Match) {
			m.Watchers, m.Lines = append(m.Watchers, m.Watchers[0]), append(m.Lines, impl.Wire{})
		},
		"the greatest Acks": func(m *impl.Match) {
			for i := range m.Acks {
				m.Acks[i] = slices.Repeat([]int{len(m.Peers[i].Tracks[i].Inputs)}, 3)
			}
		},
	}
	for name, how := range changes {
		if !impl.MatchOk(changedMatch(good, how)) {
			t.Errorf("MatchOk is false with %s", name)
		}
	}
	for players := 1; players <= 4; players++ {
		for delay := 0; delay <= 5; delay++ {
			for _, ahead := range []int{1, 8} {
				if m := matchOf(t, players, delay, ahead, greatestWire()); !impl.MatchOk(m) || !impl.MatchOk(impl.RunMatch(m, 7)) {
					t.Errorf("MatchOk is false for %d players, the delay %d and %d ahead", players, delay, ahead)
				}
			}
		}
	}
}

func TestNewMatch(t *testing.T) {
	l := levelOf(t, arena)
	w := busyWire()
	w.Seed = 65500
	for players := 1; players <= 4; players++ {
		for _, seed := range []int{0, 1, 65535} {
			for delay := 0; delay <= 5; delay++ {
				scripts, ahead := someScripts(players), 1+(delay+players)%8
				faults := []impl.Fault{{Tick: 400, Add: 9}, {}, {Tick: 3, Player: 1, Add: 2}, {Player: 2}}[:players]
				want := impl.Match{Level: l, Seed: seed, Delay: delay, Scripts: scripts}
				for i := range players {
					p, ok := impl.NewPeer(l, players, seed, i, delay, ahead, faults[i])
					if !ok {
						t.Fatal("no peer", i)
					}
					want.Peers = append(want.Peers, p)
					var wires []impl.Wire
					for j := range players {
						wires = append(wires, impl.Wire{Seed: (65500 + 100*i + j) % 65536, Delay: 3, Jitter: 4, Loss: 30, Copies: 40, Damage: 50})
					}
					want.Wires = append(want.Wires, wires)
					want.Paces = append(want.Paces, make([]impl.Pace, players))
					want.Acks = append(want.Acks, []int{delay, delay, delay, delay}[:players])
				}
				got, ok := impl.NewMatch(l, scripts, seed, delay, ahead, faults, w)
				mustMatch(t, "NewMatch", got, ok, want, true)
				if !impl.MatchOk(got) || !impl.JudgeMatch(got) || impl.TicksApart(got) != 0 {
					t.Error("the new match is not right")
				}
			}
		}
	}
}

func TestNewMatchRejects(t *testing.T) {
	l, w := levelOf(t, arena), impl.Wire{Delay: 2}
	check := func(what string, l impl.Level, scripts [][]int, seed int, delay int, ahead int, faults []impl.Fault, w impl.Wire) {
		t.Helper()
		got, ok := impl.NewMatch(l, scripts, seed, delay, ahead, faults, w)
		mustMatch(t, "NewMatch with "+what, got, ok, impl.Match{}, false)
	}
	two, none := someScripts(2), make([]impl.Fault, 2)
	if _, ok := impl.NewMatch(l, two, 1, 1, 4, none, w); !ok {
		t.Fatal("NewMatch of what is right gives false")
	}
	for n := range 6 {
		if n != 2 {
			check("other faults", l, two, 1, 1, 4, make([]impl.Fault, n), w)
			check("other scripts", l, append(someScripts(4), []int{1})[:n], 1, 1, 4, none, w)
		}
	}
	check("no players", l, nil, 1, 1, 4, nil, w)
	check("five players", l, append(someScripts(4), []int{1}), 1, 1, 4, make([]impl.Fault, 5), w)
	check("too many players", l, make([][]int, 1000000), 1, 1, 4, make([]impl.Fault, 1000000), w)
	for _, bad := range []impl.Level{{}, boxOf(2, 12), withTile(l, 0, 0, '.'), withTile(l, 1, 1, '5')} {
		check("a bad level", bad, two, 1, 1, 4, none, w)
	}
	for _, bad := range badScripts() {
		check("a bad script", l, [][]int{bad, {1}}, 1, 1, 4, none, w)
		check("a bad last script", l, [][]int{{1}, bad}, 1, 1, 4, none, w)
	}
	for _, n := range outside(0, 65535) {
		check("a bad seed", l, two, n, 1, 4, none, w)
	}
	for _, n := range outside(0, 5) {
		check("a bad delay", l, two, 1, n, 4, none, w)
	}
	for _, n := range outside(1, 8) {
		check("a bad ahead", l, two, 1, 1, n, none, w)
	}
	for _, f := range badFaults() {
		check("a bad fault", l, two, 1, 1, 4, []impl.Fault{{}, f}, w)
	}
	for _, bad := range badWires() {
		check("a bad wire", l, two, 1, 1, 4, none, bad)
	}
}

func TestTrueInput(t *testing.T) {
	for delay := range 6 {
		m := matchOf(t, 3, delay, 4, impl.Wire{})
		for player := range 3 {
			for tick := range 450 {
				if got, want := impl.TrueInput(m, player, tick), plainTrue(&m, player, tick); got != want {
					t.Fatalf("TrueInput of player %d at %d = %d; want %d with the delay %d", player, tick, got, want, delay)
				}
			}
			if got, want := impl.TrueInput(m, player, impl.MaxTick+1), plainTrue(&m, player, impl.MaxTick+1); got != want {
				t.Errorf("TrueInput behind MaxTick = %d; want %d", got, want)
			}
			for _, tick := range []int{-1, math.MinInt} {
				if got := impl.TrueInput(m, player, tick); got != -1 {
					t.Errorf("TrueInput at %d = %d", tick, got)
				}
			}
		}
		for _, player := range outside(0, 2) {
			if got := impl.TrueInput(m, player, 5); got != -1 {
				t.Errorf("TrueInput of player %d = %d", player, got)
			}
		}
	}
	// Only the script and Delay count.
	if got := impl.TrueInput(impl.Match{Delay: 1, Scripts: [][]int{nil, {7, 9}}}, 1, 4); got != 9 {
		t.Errorf("TrueInput of a match that has only scripts = %d", got)
	}
	for _, bad := range []impl.Match{{}, {Scripts: [][]int{nil}}, {Scripts: [][]int{{16}}}, {Scripts: [][]int{{1}}, Delay: 6}, {Scripts: [][]int{{1}}, Delay: -1}, {Scripts: [][]int{make([]int, 401)}}} {
		if got := impl.TrueInput(bad, 0, 3); got != -1 {
			t.Errorf("TrueInput of %v = %d", brief(bad), got)
		}
	}
}
