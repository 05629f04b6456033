package tests

import (
	"math/rand"
	"slices"
	"testing"

	"loop.example/g03315/impl"
)

// trial is a match that is looked at while it goes on, and the games that its peers follow.
type trial struct {
	m     impl.Match
	right *game
	games []*game
}

func trialOf(m impl.Match) *trial {
	o := &trial{m: m, right: scripted(m, impl.Fault{})}
	for _, p := range m.Peers {
		g := o.right
		if p.Fault.Add > 0 {
			g = scripted(m, p.Fault)
		}
		o.games = append(o.games, g)
	}
	return o
}

// oneFault are the faults of players of whom only one makes a mistake, who is not the first one.
func oneFault(r *rand.Rand, players int) []impl.Fault {
	faults := make([]impl.Fault, players)
	if players > 1 {
		faults[1+r.Intn(players-1)] = impl.Fault{Tick: 1 + r.Intn(50), Player: r.Intn(players), Add: 1 + r.Intn(9)}
	}
	return faults
}

// look sees that all worlds that are confirmed are those of the scripts, and nobody is too far ahead.
func (o *trial) look(t *testing.T) {
	t.Helper()
	m := o.m
	if !impl.MatchOk(m) || !impl.JudgeMatch(m) {
		t.Fatal("the match is not right at the clock", m.Clock)
	}
	ahead := m.Peers[0].Ahead
	for i, p := range m.Peers {
		g, tick := o.games[i], p.Base.Tick
		if !plainSame(p.Base, g.worlds[tick]) || !slices.Equal(p.Sums, g.sums[:tick+1]) {
			t.Fatalf("peer %d has another world at %d", i, tick)
		}
		if p.Now.Tick > tick+ahead || p.Now.Tick < tick || len(p.Tracks[i].Inputs) > p.Now.Tick+m.Delay+1 {
			t.Fatalf("peer %d is at %d and %d with %d inputs", i, tick, p.Now.Tick, len(p.Tracks[i].Inputs))
		}
		for k, track := range p.Tracks {
			if known := track.Inputs; !slices.Equal(known, o.right.inputs[k][:len(known)]) || len(known) > len(m.Peers[k].Tracks[k].Inputs) {
				t.Fatalf("peer %d knows other inputs of player %d", i, k)
			}
		}
	}
	if apart := impl.TicksApart(m); apart > ahead+m.Delay+1 {
		t.Fatalf("the peers are %d ticks apart", apart)
	}
	for k, s := range m.Watchers {
		if s.World.Tick > m.Peers[0].Base.Tick || s.Gaps != 0 || !plainSame(s.World, o.right.worlds[s.World.Tick]) {
			t.Fatalf("watcher %d sees another world at %d, or has %d gaps", k, s.World.Tick, s.Gaps)
		}
	}
	o.lookAtAlarms(t)
}

// lookAtAlarms sees that nothing is told but what a fault has changed, and that once.
func (o *trial) lookAtAlarms(t *testing.T) {
	t.Helper()
	var told []string
	for _, a := range o.m.Alarms {
		text := impl.FormatAlarm(a)
		if slices.Contains(told, text) || !slices.Contains(o.texts(false), text) {
			t.Fatalf("the alarm %q, behind %v", text, told)
		}
		told = append(told, text)
	}
}

// texts tell in what each two games differ first, or only if both peers have passed that.
func (o *trial) texts(passed bool) []string {
	var list []string
	for i, p := range o.m.Peers {
		for j, q := range o.m.Peers[:i] {
			a, b := o.games[i].worlds, o.games[j].worlds
			tick := 0
			for tick < 400 && plainSame(a[tick], b[tick]) {
				tick++
			}
			parts := plainDiffer(a[tick], b[tick])
			if parts != nil && (!passed || min(p.Base.Tick, q.Base.Tick) >= tick) {
				list = append(list, impl.FormatAlarm(impl.Alarm{Tick: tick, Parts: parts}))
			}
		}
	}
	return list
}

// settle lets all arrive, and sees that all know then what there is to know.
func (o *trial) settle(t *testing.T) {
	t.Helper()
	before := o.m
	o.m = impl.SettleMatch(o.m)
	o.look(t)
	inputs := 400
	for i, p := range o.m.Peers {
		inputs = min(inputs, len(p.Tracks[i].Inputs))
	}
	for i, p := range o.m.Peers {
		if want := min(inputs, p.Now.Tick); p.Base.Tick != want || p.Now.Tick != before.Peers[i].Now.Tick {
			t.Fatalf("peer %d confirms %d after all has arrived; want %d", i, p.Base.Tick, want)
		}
	}
	for k, s := range o.m.Watchers {
		if !plainSame(s.World, o.right.worlds[o.m.Peers[0].Base.Tick]) {
			t.Fatalf("watcher %d sees the tick %d after all has arrived, and not %d", k, s.World.Tick, o.m.Peers[0].Base.Tick)
		}
	}
	for _, text := range o.texts(true) {
		if !slices.ContainsFunc(o.m.Alarms, func(a impl.Alarm) bool { return impl.FormatAlarm(a) == text }) {
			t.Fatalf("%q is not told after all has arrived, but %v", text, o.m.Alarms)
		}
	}
}

// record sees that the replays of all peers are those of the scripts.
func (o *trial) record(t *testing.T, every int) {
	t.Helper()
	for _, p := range o.m.Peers {
		rec, ok := impl.RecordPeer(p, every)
		wantReplay(t, "RecordPeer", rec, ok, o.right.replay(every, p.Base.Tick), true)
		for tick := 0; tick <= p.Base.Tick; tick += 1 + p.Base.Tick/9 {
			checkSeek(t, "a replay of a match", rec, tick, o.right.worlds[tick])
		}
	}
}

// act does something at random: it cuts wires, changes them or drops what is on its way, lets somebody
// join, or lets the match go on.
func (o *trial) act(r *rand.Rand) {
	players := len(o.m.Peers)
	a := impl.Act{Kind: r.Intn(5), From: r.Intn(players), To: r.Intn(players), N: r.Intn(30), Wire: roughWire(r)}
	if r.Intn(3) == 0 {
		a.Wire.Loss = 100
	}
	if a.Kind == impl.ActMend && r.Intn(4) > 0 {
		a.Kind = impl.ActRun
	}
	o.m, _ = impl.DoAct(o.m, a)
}

// TestWhateverWiresDo lets wires lose, delay, copy and damage, and be cut and changed.
func TestWhateverWiresDo(t *testing.T) {
	r := rand.New(rand.NewSource(809))
	confirmed, alarms, seen, bad, rolls := 0, 0, 0, 0, 0
	for n := range 18 {
		players := 1 + r.Intn(4)
		faults := make([]impl.Fault, players)
		if n%2 == 0 {
			faults = oneFault(r, players)
		}
		o := trialOf(roughMatch(t, r, players, faults...))
		for range 3 {
			for range 20 {
				o.act(r)
				o.look(t)
			}
			o.settle(t)
		}
		o.record(t, 1+r.Intn(100))
		alarms += len(o.m.Alarms)
		for _, s := range o.m.Watchers {
			seen += s.World.Tick
		}
		for _, p := range o.m.Peers {
			confirmed, rolls = confirmed+p.Base.Tick, rolls+p.Rolls
		}
		bad += o.m.Bad
	}
	// Matches in which nothing happens would prove little.
	if confirmed < 2000 || alarms < 6 || seen < 1000 || bad < 200 || rolls < 300 {
		t.Errorf("only %d ticks, %d alarms, %d ticks seen, %d bad data and %d rolls", confirmed, alarms, seen, bad, rolls)
	}
}

// TestEachUnitOfTime looks at matches after each unit of time.
func TestEachUnitOfTime(t *testing.T) {
	r := rand.New(rand.NewSource(810))
	for range 6 {
		players := 2 + r.Intn(3)
		o := trialOf(roughMatch(t, r, players, oneFault(r, players)...))
		o.m, _ = impl.JoinWatcher(o.m)
		for unit := range 120 {
			if unit%40 == 20 {
				o.m, _ = impl.JoinWatcher(o.m)
			}
			o.m = impl.StepMatch(o.m)
			o.look(t)
		}
		o.settle(t)
		o.record(t, 7)
	}
}

// TestFaultsAreTold has a fault of each peer, the first one included, at ticks early and late.
func TestFaultsAreTold(t *testing.T) {
	r := rand.New(rand.NewSource(811))
	for range 12 {
		players := 2 + r.Intn(3)
		faults := make([]impl.Fault, players)
		f := impl.Fault{Tick: 1 + r.Intn(25), Player: r.Intn(players), Add: 1 + r.Intn(9)}
		faulty := r.Intn(players)
		faults[faulty] = f
		o := trialOf(roughMatch(t, r, players, faults...))
		o.m, _ = impl.JoinWatcher(o.m)
		for slices.ContainsFunc(o.m.Peers, func(p impl.Peer) bool { return p.Base.Tick < f.Tick }) {
			if o.m.Clock == 1000 {
				t.Fatal("the peers do not come to the fault", f)
			}
			o.m = impl.StepMatch(o.m)
			o.look(t)
		}
		o.settle(t)
		want := impl.Alarm{Tick: f.Tick, Parts: []string{"score " + impl.FormatInt(f.Player)}}
		if !slices.EqualFunc(o.m.Alarms, []impl.Alarm{want}, sameAlarm) {
			t.Errorf("the alarms are %v with the fault %v", o.m.Alarms, f)
		}
		var lists [][]int
		for _, p := range o.m.Peers {
			lists = append(lists, p.Sums)
		}
		if blamed := impl.Blame(lists, f.Tick); players > 2 && blamed != faulty {
			t.Errorf("peer %d is blamed, and not %d", blamed, faulty)
		}
	}
}

// TestTwoFaultsAreTold has two peers with faults in the scores of different players.
func TestTwoFaultsAreTold(t *testing.T) {
	r := rand.New(rand.NewSource(812))
	for _, ticks := range [][2]int{{9, 9}, {4, 17}, {20, 3}} {
		faults := []impl.Fault{{}, {Tick: ticks[0], Player: 2, Add: 5}, {Tick: ticks[1], Player: 0, Add: 2}}
		o := trialOf(roughMatch(t, r, 3, faults...))
		for o.m.Clock < 1000 && slices.ContainsFunc(o.m.Peers, func(p impl.Peer) bool { return p.Base.Tick < 20 }) {
			o.m = impl.StepMatch(o.m)
			o.look(t)
		}
		o.settle(t)
		want := o.texts(false)
		slices.Sort(want)
		if want = slices.Compact(want); len(o.m.Alarms) != len(want) || len(want) < 2 {
			t.Errorf("the alarms are %v; want %v", o.m.Alarms, want)
		}
	}
}

// TestNobodyGoesBack has inputs that count as late as they arrive, or later.
func TestNobodyGoesBack(t *testing.T) {
	r := rand.New(rand.NewSource(813))
	for lag := 0; lag <= 5; lag++ {
		for delay := max(lag, 1); delay <= 5; delay++ {
			players := 1 + r.Intn(4)
			w := impl.Wire{Seed: r.Intn(65536), Delay: lag, Copies: 100 * r.Intn(2)}
			m, ok := impl.NewMatch(randomLevel(r), someScripts(players), 7, delay, 1+r.Intn(8), make([]impl.Fault, players), w)
			if !ok {
				t.Fatal("no match")
			}
			for range 60 {
				m = impl.StepMatch(m)
				for i, p := range m.Peers {
					if p.Rolls != 0 || p.Again != 0 || p.Base.Tick != p.Now.Tick {
						t.Fatalf("peer %d confirms %d of %d, and went back %d times, with the delays %d and %d", i, p.Base.Tick, p.Now.Tick, p.Rolls, lag, delay)
					}
				}
			}
			if m.Peers[0].Base.Tick < 40 || !impl.JudgeMatch(m) || m.Bad != 0 || len(m.Alarms) != 0 {
				t.Errorf("the match comes to %d with the delays %d and %d", m.Peers[0].Base.Tick, lag, delay)
			}
		}
	}
}

// TestNobodyGoesOnAlone cuts all wires, or those of one peer.
func TestNobodyGoesOnAlone(t *testing.T) {
	for ahead := 1; ahead <= 8; ahead++ {
		for delay := range 6 {
			m := impl.RunMatch(matchOf(t, 3, delay, ahead, impl.Wire{Loss: 100}), 30)
			for i, p := range m.Peers {
				if p.Now.Tick != delay+ahead || p.Base.Tick != delay || len(p.Tracks[i].Inputs) != p.Now.Tick+delay+1 {
					t.Fatalf("peer %d comes to %d and confirms %d with the delay %d and %d ahead", i, p.Now.Tick, p.Base.Tick, delay, ahead)
				}
			}
			o := trialOf(matchOf(t, 3, delay, ahead, impl.Wire{Delay: 1}))
			o.m = impl.RunMatch(o.m, 20)
			for _, pair := range [][2]int{{0, 2}, {1, 2}, {2, 0}, {2, 1}} {
				o.m, _ = impl.SetWire(o.m, pair[0], pair[1], impl.Wire{Loss: 100})
			}
			before := o.m.Peers[0].Base.Tick
			o.m = impl.RunMatch(o.m, 60)
			o.look(t)
			if now := o.m.Peers[0].Now.Tick; now > before+ahead+delay+1 {
				t.Errorf("a peer goes on from %d to %d without another one", before, now)
			}
			o.settle(t)
			o.m = impl.RunMatch(o.m, 40)
			o.look(t)
			if now := o.m.Peers[0].Now.Tick; now < before+25 {
				t.Errorf("a peer comes from %d to %d after the wires are mended", before, now)
			}
		}
	}
}

// TestDamagedDataDoesNoHarm counts what has arrived on wires that damage all, or nothing.
func TestDamagedDataDoesNoHarm(t *testing.T) {
	for players := 1; players <= 4; players++ {
		for _, damage := range []int{0, 100} {
			o := trialOf(matchOf(t, players, 2, 5, impl.Wire{Seed: 9, Delay: 1, Jitter: 4, Loss: 20, Damage: damage}))
			o.m, _ = impl.JoinWatcher(o.m)
			for range 50 {
				o.m = impl.StepMatch(o.m)
				o.look(t)
			}
			arrived := 0
			plainWires(&o.m, func(w *impl.Wire) { arrived += w.Sent - w.Lost - len(w.Flights) })
			if want := arrived * damage / 100; o.m.Bad != want || arrived == 0 {
				t.Errorf("%d of %d data are bad; want %d", o.m.Bad, arrived, want)
			}
			if damage == 100 && players > 1 && (o.m.Peers[0].Now.Tick != 7 || o.m.Peers[1].Base.Tick != 2) {
				t.Error("damaged data is learned")
			}
			o.settle(t)
			o.m = impl.RunMatch(o.m, 30)
			o.look(t)
			o.settle(t)
			if o.m.Peers[0].Base.Tick < 30 {
				t.Errorf("only %d ticks are confirmed after the wires are mended", o.m.Peers[0].Base.Tick)
			}
		}
	}
}

// TestWhoJoinsLaterSeesTheSame lets watchers join at different times, with lines that lose and damage.
func TestWhoJoinsLaterSeesTheSame(t *testing.T) {
	r := rand.New(rand.NewSource(814))
	for range 8 {
		o := trialOf(roughMatch(t, r, 1+r.Intn(4)))
		for range 3 {
			o.m = impl.RunMatch(o.m, r.Intn(60))
			joined, ok := impl.JoinWatcher(o.m)
			if !ok {
				t.Fatal("nobody joins")
			}
			o.m = joined
			o.look(t)
		}
		o.m = impl.RunMatch(o.m, 60)
		o.look(t)
		o.settle(t)
		for _, s := range o.m.Watchers[1:] {
			if !plainSame(s.World, o.m.Watchers[0].World) {
				t.Error("a watcher sees another world")
			}
		}
	}
}

// TestWatchersCatchUp has a watcher that has seen nothing of a match that is at its end.
func TestWatchersCatchUp(t *testing.T) {
	m := matchOf(t, 2, 1, 8, impl.Wire{Delay: 1})
	m.Wires[0][1].Loss = 100
	joined, ok := impl.JoinWatcher(m)
	if !ok {
		t.Fatal("nobody joins")
	}
	joined.Wires[0][1].Loss = 0
	o := trialOf(impl.RunMatch(joined, 450))
	if o.m.Peers[0].Base.Tick != 400 || o.m.Watchers[0].World.Tick != 0 {
		t.Fatal("the match comes to", o.m.Peers[0].Base.Tick, "and the watcher to", o.m.Watchers[0].World.Tick)
	}
	o.settle(t)
	if o.m.Watchers[0].World.Tick != 400 {
		t.Error("the watcher comes to", o.m.Watchers[0].World.Tick)
	}
}
