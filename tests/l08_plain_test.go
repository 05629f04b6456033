package tests

import (
	"math"
	"math/rand"
	"slices"
	"testing"

	"loop.example/g03315/impl"
)

// This file has what the tests of chapter 8 share: matches that go on or are not valid, copies, and a
// second reading of what a unit of time does, on peers and wires of the earlier chapters.

// eachOf are copies of the elements of a list.
func eachOf[T any](list []T, copied func(T) T) []T {
	list = slices.Clone(list)
	for k := range list {
		list[k] = copied(list[k])
	}
	return list
}

func copiedWire(w impl.Wire) impl.Wire {
	w.Flights = slices.Clone(w.Flights)
	return w
}

func copiedAlarm(a impl.Alarm) impl.Alarm {
	return impl.Alarm{Tick: a.Tick, Parts: slices.Clone(a.Parts)}
}

// copiedMatch shares no memory with a match.
func copiedMatch(m impl.Match) impl.Match {
	m.Level.Rows = slices.Clone(m.Level.Rows)
	m.Scripts, m.Acks = copiedRows(m.Scripts), copiedRows(m.Acks)
	m.Peers, m.Lines = eachOf(m.Peers, copiedPeer), eachOf(m.Lines, copiedWire)
	m.Wires = eachOf(m.Wires, func(row []impl.Wire) []impl.Wire { return eachOf(row, copiedWire) })
	m.Paces = eachOf(m.Paces, slices.Clone[[]impl.Pace])
	m.Watchers = eachOf(m.Watchers, func(s impl.Spectator) impl.Spectator { return impl.Spectator{World: deepCopy(s.World), Gaps: s.Gaps} })
	m.Alarms = eachOf(m.Alarms, copiedAlarm)
	return m
}

// changedMatch is a match of which one thing is changed.
func changedMatch(m impl.Match, how func(m *impl.Match)) impl.Match {
	m = copiedMatch(m)
	how(&m)
	return m
}

// withSpare is a list with the same elements, and others behind its end.
func withSpare[T any](list []T, spare func(T) T, behind T) []T {
	return append(eachOf(list, spare), behind, behind)[:len(list)]
}

// spareMatch is the same match with more behind the end of each list.
func spareMatch(m impl.Match) impl.Match {
	m = copiedMatch(m)
	m.Level.Rows = append(m.Level.Rows, "spare", "more")[:len(m.Level.Rows)]
	m.Scripts, m.Acks = spareRows(m.Scripts), spareRows(m.Acks)
	m.Peers = withSpare(m.Peers, sparePeer, impl.Peer{Me: 77})
	m.Wires = withSpare(m.Wires, func(row []impl.Wire) []impl.Wire { return withSpare(row, spareWire, impl.Wire{Seed: 77}) }, nil)
	m.Paces = withSpare(m.Paces, func(row []impl.Pace) []impl.Pace { return append(slices.Clone(row), paceOf(7, 7, 7, 7, 7))[:len(row)] }, nil)
	m.Watchers = withSpare(m.Watchers, func(s impl.Spectator) impl.Spectator {
		return impl.Spectator{World: spareWorld(deepCopy(s.World)), Gaps: s.Gaps}
	}, impl.Spectator{Gaps: 77})
	m.Lines = withSpare(m.Lines, spareWire, impl.Wire{Seed: 77})
	m.Alarms = withSpare(m.Alarms, func(a impl.Alarm) impl.Alarm {
		a.Parts = append(slices.Clone(a.Parts), "spare")[:len(a.Parts)]
		return a
	}, impl.Alarm{Tick: 77})
	return m
}

// otherIn names a field in which two matches are different; "" if they are the same.
func otherIn(a impl.Match, b impl.Match) string {
	for name, same := range map[string]bool{
		"Level": slices.Equal(a.Level.Rows, b.Level.Rows), "Seed": a.Seed == b.Seed, "Delay": a.Delay == b.Delay, "Scripts": sameRows(a.Scripts, b.Scripts),
		"Peers": slices.EqualFunc(a.Peers, b.Peers, samePeer), "Paces": slices.EqualFunc(a.Paces, b.Paces, slices.Equal[[]impl.Pace]),
		"Wires": slices.EqualFunc(a.Wires, b.Wires, sameWires), "Acks": sameRows(a.Acks, b.Acks), "Clock": a.Clock == b.Clock,
		"Watchers": slices.EqualFunc(a.Watchers, b.Watchers, func(s impl.Spectator, t impl.Spectator) bool { return s.Gaps == t.Gaps && plainSame(s.World, t.World) }),
		"Lines":    sameWires(a.Lines, b.Lines), "Alarms": slices.EqualFunc(a.Alarms, b.Alarms, sameAlarm), "Bad": a.Bad == b.Bad,
	} {
		if !same {
			return name
		}
	}
	return ""
}

func sameWires(a []impl.Wire, b []impl.Wire) bool { return slices.EqualFunc(a, b, sameWire) }

// wantMatch sees that a call gives a match.
func wantMatch(t *testing.T, what string, got impl.Match, want impl.Match) {
	t.Helper()
	if name := otherIn(got, want); name != "" {
		t.Fatalf("%s gives other %s:\n%s; want\n%s", what, name, briefOf(got, name), briefOf(want, name))
	}
}

// briefOf is the beginning of what a match has in a field.
func briefOf(m impl.Match, name string) string {
	return brief(map[string]any{
		"Level": m.Level, "Seed": m.Seed, "Delay": m.Delay, "Scripts": m.Scripts, "Peers": m.Peers, "Paces": m.Paces, "Wires": m.Wires,
		"Acks": m.Acks, "Clock": m.Clock, "Watchers": m.Watchers, "Lines": m.Lines, "Alarms": m.Alarms, "Bad": m.Bad,
	}[name])
}

// mustMatch sees that a call gives a match, and whether it did anything.
func mustMatch(t *testing.T, what string, got impl.Match, ok bool, want impl.Match, wantOk bool) {
	t.Helper()
	if ok != wantOk {
		t.Fatalf("%s gives %v; want %v", what, ok, wantOk)
	}
	wantMatch(t, what, got, want)
}

// someScripts are n scripts of different lengths.
func someScripts(n int) [][]int {
	return [][]int{{2, 2, 2, 6, 10, 2, 0, 9}, {1, 1, 5, 1, 8}, {4, 2, 2, 2, 2, 12, 1, 1, 1, 1, 1}, {8, 1, 6}}[:n]
}

// matchOf is a new match in the arena, with wires like w.
func matchOf(t *testing.T, players int, delay int, ahead int, w impl.Wire, faults ...impl.Fault) impl.Match {
	t.Helper()
	if faults == nil {
		faults = make([]impl.Fault, players)
	}
	m, ok := impl.NewMatch(levelOf(t, arena), someScripts(players), 4242, delay, ahead, faults, w)
	if !ok {
		t.Fatal("no match of", players, delay, ahead, w, faults)
	}
	return m
}

// busyMatch is a valid match of three players, one of whom has a fault that has been told, and two
// watchers. Something is on its way on all wires and lines, and some of it is damaged.
func busyMatch(t *testing.T) impl.Match {
	t.Helper()
	w := impl.Wire{Seed: 77, Delay: 2, Jitter: 3, Loss: 15, Copies: 25, Damage: 15}
	m := matchOf(t, 3, 2, 5, w, impl.Fault{}, impl.Fault{}, impl.Fault{Tick: 9, Player: 1, Add: 4})
	for range 2 {
		m = impl.RunMatch(m, 20)
		joined, ok := impl.JoinWatcher(m)
		if !ok {
			t.Fatal("nobody joins")
		}
		m = impl.RunMatch(joined, 6)
	}
	if len(m.Alarms) == 0 || m.Bad == 0 || m.Peers[0].Base.Tick < 20 || m.Peers[1].Rolls == 0 {
		t.Fatal("the match is not busy:", m.Alarms, m.Bad, m.Peers[0].Base.Tick)
	}
	return m
}

// badMatches are matches of which one thing is not valid, by its name.
func badMatches(t *testing.T) map[string]impl.Match {
	t.Helper()
	good := busyMatch(t)
	list := map[string]impl.Match{"the zero Match": {}}
	for _, changes := range []map[string]func(m *impl.Match){badSettings(), badLinks(), badWatching(t, good)} {
		for name, how := range changes {
			list[name] = changedMatch(good, how)
		}
	}
	// A peer that has played nothing fits to all else in a match that is new.
	fresh := matchOf(t, 3, 2, 5, impl.Wire{Seed: 77, Delay: 2})
	for name, how := range badPlayers(t, fresh) {
		list[name] = changedMatch(fresh, how)
	}
	return list
}

func badSettings() map[string]func(m *impl.Match) {
	list := map[string]func(m *impl.Match){
		"no Level":              func(m *impl.Match) { m.Level = impl.Level{} },
		"a Level without walls": func(m *impl.Match) { m.Level = withTile(m.Level, 0, 0, '.') },
		"another Level":         func(m *impl.Match) { m.Level = withTile(m.Level, 2, 1, 'o') },
		"another Seed":          func(m *impl.Match) { m.Seed++ },
		"another Delay":         func(m *impl.Match) { m.Delay++ },
		"no scripts":            func(m *impl.Match) { m.Scripts = nil },
		"a script too few":      func(m *impl.Match) { m.Scripts = m.Scripts[:2] },
		"a script too many":     func(m *impl.Match) { m.Scripts = append(m.Scripts, []int{1}) },
		"five scripts":          func(m *impl.Match) { m.Scripts = append(m.Scripts, []int{1}, []int{2}) },
	}
	for _, n := range outside(0, 65535) {
		list["the Seed "+impl.FormatInt(n)] = func(m *impl.Match) { m.Seed = n }
	}
	for _, n := range outside(0, 5) {
		list["the Delay "+impl.FormatInt(n)] = func(m *impl.Match) { m.Delay = n }
	}
	for _, n := range outside(0, 1000) {
		list["the Clock "+impl.FormatInt(n)] = func(m *impl.Match) { m.Clock = n }
	}
	for _, n := range outside(0, 1000000) {
		list["Bad of "+impl.FormatInt(n)] = func(m *impl.Match) { m.Bad = n }
	}
	for k, bad := range badScripts() {
		list["the bad script "+impl.FormatInt(k)] = func(m *impl.Match) { m.Scripts[k%3] = slices.Clone(bad) }
	}
	return list
}

func badPlayers(t *testing.T, good impl.Match) map[string]func(m *impl.Match) {
	fresh := func(l impl.Level, players int, seed int, me int, delay int) impl.Peer {
		p, ok := impl.NewPeer(l, players, seed, me, delay, 5, impl.Fault{})
		if !ok {
			t.Fatal("no peer")
		}
		return p
	}
	return map[string]func(m *impl.Match){
		"no peers":                      func(m *impl.Match) { m.Peers = nil },
		"a peer too few":                func(m *impl.Match) { m.Peers = m.Peers[:2] },
		"a peer too many":               func(m *impl.Match) { m.Peers = append(m.Peers, copiedPeer(m.Peers[2])) },
		"two peers that are swapped":    func(m *impl.Match) { m.Peers[0], m.Peers[1] = m.Peers[1], m.Peers[0] },
		"a peer twice":                  func(m *impl.Match) { m.Peers[2] = copiedPeer(m.Peers[1]) },
		"another Me":                    func(m *impl.Match) { m.Peers[0] = changedPeer(m.Peers[1], func(p *impl.Peer) { p.Me = 2 }) },
		"a peer of another Level":       func(m *impl.Match) { m.Peers[1] = fresh(withTile(good.Level, 2, 1, 'o'), 3, good.Seed, 1, good.Delay) },
		"a peer of another Seed":        func(m *impl.Match) { m.Peers[1].Seed-- },
		"a peer of another Delay":       func(m *impl.Match) { m.Peers[1].Delay-- },
		"a peer of two":                 func(m *impl.Match) { m.Peers[1] = fresh(good.Level, 2, good.Seed, 1, good.Delay) },
		"a peer of four":                func(m *impl.Match) { m.Peers[2] = fresh(good.Level, 4, good.Seed, 2, good.Delay) },
		"a peer that is not valid":      func(m *impl.Match) { m.Peers[2].Sums = nil },
		"a peer whose Base is no world": func(m *impl.Match) { m.Peers[0].Base.Scores[2] = -1 },
		"a peer that is zero":           func(m *impl.Match) { m.Peers[1] = impl.Peer{} },
		"a Base past MaxTrack":          func(m *impl.Match) { pastTrack(&m.Peers[0]) },
		"two of three peers":            func(m *impl.Match) { keepPeers(m, 2) },
		"none of three peers":           func(m *impl.Match) { keepPeers(m, 0) },
	}
}

// pastTrack lets a peer have confirmed one tick more than tracks can tell.
func pastTrack(p *impl.Peer) {
	p.Base.Tick, p.Now.Tick, p.Sums = 401, 401, make([]int, 402)
	for k := range p.Tracks {
		p.Tracks[k].Inputs = make([]int, 400)
	}
}

// keepPeers leaves only the first n peers, with all that is between them.
func keepPeers(m *impl.Match, n int) {
	m.Peers, m.Wires, m.Paces, m.Acks = m.Peers[:n], m.Wires[:n], m.Paces[:n], m.Acks[:n]
	for i := range n {
		m.Wires[i], m.Paces[i], m.Acks[i] = m.Wires[i][:n], m.Paces[i][:n], m.Acks[i][:n]
	}
}

func badLinks() map[string]func(m *impl.Match) {
	list := map[string]func(m *impl.Match){
		"no Wires":                 func(m *impl.Match) { m.Wires = nil },
		"a row of Wires too few":   func(m *impl.Match) { m.Wires = m.Wires[:2] },
		"a row of Wires too many":  func(m *impl.Match) { m.Wires = append(m.Wires, make([]impl.Wire, 3)) },
		"a Wire too few in a row":  func(m *impl.Match) { m.Wires[2] = m.Wires[2][:2] },
		"a Wire too many in a row": func(m *impl.Match) { m.Wires[0] = append(m.Wires[0], impl.Wire{}) },
		"no Paces":                 func(m *impl.Match) { m.Paces = nil },
		"a row of Paces too few":   func(m *impl.Match) { m.Paces = m.Paces[:2] },
		"a row of Paces too many":  func(m *impl.Match) { m.Paces = append(m.Paces, make([]impl.Pace, 3)) },
		"a Pace too few in a row":  func(m *impl.Match) { m.Paces[1] = m.Paces[1][:2] },
		"a Pace too many in a row": func(m *impl.Match) { m.Paces[2] = append(m.Paces[2], impl.Pace{}) },
		"no Acks":                  func(m *impl.Match) { m.Acks = nil },
		"a row of Acks too few":    func(m *impl.Match) { m.Acks = m.Acks[:2] },
		"a row of Acks too many":   func(m *impl.Match) { m.Acks = append(m.Acks, make([]int, 3)) },
		"an Ack too few in a row":  func(m *impl.Match) { m.Acks[1] = m.Acks[1][:2] },
		"an Ack too many in a row": func(m *impl.Match) { m.Acks[2] = append(m.Acks[2], 0) },
	}
	for i := range 3 {
		for j := range 3 {
			at := " from " + impl.FormatInt(i) + " to " + impl.FormatInt(j)
			list["a bad Wire"+at] = func(m *impl.Match) { m.Wires[i][j].Delay = 13 }
			list["a bad Pace"+at] = func(m *impl.Match) { m.Paces[i][j].Trip = 1000002 }
			list["a negative Ack"+at] = func(m *impl.Match) { m.Acks[i][j] = -1 }
			list["an Ack too great"+at] = func(m *impl.Match) { m.Acks[i][j] = len(m.Peers[i].Tracks[i].Inputs) + 1 }
			list["the greatest Ack"+at] = func(m *impl.Match) { m.Acks[i][j] = math.MaxInt }
		}
	}
	return list
}

func badWatching(t *testing.T, good impl.Match) map[string]func(m *impl.Match) {
	other := func(l impl.Level, players int) impl.World {
		w, ok := impl.NewWorld(l, players, 1)
		if !ok {
			t.Fatal("no world")
		}
		return w
	}
	more := func(m *impl.Match, n int) {
		for range n {
			m.Watchers = append(m.Watchers, impl.Spectator{World: deepCopy(m.Watchers[0].World)})
		}
	}
	return map[string]func(m *impl.Match){
		"no watchers but lines":      func(m *impl.Match) { m.Watchers = nil },
		"no lines but watchers":      func(m *impl.Match) { m.Lines = nil },
		"a watcher too few":          func(m *impl.Match) { m.Watchers = m.Watchers[:1] },
		"a watcher too many":         func(m *impl.Match) { more(m, 1) },
		"a line too few":             func(m *impl.Match) { m.Lines = m.Lines[:1] },
		"a line too many":            func(m *impl.Match) { m.Lines = append(m.Lines, impl.Wire{}) },
		"four watchers":              func(m *impl.Match) { more(m, 2); m.Lines = append(m.Lines, impl.Wire{}, impl.Wire{}) },
		"a bad line":                 func(m *impl.Match) { m.Lines[0].Now = -1 },
		"a bad last line":            func(m *impl.Match) { m.Lines[1].Loss = 101 },
		"a watcher without a world":  func(m *impl.Match) { m.Watchers[1] = impl.Spectator{} },
		"a watcher of a bad world":   func(m *impl.Match) { m.Watchers[0].World.Bodies[0].Life = 4 },
		"a watcher past MaxTick":     func(m *impl.Match) { m.Watchers[1].World.Tick = 100001 },
		"a watcher of another Level": func(m *impl.Match) { m.Watchers[1].World = other(withTile(good.Level, 2, 1, 'o'), 3) },
		"a watcher of two players":   func(m *impl.Match) { m.Watchers[1].World = other(good.Level, 2) },
		"a watcher of four players":  func(m *impl.Match) { m.Watchers[0].World = other(good.Level, 4) },
	}
}

// plainTrue is what a script says of a tick.
func plainTrue(m *impl.Match, player int, tick int) int {
	script := m.Scripts[player]
	for ; tick >= m.Delay+len(script); tick -= len(script) {
	}
	if tick < m.Delay {
		return 0
	}
	return script[tick-m.Delay]
}

// plainHearPeer is HearPeer for a valid match and two peers.
func plainHearPeer(m *impl.Match, i int, j int) {
	var list []string
	m.Wires[j][i], list = plainArrive(m.Wires[j][i])
	for _, data := range list {
		x, ok := impl.DecodePacket(data)
		if !ok || x.From != j || len(x.Acks) != len(m.Scripts) {
			m.Bad = min(m.Bad+1, 1000000)
			continue
		}
		m.Paces[i][j] = plainHear(m.Paces[i][j], x, m.Clock)
		if ack := x.Acks[i]; ack > m.Acks[i][j] && ack <= len(m.Peers[i].Tracks[i].Inputs) {
			m.Acks[i][j] = ack
		}
		if learned, ok := impl.Learn(m.Peers[i], x); ok {
			m.Peers[i] = learned
		}
		if sums := m.Peers[i].Sums; x.SumTick < len(sums) && sums[x.SumTick] != x.Sum {
			plainAlarm(m, i, j)
		}
	}
}

// plainAlarm tells what two peers differ in, unless it was told.
func plainAlarm(m *impl.Match, i int, j int) {
	a, ok := impl.Diagnose(m.Peers[i], m.Peers[j])
	if !ok {
		return
	}
	for _, told := range m.Alarms {
		if impl.FormatAlarm(told) == impl.FormatAlarm(a) {
			return
		}
	}
	m.Alarms = append(m.Alarms, a)
}

// plainPlayPeer is PlayPeer for a valid match and a peer.
func plainPlayPeer(m *impl.Match, i int) {
	p, waits := m.Peers[i], false
	for j := range m.Paces[i] {
		waits = waits || impl.AdvantageOf(m.Paces[i][j], p.Now.Tick, m.Clock) >= 2
	}
	if !waits && len(p.Tracks[i].Inputs) == p.Now.Tick+m.Delay && p.Now.Tick+m.Delay < 400 {
		p = copiedPeer(p)
		p.Tracks[i].Inputs = append(p.Tracks[i].Inputs, plainTrue(m, i, p.Now.Tick+m.Delay))
	}
	if !waits && impl.CanAdvance(p) {
		p, _ = impl.Advance(p)
	}
	m.Peers[i] = impl.Confirm(p)
}

// plainTellPeer is TellPeer for a valid match and two peers.
func plainTellPeer(m *impl.Match, i int, j int) {
	p, ack := m.Peers[i], m.Acks[i][j]
	x := impl.Packet{From: i, Tick: p.Now.Tick, First: ack, SumTick: p.Base.Tick, Sum: impl.WorldSum(p.Base)}
	for _, input := range p.Tracks[i].Inputs[ack:] {
		if len(x.Inputs) < 40 {
			x.Inputs = append(x.Inputs, input)
		}
	}
	for _, track := range p.Tracks {
		x.Acks = append(x.Acks, len(track.Inputs))
	}
	if q := m.Paces[i][j]; q.Newest <= 1000000 {
		x.Time, x.Echo = m.Clock, q.Newest
	}
	m.Wires[i][j] = plainSend(m.Wires[i][j], impl.EncodePacket(x))
}

// plainServe is ServeWatcher for a valid match and a watcher.
func plainServe(m *impl.Match, k int) {
	var list []string
	m.Lines[k], list = plainArrive(m.Lines[k])
	s := &m.Watchers[k]
	for _, data := range list {
		first, rows, read := impl.DecodeStream(data)
		fed := false
		if read {
			*s, fed = impl.FeedRows(*s, first, rows)
		}
		if !fed {
			m.Bad = min(m.Bad+1, 1000000)
		}
	}
	p := m.Peers[0]
	var rows [][]int
	for tick := s.World.Tick; tick < p.Base.Tick && len(rows) < 20; tick++ {
		var row []int
		for _, track := range p.Tracks {
			row = append(row, track.Inputs[tick])
		}
		rows = append(rows, row)
	}
	if rows != nil {
		m.Lines[k] = plainSend(m.Lines[k], impl.EncodeStream(s.World.Tick, rows))
	}
}

// plainUnit is a unit of time of a valid match in which all play, or nobody does.
func plainUnit(m *impl.Match, all bool) {
	for i := range m.Peers {
		for j := range m.Peers {
			if j != i {
				plainHearPeer(m, i, j)
			}
		}
		if all {
			plainPlayPeer(m, i)
		} else {
			m.Peers[i] = impl.Confirm(m.Peers[i])
		}
		for j := range m.Peers {
			if j != i {
				plainTellPeer(m, i, j)
			}
		}
	}
	for k := range m.Watchers {
		plainServe(m, k)
	}
	plainWires(m, func(w *impl.Wire) { w.Now = min(w.Now+1, 1000000) })
}

// plainWires changes all wires and lines.
func plainWires(m *impl.Match, how func(w *impl.Wire)) {
	for k := range m.Lines {
		how(&m.Lines[k])
	}
	for i := range m.Wires {
		for j := range m.Wires[i] {
			how(&m.Wires[i][j])
		}
	}
}

// plainStepMatch is StepMatch for a valid match.
func plainStepMatch(m impl.Match) impl.Match {
	m = copiedMatch(m)
	if m.Clock < 1000 {
		plainUnit(&m, true)
		m.Clock++
	}
	return m
}

func plainMend(m impl.Match) impl.Match {
	m = copiedMatch(m)
	plainWires(&m, func(w *impl.Wire) { w.Delay, w.Jitter, w.Loss, w.Damage = 1, 0, 0, 0 })
	return m
}

func plainSettle(m impl.Match) impl.Match {
	m = plainMend(m)
	for range 30 {
		plainUnit(&m, false)
	}
	return m
}

// roughWire often loses, copies and damages what is sent.
func roughWire(r *rand.Rand) impl.Wire {
	return impl.Wire{Seed: r.Intn(65536), Delay: r.Intn(4), Jitter: r.Intn(5), Loss: r.Intn(40), Copies: r.Intn(40), Damage: r.Intn(30)}
}

// roughMatch is a new match of players on rough wires, each wire with numbers of its own.
func roughMatch(t *testing.T, r *rand.Rand, players int, faults ...impl.Fault) impl.Match {
	t.Helper()
	var scripts [][]int
	for range players {
		scripts = append(scripts, randomInputs(r, 1+r.Intn([]int{3, 30, 400}[r.Intn(3)])))
	}
	if faults == nil {
		faults = make([]impl.Fault, players)
	}
	m, ok := impl.NewMatch(randomLevel(r), scripts, r.Intn(65536), r.Intn(6), 1+r.Intn(8), faults, roughWire(r))
	if !ok {
		t.Fatal("no match of", players)
	}
	plainWires(&m, func(w *impl.Wire) { *w = roughWire(r) })
	return m
}

// scripted is the game that follows from the scripts of a match and a fault.
func scripted(m impl.Match, f impl.Fault) *game {
	var inputs [][]int
	for k := range m.Scripts {
		var list []int
		for tick := range 400 {
			list = append(list, plainTrue(&m, k, tick))
		}
		inputs = append(inputs, list)
	}
	return gameOf(m.Level, m.Seed, m.Delay, f, inputs)
}
