package tests

import (
	"math"
	"testing"

	"loop.example/g03315/impl"
)

func TestLockstepAt(t *testing.T) {
	for _, m := range []impl.Match{busyMatch(t), calmMatch(t), matchOf(t, 1, 5, 3, impl.Wire{}), matchOf(t, 4, 0, 8, impl.Wire{})} {
		faults := []impl.Fault{{}, {Tick: 9, Add: 4}, {Tick: 400, Add: 9}, {Tick: 1, Add: 1}, {Tick: 0, Add: 9}, m.Peers[len(m.Peers)-1].Fault}
		for _, f := range faults {
			g := scripted(m, f)
			for _, tick := range []int{0, 1, 8, 9, 10, 63, 399, 400} {
				w, ok := impl.LockstepAt(m, tick, f)
				wantWorld(t, "LockstepAt", w, ok, g.worlds[tick])
			}
			for _, tick := range append(outside(0, 400), 1000, impl.MaxTick, impl.MaxTick+1) {
				w, ok := impl.LockstepAt(m, tick, f)
				wantWorld(t, "LockstepAt out of range", w, ok, impl.World{})
			}
		}
	}
	// A fault that is not valid is none.
	m := calmMatch(t)
	g := scripted(m, impl.Fault{})
	for _, f := range badFaults() {
		w, ok := impl.LockstepAt(m, 30, f)
		wantWorld(t, "LockstepAt with a bad fault", w, ok, g.worlds[30])
	}
	for _, f := range []impl.Fault{{Tick: 30, Player: 2, Add: 1}, {Tick: 29, Player: 0, Add: 9}, {Tick: 31, Player: 0, Add: 9}} {
		w, ok := impl.LockstepAt(m, 30, f)
		wantWorld(t, "LockstepAt with a fault", w, ok, scripted(m, f).worlds[30])
	}
}

// judged are what is said of each peer and each watcher of a match.
func judged(m impl.Match) string {
	text := ""
	for i := range m.Peers {
		text += string("-+"[countIf(impl.JudgePeer(m, i))])
	}
	text += " "
	for k := range m.Watchers {
		text += string("-+"[countIf(impl.JudgeWatcher(m, k))])
	}
	return text
}

// TestJudge changes the worlds of some peers and watchers.
func TestJudge(t *testing.T) {
	m, ok := impl.JoinWatcher(busyMatch(t))
	if !ok {
		t.Fatal("nobody joins")
	}
	// The fault of peer 2 belongs to it.
	if m.Peers[2].Base.Tick < m.Peers[2].Fault.Tick {
		t.Fatal("the fault is not passed")
	}
	for name, c := range map[string]struct {
		how  func(m *impl.Match)
		want string
	}{
		"nothing":                     {func(m *impl.Match) {}, "+++ +++"},
		"a score":                     {func(m *impl.Match) { m.Peers[0].Base.Scores[2]++ }, "-++ +++"},
		"a seed":                      {func(m *impl.Match) { m.Peers[1].Base.Seed ^= 1 }, "+-+ +++"},
		"an aim":                      {func(m *impl.Match) { m.Peers[2].Base.Bodies[0].Aim *= -1 }, "++- +++"},
		"Now alone":                   {func(m *impl.Match) { m.Peers[1].Now.Seed ^= 1 }, "+++ +++"},
		"sums alone":                  {func(m *impl.Match) { m.Peers[0].Sums[4]++ }, "+++ +++"},
		"the world of a watcher":      {func(m *impl.Match) { m.Watchers[0].World.Seed ^= 1 }, "+++ -++"},
		"the last watcher":            {func(m *impl.Match) { m.Watchers[2].World.Scores[0]++ }, "+++ ++-"},
		"the tick of a watcher":       {func(m *impl.Match) { m.Watchers[1].World.Tick++ }, "+++ +-+"},
		"a watcher far ahead":         {func(m *impl.Match) { m.Watchers[1].World.Tick = 401 }, "+++ +-+"},
		"a watcher as far as may be":  {func(m *impl.Match) { m.Watchers[1].World.Tick = 100000 }, "+++ +-+"},
		"gaps alone":                  {func(m *impl.Match) { m.Watchers[1].Gaps += 5 }, "+++ +++"},
		"all of them":                 {func(m *impl.Match) { m.Scripts = [][]int{{15}, {0}, {6}} }, "--- ---"},
		"a fault that was not told":   {func(m *impl.Match) { m.Peers[0].Fault = impl.Fault{Tick: 3, Add: 1} }, "-++ +++"},
		"a fault that has gone":       {func(m *impl.Match) { m.Peers[2].Fault = impl.Fault{} }, "++- +++"},
		"a fault that is to come":     {func(m *impl.Match) { m.Peers[1].Fault = impl.Fault{Tick: 400, Add: 1} }, "+++ +++"},
		"a peer of the tick 0":        {func(m *impl.Match) { m.Peers[0], m.Acks[0] = newPeerOf(*m, 0), []int{0, 0, 0} }, "+++ +++"},
		"a peer and a watcher":        {func(m *impl.Match) { m.Peers[1].Base.Seed ^= 1; m.Watchers[1].World.Seed ^= 1 }, "+-+ +-+"},
		"watchers who have seen less": {func(m *impl.Match) { m.Watchers[0].World = deepCopy(newPeerOf(*m, 0).Base) }, "+++ +++"},
	} {
		changed := changedMatch(m, c.how)
		if !impl.MatchOk(changed) {
			t.Fatal("the match is not valid with", name)
		}
		if got := judged(changed); got != c.want {
			t.Errorf("with %s, judged is %s; want %s", name, got, c.want)
		}
		if got := impl.JudgeMatch(changed); got != (c.want == "+++ +++") {
			t.Errorf("with %s, JudgeMatch is %v", name, got)
		}
	}
	for _, k := range outside(0, 2) {
		if impl.JudgePeer(m, k) || impl.JudgeWatcher(m, k) {
			t.Errorf("number %d, whom there is not, is judged right", k)
		}
	}
	if alone := matchOf(t, 1, 0, 1, impl.Wire{}); judged(alone) != "+ " || !impl.JudgeMatch(alone) || impl.JudgePeer(alone, 1) || impl.JudgeWatcher(alone, 0) {
		t.Error("a match of one player is not judged right")
	}
}

// newPeerOf is a peer of a match that has played nothing.
func newPeerOf(m impl.Match, i int) impl.Peer {
	p, _ := impl.NewPeer(m.Level, len(m.Scripts), m.Seed, i, m.Delay, 4, impl.Fault{})
	return p
}

// TestWatchersAreJudgedUpToTheLastTick has worlds of the last ticks that the scripts say anything of.
func TestWatchersAreJudgedUpToTheLastTick(t *testing.T) {
	for _, seen := range []int{0, 399, 400} {
		m, _ := watchedMatch(t, 400, seen)
		if !impl.JudgeWatcher(m, 0) || !impl.JudgeMatch(m) {
			t.Errorf("a watcher at %d is not judged right", seen)
		}
	}
	// A world of which the scripts say nothing is not right, even if it follows from the last one.
	m, g := watchedMatch(t, 400, 400)
	m.Watchers[0].World = impl.StepWorld(g.worlds[400], []int{0, 0, 0})
	if !impl.MatchOk(m) || impl.JudgeWatcher(m, 0) || impl.JudgeMatch(m) {
		t.Error("a watcher at 401 is judged right")
	}
}

func TestTicksApart(t *testing.T) {
	m := matchOf(t, 3, 0, 8, impl.Wire{})
	g := scripted(m, impl.Fault{})
	at := func(me int, now int) impl.Peer {
		p := plainPeer{game: g, me: me, ahead: 8, base: max(now-5, 0), now: now, known: []int{now, now, now}}
		return p.peer()
	}
	for _, c := range [][4]int{{0, 0, 0, 0}, {1, 0, 0, 1}, {0, 7, 3, 7}, {9, 9, 9, 0}, {20, 30, 25, 10}, {400, 0, 200, 400}, {5, 4, 400, 396}} {
		for i := range 3 {
			m.Peers[i] = at(i, c[i])
		}
		if got := impl.TicksApart(m); got != c[3] {
			t.Errorf("TicksApart of %v = %d", c[:3], got)
		}
	}
	if got := impl.TicksApart(matchOf(t, 1, 0, 8, impl.Wire{})); got != 0 {
		t.Errorf("TicksApart of one peer = %d", got)
	}
	if got := impl.TicksApart(impl.Match{Clock: math.MaxInt}); got != -1 {
		t.Errorf("TicksApart of no match = %d", got)
	}
}
