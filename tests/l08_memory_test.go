package tests

import (
	"slices"
	"testing"

	"loop.example/g03315/impl"
)

// memoryMatches are matches that can do much, and some that are at an end or not valid.
func memoryMatches(t *testing.T) []impl.Match {
	t.Helper()
	busy, bad := busyMatch(t), badMatches(t)
	three, _ := impl.JoinWatcher(busy)
	late := busy
	late.Clock = 1000
	watched, _ := watchedMatch(t, 30, 5)
	return []impl.Match{
		busy, three, late, watched, impl.RunMatch(matchOf(t, 1, 1, 3, impl.Wire{Copies: 100}), 9), wrongMatch(t), {},
		bad["a bad line"], bad["the bad script 5"], bad["a peer that is not valid"], bad["an Ack too many in a row"], bad["four watchers"],
	}
}

func TestMatchesKeepTheirMemory(t *testing.T) {
	calls := matchCalls()
	for i := -1; i < 3; i++ {
		calls["PlayPeer "+impl.FormatInt(i)] = func(m impl.Match) (impl.Match, bool) { return impl.PlayPeer(m, i), true }
		calls["ServeWatcher "+impl.FormatInt(i)] = func(m impl.Match) (impl.Match, bool) { return impl.ServeWatcher(m, i), true }
		for j := range 3 {
			pair := impl.FormatInt(i) + " " + impl.FormatInt(j)
			calls["HearPeer "+pair] = func(m impl.Match) (impl.Match, bool) { return impl.HearPeer(m, i, j), true }
			calls["TellPeer "+pair] = func(m impl.Match) (impl.Match, bool) { return impl.TellPeer(m, i, j), true }
		}
	}
	for _, n := range []int{-1, 0, 30, 1001} {
		calls["RunMatch "+impl.FormatInt(n)] = func(m impl.Match) (impl.Match, bool) { return impl.RunMatch(m, n), true }
	}
	for _, m := range memoryMatches(t) {
		m := spareMatch(m)
		for name, call := range calls {
			checkMemory(t, name, func() any { got, _ := call(m); return got }, m)
		}
	}
}

func TestQuestionsKeepTheirMemory(t *testing.T) {
	for _, m := range memoryMatches(t) {
		m := spareMatch(m)
		checkMemory(t, "MatchOk", func() any { return impl.MatchOk(m) }, m)
		checkMemory(t, "JudgeMatch", func() any { return impl.JudgeMatch(m) }, m)
		checkMemory(t, "TicksApart", func() any { return impl.TicksApart(m) }, m)
		for k := -1; k < 4; k++ {
			checkMemory(t, "JudgePeer", func() any { return impl.JudgePeer(m, k) }, m)
			checkMemory(t, "JudgeWatcher", func() any { return impl.JudgeWatcher(m, k) }, m)
			checkMemory(t, "TrueInput", func() any { return impl.TrueInput(m, k, 3) }, m)
			checkMemory(t, "LockstepAt", func() any { w, _ := impl.LockstepAt(m, 7*k, impl.Fault{Tick: 3, Add: 1}); return w }, m)
		}
	}
}

func TestActsKeepTheirMemory(t *testing.T) {
	var acts []impl.Act
	for kind := -1; kind < 6; kind++ {
		for _, to := range []int{0, 1, 3} {
			acts = append(acts, impl.Act{Kind: kind, To: to, N: 3, Wire: spareWire(busyWire())})
		}
	}
	acts = append(acts, acts[:6]...)[:len(acts)]
	for _, m := range memoryMatches(t) {
		m := spareMatch(m)
		for _, a := range acts {
			checkMemory(t, "DoAct", func() any { got, _ := impl.DoAct(m, a); return got }, m, a)
			checkMemory(t, "SetWire", func() any { got, _ := impl.SetWire(m, 0, a.To, a.Wire); return got }, m, a)
		}
		checkMemory(t, "RunActs", func() any { return impl.RunActs(m, acts) }, m, acts)
	}
}

func TestNewMatchesKeepTheirMemory(t *testing.T) {
	l := levelOf(t, arena)
	l.Rows = append(slices.Clone(l.Rows), "spare", "more")[:len(l.Rows)]
	for players := 1; players <= 4; players++ {
		scripts := spareRows(someScripts(players))
		faults := append(make([]impl.Fault, players), impl.Fault{Tick: 77})[:players]
		for _, w := range []impl.Wire{spareWire(busyWire()), {Delay: 13}} {
			checkMemory(t, "NewMatch", func() any { m, _ := impl.NewMatch(l, scripts, 1, 2, 3, faults, w); return m }, l, scripts, faults, w)
		}
	}
}

// TestPartsThatAreOneBecomeApart has matches whose parts share their memory with one another.
func TestPartsThatAreOneBecomeApart(t *testing.T) {
	script := []int{1, 2, 3}
	m, ok := impl.NewMatch(levelOf(t, arena), [][]int{script, script, script}, 1, 2, 3, make([]impl.Fault, 3), busyWire())
	if !ok || !memoryIsApart(m, script) {
		t.Error("NewMatch gives shared memory")
	}
	m = impl.RunMatch(m, 40)
	m.Scripts, m.Acks = slices.Repeat([][]int{script}, 3), slices.Repeat([][]int{{0, 0, 0}}, 3)
	m.Wires, m.Paces = slices.Repeat(m.Wires[:1], 3), slices.Repeat(m.Paces[:1], 3)
	m.Watchers, m.Lines = slices.Repeat([]impl.Spectator{{World: m.Peers[0].Base}}, 2), m.Wires[0][1:3]
	m.Peers[0].Now.Level, m.Peers[1].Base.Level, m.Level = m.Peers[2].Now.Level, m.Peers[2].Now.Level, m.Peers[2].Now.Level
	alarm := impl.Alarm{Tick: 3, Parts: []string{"seed"}}
	m.Alarms = []impl.Alarm{alarm, alarm}
	if !impl.MatchOk(m) {
		t.Fatal("the match is not valid")
	}
	late, bad := m, m
	late.Clock, bad.Bad = 1000, -1
	for name, call := range matchCalls() {
		for _, one := range []impl.Match{m, late, bad} {
			if got, _ := call(one); !memoryIsApart(got) {
				t.Errorf("%s gives shared memory", name)
			}
		}
	}
}
