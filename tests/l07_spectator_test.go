package tests

import (
	"fmt"
	"slices"
	"strings"
	"testing"

	"loop.example/g03315/impl"
)

// wantSpectator sees that a call gives a spectator and says whether it did anything.
func wantSpectator(t *testing.T, what string, got impl.Spectator, ok bool, want impl.Spectator, wantOk bool) {
	t.Helper()
	if ok != wantOk || got.Gaps != want.Gaps || !plainSame(got.World, want.World) {
		t.Fatalf("%s gives %v and\n%s; want %v and\n%s", what, ok, brief(got), wantOk, brief(want))
	}
}

// at is a spectator of a game at a tick.
func (g *game) at(tick int, gaps int) impl.Spectator {
	return impl.Spectator{World: deepCopy(g.worlds[tick]), Gaps: gaps}
}

func TestSnapshotOf(t *testing.T) {
	g := arenaGame(t, 3, 2)
	for _, base := range []int{0, 1, 6, 200, 391} {
		p := (&plainPeer{game: g, ahead: 8, base: base, now: base + 5, known: []int{base + 6, base, base + 9}}).peer()
		want := impl.WorldBytes(g.worlds[base])
		if got := impl.SnapshotOf(p); got != want || want == "" {
			t.Errorf("SnapshotOf at %d = %q; want %q", base, got, want)
		}
	}
	// The confirmed world is told as it is, also with a fault.
	_, wrong := faultyPair(t, impl.Fault{Tick: 9, Player: 2, Add: 4}, 30, 30)
	if got := impl.SnapshotOf(wrong); got != impl.WorldBytes(wrong.Base) || got == impl.WorldBytes(g.worlds[30]) {
		t.Errorf("SnapshotOf with a fault = %q", got)
	}
	for name, bad := range badPeers(t) {
		if got := impl.SnapshotOf(bad); got != "" {
			t.Errorf("SnapshotOf with %s = %q", name, got)
		}
	}
}

func TestNewSpectator(t *testing.T) {
	for players := 1; players <= 4; players++ {
		g := arenaGame(t, players, 0)
		for tick := range 401 {
			got, ok := impl.NewSpectator(g.level, impl.WorldBytes(g.worlds[tick]))
			wantSpectator(t, "NewSpectator", got, ok, g.at(tick, 0), true)
		}
	}
	g := arenaGame(t, 3, 0)
	w := impl.WorldBytes(g.worlds[30])
	for _, snapshot := range []string{"", "x", w + "\x00", "\x00" + w, w[1:], w[:len(w)-1], impl.SealText(w), strings.Repeat("\x00", 100)} {
		got, ok := impl.NewSpectator(g.level, snapshot)
		wantSpectator(t, "NewSpectator of no world", got, ok, impl.Spectator{}, false)
	}
	for _, bad := range []impl.Level{{}, boxOf(2, 12), withTile(g.level, 0, 0, '.'), withTile(g.level, 1, 1, '5'), {Rows: g.level.Rows[:4]}} {
		got, ok := impl.NewSpectator(bad, w)
		wantSpectator(t, "NewSpectator in no level", got, ok, impl.Spectator{}, false)
	}
}

// TestNewSpectatorOfAnotherLevel has levels in which the bodies have room, and one in which not.
func TestNewSpectatorOfAnotherLevel(t *testing.T) {
	g := arenaGame(t, 3, 0)
	w := g.worlds[0]
	wide := levelOf(t, "############/#..........#/#..........#/#..........#/############")
	want := impl.Spectator{World: deepCopy(w)}
	want.World.Level = wide
	got, ok := impl.NewSpectator(wide, impl.WorldBytes(w))
	wantSpectator(t, "NewSpectator in a wide level", got, ok, want, true)
	for _, narrow := range []string{"####/#..#/####", "############/############/#..........#/#..........#/############"} {
		got, ok := impl.NewSpectator(levelOf(t, narrow), impl.WorldBytes(w))
		wantSpectator(t, "NewSpectator in a narrow level", got, ok, impl.Spectator{}, false)
	}
}

// checkFeed compares a spectator that sees rows.
func checkFeed(t *testing.T, what string, s impl.Spectator, first int, rows [][]int, want impl.Spectator, wantOk bool) {
	t.Helper()
	got, ok := impl.FeedRows(s, first, rows)
	wantSpectator(t, fmt.Sprintf("FeedRows of %s: %d from %d on", what, len(rows), first), got, ok, want, wantOk)
}

// TestFeedRows has rows before the tick of the world, up to it, over it, from it on, and behind it.
func TestFeedRows(t *testing.T) {
	for players := 1; players <= 4; players++ {
		g := arenaGame(t, players, 0)
		for _, tick := range []int{0, 1, 7, 30, 390} {
			for first := max(tick-9, 0); first < min(tick+9, 400); first++ {
				for end := first; end < min(first+20, 401); end++ {
					rows := g.rows(first, end)
					if first > tick {
						checkFeed(t, "rows behind a gap", g.at(tick, 3), first, rows, g.at(tick, 4), false)
					} else {
						checkFeed(t, "rows", g.at(tick, 3), first, rows, g.at(max(tick, end), 3), true)
					}
				}
			}
		}
	}
}

// TestFeedRowsThatWereSeen has seen rows that are not what was seen: they are not looked at.
func TestFeedRowsThatWereSeen(t *testing.T) {
	g := arenaGame(t, 2, 0)
	rows := append(slices.Repeat([][]int{{15, 15}}, 5), g.rows(30, 34)...)
	checkFeed(t, "other rows", g.at(30, 0), 25, rows, g.at(34, 0), true)
	checkFeed(t, "other rows", g.at(30, 0), 25, rows[:5], g.at(30, 0), true)
	checkFeed(t, "many rows", g.at(0, 0), 0, g.rows(0, 400), g.at(400, 0), true)
	checkFeed(t, "many rows", g.at(150, 0), 0, g.rows(0, 400), g.at(400, 0), true)
	checkFeed(t, "rows long ago", g.at(400, 0), 0, g.rows(0, 20), g.at(400, 0), true)
}

func TestFeedRowsWithoutRows(t *testing.T) {
	g := arenaGame(t, 2, 0)
	for _, rows := range [][][]int{nil, {}} {
		for _, first := range []int{0, 29, 30} {
			checkFeed(t, "no rows", g.at(30, 7), first, rows, g.at(30, 7), true)
		}
		for _, first := range []int{31, 400, 100000} {
			checkFeed(t, "no rows", g.at(30, 7), first, rows, g.at(30, 8), false)
		}
		for _, first := range outside(0, 100000) {
			checkFeed(t, "no rows", g.at(30, 7), first, rows, g.at(30, 7), false)
		}
	}
}

// TestGapsAreCounted has counts that do not go on, and some that no spectator has.
func TestGapsAreCounted(t *testing.T) {
	g := arenaGame(t, 2, 0)
	for gaps, want := range map[int]int{0: 1, 1: 2, 999998: 999999, 999999: 1000000, 1000000: 1000000, 1000001: 1000001, 5000000: 5000000, -1: 0, -9: -8} {
		checkFeed(t, "rows behind a gap", g.at(30, gaps), 31, g.rows(31, 33), g.at(30, want), false)
		checkFeed(t, "rows", g.at(30, gaps), 29, g.rows(29, 33), g.at(33, gaps), true)
	}
}

func TestFeedRowsRejects(t *testing.T) {
	g := arenaGame(t, 3, 0)
	for _, first := range outside(0, 100000) {
		checkFeed(t, "no such ticks", g.at(30, 5), first, g.rows(30, 33), g.at(30, 5), false)
	}
	for _, bad := range badRows() {
		for _, first := range []int{24, 28, 30, 31, 100000} {
			// It does not matter whether the row was seen, or is behind a gap.
			for at := range 4 {
				rows := g.rows(30, 34)
				rows[at] = bad
				checkFeed(t, "bad rows", g.at(30, 5), first, rows, g.at(30, 5), false)
			}
			checkFeed(t, "a bad row", g.at(30, 5), first, [][]int{bad}, g.at(30, 5), false)
		}
	}
	for _, bad := range badWorlds(t) {
		for _, first := range []int{-1, 0, bad.Tick, bad.Tick + 1} {
			for _, rows := range [][][]int{nil, {make([]int, len(bad.Scores))}} {
				s := impl.Spectator{World: bad, Gaps: 5}
				checkFeed(t, "a bad world", s, first, rows, s, false)
			}
		}
	}
}

// TestFeedRowsAtTheLastTick has worlds that do not go on.
func TestFeedRowsAtTheLastTick(t *testing.T) {
	g := arenaGame(t, 2, 0)
	s := impl.Spectator{World: changedWorld(g.worlds[30], func(w *impl.World) { w.Tick = 99998 })}
	one := impl.Spectator{World: plainStep(s.World, []int{2, 9})}
	two := impl.Spectator{World: plainStep(one.World, []int{4, 3})}
	rows := [][]int{{2, 9}, {4, 3}, {1, 1}, {8, 8}}
	checkFeed(t, "a row", s, 99998, rows[:1], one, true)
	checkFeed(t, "two rows", s, 99998, rows[:2], two, true)
	checkFeed(t, "rows up to the end", s, 99998, rows, two, true)
	checkFeed(t, "rows up to the end", one, 99998, rows, two, true)
	checkFeed(t, "rows at the end", two, 100000, rows[2:], two, true)
	checkFeed(t, "rows at the end", two, 99999, rows[1:], two, true)
	checkFeed(t, "rows behind the end", two, 100001, rows[2:], two, false)
	one.Gaps = 1
	checkFeed(t, "rows behind a gap", impl.Spectator{World: one.World}, 100000, rows[2:], one, false)
}
