package tests

import (
	"slices"
	"testing"

	"loop.example/g03315/impl"
)

// replayCalls are all functions that take a replay, with arguments that do something and others that
// do not. Each gives its results.
func replayCalls() map[string]func(r impl.Replay) any {
	calls := map[string]func(r impl.Replay) any{
		"ReplayOk":       func(r impl.Replay) any { return impl.ReplayOk(r) },
		"EncodeReplay":   func(r impl.Replay) any { return impl.EncodeReplay(r) },
		"FindTamper":     func(r impl.Replay) any { return impl.FindTamper(r) },
		"AddRows of nil": func(r impl.Replay) any { q, _ := impl.AddRows(r, nil); return q },
	}
	for n := -1; n < 12; n++ {
		name := " " + impl.FormatInt(n)
		calls["KeyAt"+name] = func(r impl.Replay) any { w, _ := impl.KeyAt(r, n); return w }
		calls["SeekReplay"+name] = func(r impl.Replay) any { w, _ := impl.SeekReplay(r, n); return w }
		calls["PlayReplay"+name] = func(r impl.Replay) any { w, _ := impl.PlayReplay(r, n); return w }
		calls["CutReplay"+name] = func(r impl.Replay) any { q, _ := impl.CutReplay(r, n); return q }
	}
	return calls
}

// memoryReplays are replays that can do much, and some that are damaged or not valid.
func memoryReplays(t *testing.T) []impl.Replay {
	g := arenaGame(t, 3, 0)
	list := []impl.Replay{g.replay(4, 0), g.replay(4, 10), g.replay(4, 11), g.replay(1, 5), badReplays(t)["a last input 16"], badReplays(t)["no Level"], {}}
	for _, how := range []func(r *impl.Replay){
		func(r *impl.Replay) { r.Keys[1] = "x" }, func(r *impl.Replay) { r.Keys[0] = "" }, func(r *impl.Replay) { r.Keys[0], r.Keys[1] = r.Keys[1], r.Keys[0] },
	} {
		list = append(list, changedReplay(g.replay(4, 11), how))
	}
	return list
}

func TestReplaysKeepTheirMemory(t *testing.T) {
	for _, r := range memoryReplays(t) {
		r := spareReplay(r)
		for name, call := range replayCalls() {
			checkMemory(t, name, func() any { return call(r) }, r)
		}
		for _, row := range [][]int{{1, 2, 3}, {1, 2, 16}, {1, 2}} {
			row := spareInts(row)
			checkMemory(t, "AddRow", func() any { q, _ := impl.AddRow(r, row); return q }, r, row)
			rows := spareRows([][]int{{1, 2, 3}, row, {4, 5, 6}})
			checkMemory(t, "AddRows", func() any { q, _ := impl.AddRows(r, rows); return q }, r, rows)
		}
		for _, q := range memoryReplays(t) {
			q := spareReplay(q)
			checkMemory(t, "SameReplay", func() any { return impl.SameReplay(r, q) }, r, q)
		}
	}
}

// TestRowsThatAreOneAreAddedApart has rows that share their memory with one another.
func TestRowsThatAreOneAreAddedApart(t *testing.T) {
	rows := slices.Repeat([][]int{{1, 2, 3}}, 9)
	r, ok := impl.AddRows(arenaGame(t, 3, 0).replay(4, 0), rows)
	if !ok || !memoryIsApart(r) || !memoryIsApart(r, rows[0]) {
		t.Error("AddRows gives shared memory")
	}
}

func TestNewReplaysKeepTheirMemory(t *testing.T) {
	for _, l := range []impl.Level{levelOf(t, arena), {}, boxOf(2, 8)} {
		l.Rows = append(slices.Clone(l.Rows), "spare", "more")[:len(l.Rows)]
		for every := range 3 {
			checkMemory(t, "NewReplay", func() any { r, _ := impl.NewReplay(l, 2, 1, every); return r }, l)
		}
		for _, snapshot := range []string{impl.WorldBytes(arenaGame(t, 3, 0).worlds[30]), "x"} {
			checkMemory(t, "NewSpectator", func() any { s, _ := impl.NewSpectator(l, snapshot); return s }, l)
		}
	}
}

func TestReadReplaysKeepTheirMemory(t *testing.T) {
	g := arenaGame(t, 3, 0)
	for _, text := range []string{impl.EncodeReplay(g.replay(4, 10)), impl.EncodeReplay(g.replay(1, 3)), "x"} {
		checkMemory(t, "DecodeReplay", func() any { r, _ := impl.DecodeReplay(text); return r })
	}
	for _, rows := range [][][]int{streamRows(7, 3), streamRows(20, 4), streamRows(2, 5), {{1}, {2, 3}}} {
		rows := spareRows(rows)
		checkMemory(t, "EncodeStream", func() any { return impl.EncodeStream(5, rows) }, rows)
		text := impl.EncodeStream(5, rows)
		checkMemory(t, "DecodeStream", func() any { _, list, _ := impl.DecodeStream(text); return list })
	}
}

func TestRecordedPeersKeepTheirMemory(t *testing.T) {
	for _, p := range memoryPeers(t) {
		p := sparePeer(p)
		checkMemory(t, "SnapshotOf", func() any { return impl.SnapshotOf(p) }, p)
		for _, every := range []int{0, 1, 4, 100} {
			checkMemory(t, "RecordPeer", func() any { r, _ := impl.RecordPeer(p, every); return r }, p)
		}
	}
}

func TestSpectatorsKeepTheirMemory(t *testing.T) {
	g := arenaGame(t, 3, 0)
	bad := g.at(9, 0)
	bad.World.Scores[1] = -1
	for _, s := range []impl.Spectator{g.at(9, 0), g.at(0, 4), bad, {}} {
		s.World = spareWorld(s.World)
		for first := -1; first < 14; first++ {
			for _, rows := range [][][]int{nil, g.rows(0, 4), append(g.rows(0, 2), []int{16, 0, 0})} {
				rows := spareRows(rows)
				checkMemory(t, "FeedRows", func() any { next, _ := impl.FeedRows(s, first, rows); return next }, s, rows)
			}
		}
	}
}
