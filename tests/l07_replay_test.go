package tests

import (
	"math"
	"slices"
	"strings"
	"testing"

	"loop.example/g03315/impl"
)

// somePeriods are values of Every, the least and the greatest one first.
func somePeriods() []int { return []int{1, 100, 2, 3, 7, 16, 99} }

func TestReplayOk(t *testing.T) {
	for players := 1; players <= 4; players++ {
		g := arenaGame(t, players, 0)
		for _, every := range somePeriods() {
			for _, n := range []int{0, 1, every - 1, every, every + 1, 2*every - 1, 2 * every, 399, 400} {
				if r := g.replay(every, n); !impl.ReplayOk(r) {
					t.Errorf("ReplayOk is false for %d rows, a key each %d", n, every)
				}
			}
		}
	}
	for name, bad := range badReplays(t) {
		if impl.ReplayOk(bad) {
			t.Errorf("ReplayOk with %s", name)
		}
	}
}

func TestReplayOkOfNumbers(t *testing.T) {
	good := arenaGame(t, 3, 0).replay(100, 99)
	fresh := arenaGame(t, 3, 0).replay(100, 0)
	for _, c := range []struct {
		name      string
		set       func(r *impl.Replay, n int)
		low, high int
		base      impl.Replay
	}{
		{"Seed", func(r *impl.Replay, n int) { r.Seed = n }, 0, 65535, good},
		{"Players", func(r *impl.Replay, n int) { r.Players = n }, 1, 4, fresh},
		{"Players of rows", func(r *impl.Replay, n int) { r.Players = n }, 3, 3, good},
		{"Every", func(r *impl.Replay, n int) { r.Every = n }, 1, 100, fresh},
		{"the first input", func(r *impl.Replay, n int) { r.Rows[0][0] = n }, 0, 15, good},
		{"the last input", func(r *impl.Replay, n int) { r.Rows[98][2] = n }, 0, 15, good},
	} {
		for _, n := range append(outside(c.low, c.high), c.low, c.low+1, c.high, c.high-1, 2*c.high+2, 1<<32) {
			r := changedReplay(c.base, func(r *impl.Replay) { c.set(r, n) })
			if got := impl.ReplayOk(r); got != (n >= c.low && n <= c.high) {
				t.Errorf("ReplayOk with %d as %s = %v", n, c.name, got)
			}
		}
	}
}

func TestReplayOkOfKeys(t *testing.T) {
	g := arenaGame(t, 2, 0)
	for _, every := range somePeriods() {
		for n := range 401 {
			r := g.replay(every, 0)
			r.Rows = g.rows(0, n)
			for _, keys := range []int{0, n/every - 1, n / every, n/every + 1, n} {
				// Keys may be whatever they are: only their number counts.
				r.Keys = slices.Repeat([]string{strings.Repeat("?", n)}, max(keys, 0))
				if got := impl.ReplayOk(r); got != (max(keys, 0) == n/every) {
					t.Fatalf("ReplayOk of %d rows and %d keys, one each %d = %v", n, keys, every, got)
				}
			}
		}
	}
	r := g.replay(1, 400)
	r.Keys[399], r.Keys[0] = strings.Repeat("x", 1000000), ""
	if !impl.ReplayOk(r) {
		t.Error("ReplayOk is false with a long key")
	}
}

func TestReplayOkOfManyRows(t *testing.T) {
	for _, n := range []int{399, 400, 401, 402, 500, 800} {
		for _, every := range []int{1, 100, 50} {
			r := impl.Replay{Level: levelOf(t, arena), Players: 1, Every: every, Rows: slices.Repeat([][]int{{15}}, n), Keys: make([]string, n/every)}
			if got := impl.ReplayOk(r); got != (n <= 400) {
				t.Errorf("ReplayOk of %d rows = %v", n, got)
			}
		}
	}
}

func TestNewReplay(t *testing.T) {
	l := levelOf(t, arena)
	for _, players := range []int{-1, 0, 1, 2, 3, 4, 5, math.MinInt, math.MaxInt} {
		for _, seed := range []int{-1, 0, 1, 65535, 65536, math.MinInt, math.MaxInt} {
			for _, every := range []int{-1, 0, 1, 2, 99, 100, 101, math.MinInt, math.MaxInt} {
				want := impl.Replay{Level: l, Players: players, Seed: seed, Every: every}
				fits := players >= 1 && players <= 4 && seed >= 0 && seed <= 65535 && every >= 1 && every <= 100
				if !fits {
					want = impl.Replay{}
				}
				got, ok := impl.NewReplay(l, players, seed, every)
				wantReplay(t, "NewReplay", got, ok, want, fits)
			}
		}
	}
	for _, bad := range []impl.Level{{}, boxOf(2, 8), boxOf(3, 3), boxOf(13, 8), withTile(l, 0, 0, '.'), withTile(l, 1, 1, '5'), withTile(l, 2, 1, '1')} {
		got, ok := impl.NewReplay(bad, 2, 1, 4)
		wantReplay(t, "NewReplay", got, ok, impl.Replay{}, false)
	}
}

func TestCutReplay(t *testing.T) {
	g := arenaGame(t, 3, 0)
	for _, every := range somePeriods() {
		for _, rows := range []int{0, 1, every - 1, every, every + 1, 2*every + 1, 400} {
			r := g.replay(every, rows)
			for n := -1; n <= rows+1; n++ {
				want, fits := impl.Replay{}, n >= 0 && n <= rows
				if fits {
					want = g.replay(every, 0)
					want.Rows, want.Keys = r.Rows[:n], r.Keys[:n/every]
				}
				got, ok := impl.CutReplay(r, n)
				wantReplay(t, "CutReplay", got, ok, want, fits)
			}
			for _, n := range outside(-1, rows+1) {
				got, ok := impl.CutReplay(r, n)
				wantReplay(t, "CutReplay", got, ok, impl.Replay{}, false)
			}
		}
	}
	for name, bad := range badReplays(t) {
		for _, n := range []int{0, 1, 4, len(bad.Rows)} {
			got, ok := impl.CutReplay(bad, n)
			wantReplay(t, "CutReplay with "+name, got, ok, impl.Replay{}, false)
		}
	}
}

// TestCutReplayKeepsDamage cuts a replay whose keys cannot be read.
func TestCutReplayKeepsDamage(t *testing.T) {
	r := arenaGame(t, 3, 0).replay(4, 10)
	r.Keys = []string{"x", "y"}
	for n, keys := range map[int][]string{0: nil, 3: nil, 4: {"x"}, 5: {"x"}, 7: {"x"}, 8: {"x", "y"}, 10: {"x", "y"}} {
		want := copiedReplay(r)
		want.Rows, want.Keys = want.Rows[:n], keys
		got, ok := impl.CutReplay(r, n)
		wantReplay(t, "CutReplay", got, ok, want, true)
	}
}

// otherReplays are replays that differ from one in one thing each, valid or not.
func otherReplays(r impl.Replay) []impl.Replay {
	var list []impl.Replay
	for _, how := range []func(r *impl.Replay){
		func(r *impl.Replay) { r.Level = impl.Level{} },
		func(r *impl.Replay) { r.Level.Rows[1] = "#1.......o2#" },
		func(r *impl.Replay) { r.Level.Rows = r.Level.Rows[:4] },
		func(r *impl.Replay) { r.Level.Rows[0], r.Level.Rows[1] = r.Level.Rows[1], r.Level.Rows[0] },
		func(r *impl.Replay) { r.Players-- },
		func(r *impl.Replay) { r.Seed++ },
		func(r *impl.Replay) { r.Every = 0 },
		func(r *impl.Replay) { r.Rows = nil },
		func(r *impl.Replay) { r.Rows = r.Rows[:9] },
		func(r *impl.Replay) { r.Rows = append(r.Rows, []int{0, 0, 0}) },
		func(r *impl.Replay) { r.Rows[0] = nil },
		func(r *impl.Replay) { r.Rows[9] = r.Rows[9][:2] },
		func(r *impl.Replay) { r.Rows[9][2] ^= 1 },
		func(r *impl.Replay) { r.Rows[0][0] ^= 8 },
		func(r *impl.Replay) { r.Keys = nil },
		func(r *impl.Replay) { r.Keys = r.Keys[1:] },
		func(r *impl.Replay) { r.Keys = append(r.Keys, "") },
		func(r *impl.Replay) { r.Keys[0] += "\x00" },
		func(r *impl.Replay) { r.Keys[1] = "" },
		func(r *impl.Replay) { r.Keys[0], r.Keys[1] = r.Keys[1], r.Keys[0] },
	} {
		list = append(list, changedReplay(r, how))
	}
	return list
}

func TestSameReplay(t *testing.T) {
	r := arenaGame(t, 3, 0).replay(4, 10)
	list := append(otherReplays(r), r, impl.Replay{})
	for i, a := range list {
		for k, b := range list {
			if got := impl.SameReplay(a, copiedReplay(b)); got != (i == k) {
				t.Errorf("SameReplay of %d and %d = %v", i, k, got)
			}
		}
	}
	empty := impl.Replay{Level: impl.Level{Rows: []string{}}, Rows: [][]int{}, Keys: []string{}}
	if !impl.SameReplay(empty, impl.Replay{}) || !impl.SameReplay(impl.Replay{Rows: [][]int{{}}}, impl.Replay{Rows: [][]int{nil}}) {
		t.Error("SameReplay distinguishes nil from empty lists")
	}
}
