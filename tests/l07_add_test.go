package tests

import (
	"fmt"
	"slices"
	"testing"

	"loop.example/g03315/impl"
)

// checkAdded compares a replay with a row more.
func checkAdded(t *testing.T, what string, r impl.Replay, row []int, want impl.Replay, wantOk bool) {
	t.Helper()
	got, ok := impl.AddRow(r, row)
	wantReplay(t, "AddRow to "+what, got, ok, want, wantOk)
	got, ok = impl.AddRows(r, [][]int{row})
	wantReplay(t, "AddRows to "+what, got, ok, want, wantOk)
}

func TestAddRow(t *testing.T) {
	for players := 1; players <= 4; players++ {
		g := arenaGame(t, players, 0)
		for _, every := range somePeriods() {
			for _, n := range []int{0, 1, every - 2, every - 1, every, every + 1, 2*every - 1, 2 * every, 398, 399} {
				if n >= 0 && n < 400 {
					checkAdded(t, fmt.Sprint(n, " rows"), g.replay(every, n), g.rows(n, n+1)[0], g.replay(every, n+1), true)
				}
			}
			whole := g.replay(every, 400)
			checkAdded(t, "400 rows", whole, make([]int, players), whole, false)
		}
	}
}

// badRows are rows that are not valid for three players.
func badRows() [][]int {
	rows := [][]int{nil, {}, {0}, {0, 0}, {0, 0, 0, 0}, {0, 0, 0, 0, 0}, make([]int, 400)}
	for _, n := range noInputs() {
		rows = append(rows, []int{n, 0, 0}, []int{0, n, 0}, []int{0, 0, n})
	}
	return rows
}

func TestAddRowRejects(t *testing.T) {
	g := arenaGame(t, 3, 0)
	for _, row := range badRows() {
		for _, n := range []int{0, 2, 3, 4, 399} {
			checkAdded(t, "a replay", g.replay(4, n), row, g.replay(4, n), false)
		}
	}
	for name, bad := range badReplays(t) {
		for _, row := range [][]int{{0, 0, 0}, {0, 0}, {0}, {}, {0, 0, 0, 0}, {0, 0, 0, 0, 0}} {
			checkAdded(t, name, bad, row, bad, false)
		}
	}
}

// TestAddRowToDamage has rows that bring a key and rows that bring none, for replays whose last key or
// an earlier one cannot be read.
func TestAddRowToDamage(t *testing.T) {
	g := arenaGame(t, 3, 0)
	for n := 8; n < 12; n++ {
		for damaged := range 2 {
			// Behind what is no difference, no key can be read.
			for _, key := range noDeltas() {
				r := g.replay(4, n)
				r.Keys[damaged] = key
				checkAdded(t, "a replay with no difference", r, g.rows(n, n+1)[0], r, false)
			}
			for name, text := range noKeyTexts(t, g, 4*(damaged+1)) {
				texts := g.texts(4, n)
				texts[damaged] = text
				r := withTexts(g.replay(4, n), texts...)
				want, fits := r, damaged == 0
				if fits {
					want = withTexts(g.replay(4, n+1), append(texts, g.texts(4, n+1)[2:]...)...)
				}
				checkAdded(t, "a replay with "+name, r, g.rows(n, n+1)[0], want, fits)
			}
		}
	}
}

// TestAddRowBelievesTheLastKey has keys that tell another world: the next key follows from the last
// one.
func TestAddRowBelievesTheLastKey(t *testing.T) {
	g := arenaGame(t, 3, 0)
	for _, every := range []int{1, 4, 9} {
		for damaged := range 3 {
			for n := 3 * every; n < 4*every; n++ {
				r, list := tampered(g, g.replay(every, n), g.texts(every, n), damaged)
				row := g.rows(n, n+1)[0]
				want := changedReplay(r, func(r *impl.Replay) { r.Rows = append(r.Rows, row) })
				if n == 4*every-1 {
					before, next := g.worlds[3*every], g.worlds[4*every]
					if damaged == 2 {
						before, next = list[0], plainStep(list[len(list)-1], row)
					}
					want.Keys = append(want.Keys, impl.DeltaText(impl.WorldBytes(before), impl.WorldBytes(next)))
				}
				checkAdded(t, "a replay of another world", r, row, want, true)
			}
		}
	}
}

func TestAddRows(t *testing.T) {
	g := arenaGame(t, 2, 0)
	for _, every := range somePeriods() {
		for _, n := range []int{0, 1, every - 1, every, every + 1, 300} {
			for _, m := range []int{n, n + 1, n + every - 1, n + every, n + every + 1, n + 3*every, 399, 400} {
				if m < n || m > 400 {
					continue
				}
				got, ok := impl.AddRows(g.replay(every, n), g.rows(n, m))
				wantReplay(t, fmt.Sprintf("AddRows from %d to %d", n, m), got, ok, g.replay(every, m), true)
			}
		}
	}
}

// TestAddRowsRefuses has rows of which the first, the second or a later one is refused.
func TestAddRowsRefuses(t *testing.T) {
	g := arenaGame(t, 3, 0)
	for _, bad := range badRows() {
		for _, n := range []int{0, 3, 4} {
			for at := range 7 {
				rows := g.rows(n, n+7)
				rows[at] = bad
				got, ok := impl.AddRows(g.replay(4, n), rows)
				wantReplay(t, fmt.Sprintf("AddRows with %v as row %d", bad, at), got, ok, g.replay(4, n), false)
			}
		}
	}
	for _, n := range []int{0, 1, 250, 398, 399, 400} {
		for _, more := range []int{401 - n, 402 - n, 800} {
			got, ok := impl.AddRows(g.replay(7, n), slices.Repeat(g.rows(0, 1), more))
			wantReplay(t, fmt.Sprintf("AddRows of %d to %d rows", more, n), got, ok, g.replay(7, n), false)
		}
	}
}

// TestAddRowsToBadReplays also has no rows: nothing is refused then.
func TestAddRowsToBadReplays(t *testing.T) {
	list := badReplays(t)
	g := arenaGame(t, 3, 0)
	damaged := changedReplay(g.replay(4, 10), func(r *impl.Replay) { r.Keys[0] = "x" })
	list["a key that is no difference"] = damaged
	for name, bad := range list {
		for _, rows := range [][][]int{g.rows(0, 1), g.rows(0, 3), arenaGame(t, 2, 0).rows(0, 2), {{}}, {nil, nil}} {
			got, ok := impl.AddRows(bad, rows)
			wantReplay(t, "AddRows to "+name, got, ok, bad, false)
		}
		for _, rows := range [][][]int{nil, {}} {
			got, ok := impl.AddRows(bad, rows)
			wantReplay(t, "AddRows of no rows to "+name, got, ok, bad, true)
		}
	}
}

func TestRecordPeer(t *testing.T) {
	for players := 1; players <= 4; players++ {
		g := arenaGame(t, players, 0)
		for _, base := range []int{0, 1, 6, 7, 8, 99, 100, 392} {
			p := plainPeer{game: g, me: players - 1, ahead: 8, base: base, now: base + 5, known: slices.Repeat([]int{base + 5}, players), rolls: 3, again: 4}
			// Others may be known for longer: just what is confirmed counts.
			p.known[0]++
			for _, every := range somePeriods() {
				got, ok := impl.RecordPeer(p.peer(), every)
				wantReplay(t, fmt.Sprint("RecordPeer at ", base), got, ok, g.replay(every, base), true)
			}
			for _, every := range outside(1, 100) {
				got, ok := impl.RecordPeer(p.peer(), every)
				wantReplay(t, fmt.Sprint("RecordPeer each ", every), got, ok, impl.Replay{}, false)
			}
		}
	}
	for name, bad := range badPeers(t) {
		for _, every := range []int{0, 1, 4, 100} {
			got, ok := impl.RecordPeer(bad, every)
			wantReplay(t, "RecordPeer with "+name, got, ok, impl.Replay{}, false)
		}
	}
}

// TestRecordPeerFollowsTheRows has peers whose confirmed world is not that of their inputs: with a
// fault, and with another Seed.
func TestRecordPeerFollowsTheRows(t *testing.T) {
	right, wrong := faultyPair(t, impl.Fault{Tick: 9, Player: 2, Add: 4}, 30, 30)
	g := arenaGame(t, 3, 2)
	for name, p := range map[string]impl.Peer{"without a fault": right, "with a fault": wrong} {
		got, ok := impl.RecordPeer(p, 4)
		wantReplay(t, "RecordPeer "+name, got, ok, g.replay(4, 30), true)
		if w, ok := impl.PlayReplay(got, 30); !ok || plainSame(w, p.Base) != (name == "without a fault") {
			t.Errorf("%s: the replay leads to %v", name, w)
		}
	}
	right.Seed ^= 1
	other := gameOf(g.level, right.Seed, 2, impl.Fault{}, g.inputs)
	got, ok := impl.RecordPeer(right, 4)
	wantReplay(t, "RecordPeer with another Seed", got, ok, other.replay(4, 30), true)
}
