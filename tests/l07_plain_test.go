package tests

import (
	"slices"
	"strings"
	"testing"

	"loop.example/g03315/impl"
)

// This file has what the tests of chapter 7 share: replays of games whose worlds are known, replays
// that are damaged or not valid, copies, and a second reading of the texts.

// rows are those for the ticks from one up to but without another one.
func (g *game) rows(from int, to int) [][]int {
	var rows [][]int
	for tick := from; tick < to; tick++ {
		row := make([]int, len(g.inputs))
		for k := range row {
			row[k] = g.inputs[k][tick]
		}
		rows = append(rows, row)
	}
	return rows
}

// replay is that of the first n ticks of a game without a fault.
func (g *game) replay(every int, n int) impl.Replay {
	r := impl.Replay{Level: deepCopy(g.worlds[0]).Level, Players: len(g.inputs), Seed: g.seed, Every: every, Rows: g.rows(0, n)}
	return withTexts(r, g.texts(every, n)...)
}

// texts are the bytes of the worlds that are keys of the replay of the first n ticks.
func (g *game) texts(every int, n int) []string {
	var texts []string
	for tick := every; tick <= n; tick += every {
		texts = append(texts, impl.WorldBytes(g.worlds[tick]))
	}
	return texts
}

// withTexts is a replay whose keys tell these bytes, one after the other.
func withTexts(r impl.Replay, texts ...string) impl.Replay {
	r = copiedReplay(r)
	r.Keys = nil
	w := impl.World{Level: r.Level, Seed: r.Seed, Scores: make([]int, r.Players)}
	for k := range r.Players {
		w.Bodies = append(w.Bodies, plainPlayer(r.Level, k))
	}
	before := impl.WorldBytes(w)
	for _, text := range texts {
		r.Keys = append(r.Keys, impl.DeltaText(before, text))
		before = text
	}
	return r
}

// copiedRows share no memory with some rows.
func copiedRows(rows [][]int) [][]int {
	rows = slices.Clone(rows)
	for i := range rows {
		rows[i] = slices.Clone(rows[i])
	}
	return rows
}

// copiedReplay shares no memory with a replay.
func copiedReplay(r impl.Replay) impl.Replay {
	r.Level.Rows, r.Rows, r.Keys = slices.Clone(r.Level.Rows), copiedRows(r.Rows), slices.Clone(r.Keys)
	return r
}

// changedReplay is a replay of which one thing is changed.
func changedReplay(r impl.Replay, how func(r *impl.Replay)) impl.Replay {
	r = copiedReplay(r)
	how(&r)
	return r
}

// spareRows are the same rows with more behind the end of each list.
func spareRows(rows [][]int) [][]int {
	longer := append(slices.Clone(rows), []int{81}, []int{82}, []int{83})
	for i := range rows {
		longer[i] = spareInts(rows[i])
	}
	return longer[:len(rows)]
}

// spareReplay is the same replay with more behind the end of each list.
func spareReplay(r impl.Replay) impl.Replay {
	r = copiedReplay(r)
	r.Level.Rows = append(r.Level.Rows, "spare", "more")[:len(r.Level.Rows)]
	r.Rows = spareRows(r.Rows)
	r.Keys = append(r.Keys, "spare", "more", "and more")[:len(r.Keys)]
	return r
}

// plainReplaySame compares two replays without the package.
func plainReplaySame(a impl.Replay, b impl.Replay) bool {
	numbers := func(r impl.Replay) [3]int { return [3]int{r.Players, r.Seed, r.Every} }
	return numbers(a) == numbers(b) && slices.Equal(a.Level.Rows, b.Level.Rows) && sameRows(a.Rows, b.Rows) && slices.Equal(a.Keys, b.Keys)
}

func sameRows(a [][]int, b [][]int) bool { return slices.EqualFunc(a, b, slices.Equal[[]int]) }

// wantReplay sees that a call gives a replay and says whether it did anything.
func wantReplay(t *testing.T, what string, got impl.Replay, ok bool, want impl.Replay, wantOk bool) {
	t.Helper()
	if ok != wantOk || !plainReplaySame(got, want) {
		t.Fatalf("%s gives %v and\n%s; want %v and\n%s", what, ok, brief(got), wantOk, brief(want))
	}
}

// wantWorld sees that a call gives a world, or none where the zero World is wanted.
func wantWorld(t *testing.T, what string, got impl.World, ok bool, want impl.World) {
	t.Helper()
	if ok != (len(want.Scores) > 0) || !plainSame(got, want) {
		t.Fatalf("%s gives %v and\n%s; want\n%s", what, ok, brief(got), brief(want))
	}
}

// badReplays are replays of which one thing is not valid, by its name.
func badReplays(t *testing.T) map[string]impl.Replay {
	good := arenaGame(t, 3, 0).replay(4, 10)
	fresh := arenaGame(t, 3, 0).replay(4, 0)
	list := map[string]impl.Replay{"the zero Replay": {}}
	for name, how := range map[string]func(r *impl.Replay){
		"no Level":               func(r *impl.Replay) { r.Level = impl.Level{} },
		"an open Level":          func(r *impl.Replay) { r.Level.Rows[0] = "#####.######" },
		"a ragged Level":         func(r *impl.Replay) { r.Level.Rows[4] += "#" },
		"no players":             func(r *impl.Replay) { r.Players = 0 },
		"a player too few":       func(r *impl.Replay) { r.Players = 2 },
		"a player too many":      func(r *impl.Replay) { r.Players = 4 },
		"the Seed -1":            func(r *impl.Replay) { r.Seed = -1 },
		"the Seed 65536":         func(r *impl.Replay) { r.Seed = 65536 },
		"the Every 0":            func(r *impl.Replay) { r.Every = 0 },
		"the Every -4":           func(r *impl.Replay) { r.Every = -4 },
		"another Every":          func(r *impl.Replay) { r.Every = 3 },
		"a first row too short":  func(r *impl.Replay) { r.Rows[0] = r.Rows[0][:2] },
		"a last row too short":   func(r *impl.Replay) { r.Rows[9] = r.Rows[9][:2] },
		"a row without inputs":   func(r *impl.Replay) { r.Rows[5] = nil },
		"a first row too long":   func(r *impl.Replay) { r.Rows[0] = append(r.Rows[0], 0) },
		"a last row too long":    func(r *impl.Replay) { r.Rows[9] = append(r.Rows[9], 0) },
		"a first input -1":       func(r *impl.Replay) { r.Rows[0][0] = -1 },
		"a last input -1":        func(r *impl.Replay) { r.Rows[9][2] = -1 },
		"a first input 16":       func(r *impl.Replay) { r.Rows[0][0] = 16 },
		"a last input 16":        func(r *impl.Replay) { r.Rows[9][2] = 16 },
		"a row that is missing":  func(r *impl.Replay) { r.Rows = r.Rows[:7] },
		"a row too many":         func(r *impl.Replay) { r.Rows = append(r.Rows, []int{0, 0, 0}, []int{0, 0, 0}) },
		"a key too few":          func(r *impl.Replay) { r.Keys = r.Keys[:1] },
		"a key too many":         func(r *impl.Replay) { r.Keys = append(r.Keys, r.Keys[0]) },
		"no keys":                func(r *impl.Replay) { r.Keys = nil },
		"rows from another game": func(r *impl.Replay) { r.Rows = arenaGame(t, 2, 0).rows(0, 10) },
	} {
		list[name] = changedReplay(good, how)
	}
	for name, how := range map[string]func(r *impl.Replay){
		"the Every 0 and no rows":   func(r *impl.Replay) { r.Every = 0 },
		"the Every 101 and no rows": func(r *impl.Replay) { r.Every = 101 },
		"no players and no rows":    func(r *impl.Replay) { r.Players = 0 },
		"-1 players and no rows":    func(r *impl.Replay) { r.Players = -1 },
		"5 players and no rows":     func(r *impl.Replay) { r.Players = 5 },
		"a key and no rows":         func(r *impl.Replay) { r.Keys = slices.Clone(good.Keys[:1]) },
	} {
		list[name] = changedReplay(fresh, how)
	}
	list["the Every 101"] = changedReplay(arenaGame(t, 3, 0).replay(100, 101), func(r *impl.Replay) { r.Every = 101 })
	list["401 rows"] = changedReplay(arenaGame(t, 3, 0).replay(7, 400), func(r *impl.Replay) { r.Rows = append(r.Rows, []int{0, 0, 0}) })
	return list
}

// noDeltas are keys that are no difference of any bytes, whatever stands before them.
func noDeltas() []string {
	return []string{
		"", "x", "\x05", "\x80\x00", "\x02\x00\x01a", "\x02\x01\x01a\x00", "\x01\x00\x01\x00", "\x02\x01\x00\x01\x00", "\x02\x00\x01a\x00\x01b",
		"\xa1\x9c\x01\xa1\x9c\x01\x00", impl.EncodeVarint(20001) + impl.PackZeros(strings.Repeat("a", 20001)),
	}
}

// noKeyTexts are bytes that are not those of a key at a tick, in a game of three players.
func noKeyTexts(t *testing.T, g *game, tick int) map[string]string {
	w := g.worlds[tick]
	texts := map[string]string{"no bytes": "", "one byte": "x", "many zeros": strings.Repeat("\x00", 20000), "bytes behind": impl.WorldBytes(w) + "\x00"}
	texts["a byte too few"] = impl.WorldBytes(w)[:len(impl.WorldBytes(w))-1]
	numbers, _, _ := impl.UnpackInts(impl.WorldBytes(w), 0)
	texts["no bodies"] = impl.PackInts(numbers[:6])
	numbers[8] = 0
	texts["a body in a wall"] = impl.PackInts(numbers)
	texts["two scores"] = impl.WorldBytes(twoOf(w))
	more := changedWorld(w, func(w *impl.World) { w.Scores = append(w.Scores, 0) })
	more.Bodies = slices.Insert(more.Bodies, 3, plainPlayer(g.level, 3))
	texts["four scores"] = impl.WorldBytes(more)
	for name, by := range map[string]int{"the tick before": -1, "the tick behind": 1, "a far tick": 90000, "another key's tick": 4} {
		texts[name] = impl.WorldBytes(changedWorld(w, func(w *impl.World) { w.Tick += by }))
	}
	texts["the new world"] = impl.WorldBytes(g.worlds[0])
	return texts
}

// plainReplayText is what the seal of a replay contains.
func plainReplayText(r impl.Replay) string {
	text := plainText(strings.Join(r.Level.Rows, "/")) + impl.PackInts([]int{r.Players, r.Seed, r.Every, len(r.Rows)})
	text += plainColumns(r.Rows, r.Players)
	for _, key := range r.Keys {
		text += plainText(key)
	}
	return text
}

// plainText is a text of less than 16384 bytes behind its length.
func plainText(s string) string {
	if len(s) < 128 {
		return string([]byte{byte(len(s))}) + s
	}
	return string([]byte{byte(len(s)%128 + 128), byte(len(s) / 128)}) + s
}

// plainColumns are the runs of each player's inputs.
func plainColumns(rows [][]int, players int) string {
	text := ""
	for k := range players {
		var inputs []int
		for _, row := range rows {
			inputs = append(inputs, row[k])
		}
		text += plainText(plainPack(inputs))
	}
	return text
}

// plainStreamText is what the seal of a stream contains.
func plainStreamText(first int, rows [][]int) string {
	return impl.PackInts([]int{first, len(rows), len(rows[0])}) + plainColumns(rows, len(rows[0]))
}
