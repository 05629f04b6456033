package tests

import (
	"slices"
	"strings"
	"testing"

	"loop.example/g03315/impl"
)

// goodReplays have few and many players, rows and keys, also keys that tell nothing.
func goodReplays(t *testing.T) []impl.Replay {
	var list []impl.Replay
	for players := 1; players <= 4; players++ {
		g := arenaGame(t, players, 0)
		for _, every := range somePeriods() {
			for _, n := range []int{0, 1, every - 1, every, every + 1, 400} {
				list = append(list, g.replay(every, n))
			}
		}
	}
	r := arenaGame(t, 3, 0).replay(4, 10)
	for _, keys := range [][]string{{"", ""}, {"", "x"}, {"x", ""}, {strings.Repeat("y", 127), strings.Repeat("z", 16383)}, {"\x00", allBytes()}} {
		list = append(list, changedReplay(r, func(r *impl.Replay) { r.Keys = keys }))
	}
	still := impl.Replay{Level: boxOf(3, 4), Players: 4, Seed: 65535, Every: 100, Rows: slices.Repeat([][]int{{0, 15, 8, 0}}, 99)}
	return append(list, still, impl.Replay{Level: levelOf(t, arena), Players: 1, Every: 1})
}

// noReplay sees that no replay is read from a text.
func noReplay(t *testing.T, what string, s string) {
	t.Helper()
	got, ok := impl.DecodeReplay(s)
	wantReplay(t, what+": DecodeReplay", got, ok, impl.Replay{}, false)
}

func TestEncodeReplay(t *testing.T) {
	l := boxOf(3, 4)
	r := impl.Replay{Level: l, Players: 2, Seed: 300, Every: 2, Rows: [][]int{{2, 1}, {2, 0}, {3, 0}}, Keys: []string{"key"}}
	want := impl.SealText("\x0e" + strings.Join(l.Rows, "/") + "\x04\x04\xd8\x04\x04\x06" + "\x02\x22\x13" + "\x02\x11\x20" + "\x03key")
	if got := impl.EncodeReplay(r); got != want {
		t.Errorf("EncodeReplay = %q; want %q", got, want)
	}
	for _, good := range goodReplays(t) {
		text := impl.EncodeReplay(good)
		if want := impl.SealText(plainReplayText(good)); text != want {
			t.Fatalf("EncodeReplay of %s = %.200q; want %.200q", brief(good), text, want)
		}
		got, ok := impl.DecodeReplay(text)
		wantReplay(t, "DecodeReplay", got, ok, good, true)
	}
	for name, bad := range badReplays(t) {
		if got := impl.EncodeReplay(bad); got != "" {
			t.Errorf("EncodeReplay with %s = %q", name, got)
		}
	}
}

// TestLongKeysAreTold has keys that are longer than any difference of worlds.
func TestLongKeysAreTold(t *testing.T) {
	r := arenaGame(t, 3, 0).replay(4, 10)
	r.Keys = []string{strings.Repeat("k", 20001), strings.Repeat("\xff", 300000)}
	got, ok := impl.DecodeReplay(impl.EncodeReplay(r))
	wantReplay(t, "DecodeReplay", got, ok, r, true)
}

func TestDecodeReplayRejectsOtherTexts(t *testing.T) {
	r := arenaGame(t, 3, 0).replay(4, 10)
	text, inner := impl.EncodeReplay(r), plainReplayText(r)
	noReplay(t, "the empty text", "")
	noReplay(t, "an empty seal", impl.SealText(""))
	for n := range len(text) {
		noReplay(t, "a text cut short", text[:n])
		noReplay(t, "a text without its beginning", text[n+1:])
	}
	for n := range len(inner) {
		noReplay(t, "a sealed text cut short", impl.SealText(inner[:n]))
		noReplay(t, "a sealed text without its beginning", impl.SealText(inner[n+1:]))
	}
	for b := range 256 {
		noReplay(t, "a longer text", text+string([]byte{byte(b)}))
		noReplay(t, "a longer text", string([]byte{byte(b)})+text)
		noReplay(t, "a longer sealed text", impl.SealText(inner+string([]byte{byte(b)})))
		noReplay(t, "a longer sealed text", impl.SealText(string([]byte{byte(b)})+inner))
	}
	noReplay(t, "a text twice", text+text)
	noReplay(t, "a sealed text twice", impl.SealText(inner+inner))
	noReplay(t, "a text that is not sealed", inner)
	noReplay(t, "a text that is sealed twice", impl.SealText(text))
	noReplay(t, "a packet", impl.EncodePacket(goodPackets()[0]))
	noReplay(t, "a stream", impl.EncodeStream(0, r.Rows))
}

// TestDecodeReplayRejectsBadReplays has texts of what is no replay, as they would be.
func TestDecodeReplayRejectsBadReplays(t *testing.T) {
	list := badReplays(t)
	for _, name := range []string{
		"the zero Replay", "no Level", "an open Level", "a ragged Level", "no players", "the Seed -1", "the Seed 65536", "the Every 0", "the Every -4", "another Every",
		"a row that is missing", "a row too many", "a key too few", "a key too many", "no keys", "the Every 0 and no rows", "the Every 101 and no rows",
		"no players and no rows", "-1 players and no rows", "5 players and no rows", "a key and no rows", "the Every 101", "401 rows",
	} {
		bad, ok := list[name]
		if !ok {
			t.Fatalf("no replay with %s", name)
		}
		noReplay(t, name, impl.SealText(plainReplayText(bad)))
	}
}

// replayText is a text like that of a replay, of its pieces.
func replayText(level string, numbers []int, tracks []string, keys ...string) string {
	text := impl.PackText(level) + impl.PackInts(numbers)
	for _, piece := range append(slices.Clone(tracks), keys...) {
		text += impl.PackText(piece)
	}
	return impl.SealText(text)
}

// TestDecodeReplayRejectsOtherPieces has texts that stand for a replay nearly.
func TestDecodeReplayRejectsOtherPieces(t *testing.T) {
	level := "####/#..#/####"
	good := []int{2, 9, 3, 4}
	tracks := []string{"\x22\x23", "\x40"}
	if r, ok := impl.DecodeReplay(replayText(level, good, tracks, "key")); !ok || len(r.Rows) != 4 || r.Rows[2][0] != 3 || r.Rows[3][1] != 0 || r.Keys[0] != "key" {
		t.Fatal("the text with no change is no replay", r)
	}
	for _, other := range []string{"", "/", "####/#..#/####/", "/####/#..#/####", "####/#..#", "####/#..#/####/####/#", "####/#..#/###", "####/#x.#/####", "####/####/####"} {
		noReplay(t, "another level", replayText(other, good, tracks, "key"))
	}
	for _, numbers := range [][]int{
		nil, {2}, {2, 9, 3}, {2, 9, 3, 4, 0}, {4, 2, 9, 3, 4}, {1, 9, 3, 4}, {3, 9, 3, 4}, {0, 9, 3, 4}, {5, 9, 3, 4}, {-2, 9, 3, 4}, {2, -1, 3, 4}, {2, 65536, 3, 4},
		{2, 9, 0, 4}, {2, 9, -3, 4}, {2, 9, 101, 4}, {2, 9, 2, 4}, {2, 9, 5, 4}, {2, 9, 1, 4}, {2, 9, 3, 3}, {2, 9, 3, 5}, {2, 9, 3, 0}, {2, 9, 3, -4}, {2, 9, 3, 401},
		{2, 9, 3, 549755813887}, {549755813887, 9, 3, 4}, {2, 9, 549755813887, 4}, {2, 9, -549755813888, 4}, {2, 9, 3, -549755813888},
	} {
		noReplay(t, "other numbers", replayText(level, numbers, tracks, "key"))
	}
	for _, other := range [][]string{
		nil, {"\x22\x23"}, {"\x22\x23", "\x40", ""}, {"\x22\x23", "\x40", "\x40"}, {"\x22\x23", "\x30"}, {"\x22\x23", "\x50"}, {"\x32\x23", "\x40"}, {"\x22", "\x40"},
		{"", ""}, {"", "\x40"}, {"\x22\x23", ""}, {"\x22\x23", "\x20\x20"}, {"\x12\x12\x23", "\x40"}, {"\x22\x23\x00", "\x40"}, {"\x22\x23", "\x40\x05"}, {"\x22\x23", "\xc0\x00"},
		{"\x22\xa3\x00", "\x40"}, {"\x22\x23", "\xc0"}, {"\x22\x23", "\x80\x80\x80\x80\x80\x10"}, {"\x22\x23", "\x80\x64"},
	} {
		noReplay(t, "other tracks", replayText(level, good, other, "key"))
	}
	for _, keys := range [][]string{{}, {"key", ""}, {"key", "key"}} {
		noReplay(t, "other keys", replayText(level, good, tracks, keys...))
	}
	long := impl.PackText(level) + "\x04\x04\x12\x06\x08" + "\x02\x22\x23\x01\x40"
	for _, end := range []string{"", "\x83\x00key", "\x04key", "\x02key", "\x03ke", "\x80"} {
		noReplay(t, "another length of a key", impl.SealText(long+end))
	}
	if _, ok := impl.DecodeReplay(impl.SealText(long + "\x03key")); !ok {
		t.Error("the text with no change is no replay")
	}
	for _, begin := range []string{"\x8e\x00", "\x0d", "\x0f", "\xff\xff\xff\xff\xff\x1f"} {
		noReplay(t, "another length of the level", impl.SealText(begin+level+long[15:]+"\x03key"))
	}
}

func TestDecodeReplayRejectsOneChangedByte(t *testing.T) {
	for _, r := range []impl.Replay{arenaGame(t, 3, 0).replay(4, 10), arenaGame(t, 1, 0).replay(1, 2), {Level: boxOf(3, 4), Players: 1, Every: 1}} {
		text := []byte(impl.EncodeReplay(r))
		for i, b := range text {
			for by := 1; by < 256; by += 1 + by/16 {
				text[i] = b ^ byte(by)
				noReplay(t, "one changed byte", string(text))
			}
			text[i] = b
		}
	}
}

// streamRows are n rows of some players.
func streamRows(n int, players int) [][]int {
	rows := make([][]int, n)
	for i := range rows {
		for k := range players {
			rows[i] = append(rows[i], (i/3+5*k+i*k)%16)
		}
	}
	return rows
}

// noStream sees that no rows are read from a text.
func noStream(t *testing.T, what string, s string) {
	t.Helper()
	if first, rows, ok := impl.DecodeStream(s); first != 0 || rows != nil || ok {
		t.Errorf("%s: DecodeStream(%.60q) = %d, %v, %v", what, s, first, rows, ok)
	}
}

// checkStream sees that rows can be told just if they should.
func checkStream(t *testing.T, first int, rows [][]int, fits bool) {
	t.Helper()
	text := impl.EncodeStream(first, rows)
	if !fits {
		if text != "" {
			t.Errorf("EncodeStream from %d on of %v = %q", first, rows, text)
		}
		return
	}
	if want := impl.SealText(plainStreamText(first, rows)); text != want {
		t.Errorf("EncodeStream from %d on of %v = %q; want %q", first, rows, text, want)
	}
	if at, got, ok := impl.DecodeStream(text); at != first || !sameRows(got, rows) || !ok {
		t.Errorf("DecodeStream(%q) = %d, %v, %v; want %d, %v", text, at, got, ok, first, rows)
	}
}

func TestEncodeStream(t *testing.T) {
	want := impl.SealText("\x03\x0e\x06\x04" + "\x02\x22\x13" + "\x02\x11\x20")
	if got := impl.EncodeStream(7, [][]int{{2, 1}, {2, 0}, {3, 0}}); got != want {
		t.Errorf("EncodeStream = %q; want %q", got, want)
	}
	for players := range 7 {
		for n := range 25 {
			for _, first := range []int{0, 1, 64, 380, 381, 399, 400} {
				checkStream(t, first, streamRows(n, players), players >= 1 && players <= 4 && n >= 1 && n <= 20)
			}
			for _, first := range outside(0, 400) {
				checkStream(t, first, streamRows(n, players), false)
			}
		}
	}
	checkStream(t, 0, nil, false)
	checkStream(t, 0, make([][]int, 5), false)
	checkStream(t, 0, streamRows(400, 2), false)
}

func TestEncodeStreamRejectsBadRows(t *testing.T) {
	for players := 1; players <= 4; players++ {
		for _, n := range []int{1, 2, 20} {
			for at := range n {
				for k := range players {
					for _, input := range noInputs() {
						rows := streamRows(n, players)
						rows[at][k] = input
						checkStream(t, 5, rows, false)
					}
				}
				for length := range 7 {
					rows := streamRows(n, players)
					rows[at] = make([]int, length)
					checkStream(t, 5, rows, length == players || n == 1 && length >= 1 && length <= 4)
				}
			}
		}
	}
}

func TestDecodeStreamRejectsOtherTexts(t *testing.T) {
	rows := streamRows(7, 3)
	text, inner := impl.EncodeStream(70, rows), plainStreamText(70, rows)
	noStream(t, "the empty text", "")
	noStream(t, "an empty seal", impl.SealText(""))
	for n := range len(text) {
		noStream(t, "a text cut short", text[:n])
		noStream(t, "a text without its beginning", text[n+1:])
	}
	for n := range len(inner) {
		noStream(t, "a sealed text cut short", impl.SealText(inner[:n]))
		noStream(t, "a sealed text without its beginning", impl.SealText(inner[n+1:]))
	}
	for b := range 256 {
		noStream(t, "a longer text", text+string([]byte{byte(b)}))
		noStream(t, "a longer sealed text", impl.SealText(inner+string([]byte{byte(b)})))
		noStream(t, "a longer sealed text", impl.SealText(string([]byte{byte(b)})+inner))
	}
	noStream(t, "a text twice", text+text)
	noStream(t, "a sealed text twice", impl.SealText(inner+inner))
	noStream(t, "a text that is not sealed", inner)
	noStream(t, "a packet", impl.EncodePacket(goodPackets()[0]))
	noStream(t, "a replay", impl.EncodeReplay(arenaGame(t, 3, 0).replay(4, 10)))
	noStream(t, "no rows", impl.SealText(impl.PackInts([]int{0, 0, 2})+"\x00\x00"))
	noStream(t, "no players", impl.SealText(impl.PackInts([]int{0, 2, 0})))
	noStream(t, "21 rows", impl.SealText(plainStreamText(0, streamRows(21, 2))))
	noStream(t, "5 players", impl.SealText(plainStreamText(0, streamRows(2, 5))))
	noStream(t, "a negative first tick", impl.SealText(plainStreamText(-1, rows)))
	noStream(t, "a first tick of 401", impl.SealText(plainStreamText(401, rows)))
}

// TestDecodeStreamRejectsOtherPieces has texts that stand for rows nearly.
func TestDecodeStreamRejectsOtherPieces(t *testing.T) {
	sealed := func(numbers []int, tracks ...string) string {
		text := impl.PackInts(numbers)
		for _, track := range tracks {
			text += impl.PackText(track)
		}
		return impl.SealText(text)
	}
	good := []int{6, 4, 2}
	if first, rows, ok := impl.DecodeStream(sealed(good, "\x22\x23", "\x40")); first != 6 || len(rows) != 4 || rows[3][0] != 3 || !ok {
		t.Fatal("the text with no change has no rows", rows)
	}
	for _, numbers := range [][]int{
		nil, {6}, {6, 4}, {6, 4, 2, 0}, {3, 6, 4, 2}, {6, 3, 2}, {6, 5, 2}, {6, 0, 2}, {6, -4, 2}, {6, 4, 1}, {6, 4, 3}, {6, 4, 0}, {6, 4, -2}, {6, 21, 2}, {6, 4, 5},
		{-1, 4, 2}, {401, 4, 2}, {6, 549755813887, 2}, {6, 4, 549755813887}, {549755813887, 4, 2}, {6, -549755813888, 2}, {6, 4, -549755813888},
	} {
		noStream(t, "other numbers", sealed(numbers, "\x22\x23", "\x40"))
	}
	for _, other := range [][]string{
		nil, {"\x22\x23"}, {"\x22\x23", "\x40", ""}, {"\x22\x23", "\x40", "\x40"}, {"\x22\x23", "\x30"}, {"\x22\x23", "\x50"}, {"\x32\x23", "\x40"}, {"\x22", "\x40"}, {"", ""},
		{"", "\x40"}, {"\x22\x23", ""}, {"\x22\x23", "\x20\x20"}, {"\x12\x12\x23", "\x40"}, {"\x22\x23\x00", "\x40"}, {"\x22\x23", "\x40\x05"}, {"\x22\x23", "\xc0\x00"},
		{"\x22\x23", "\x80\x80\x80\x80\x80\x10"}, {"\x22\x23", "\x80\x64"}, {"\x40", "\x22\x23", "\x40"},
	} {
		noStream(t, "other tracks", sealed(good, other...))
	}
	for _, text := range []string{"\x03\x8c\x00\x08\x04\x02\x22\x23\x01\x40", "\x83\x00\x0c\x08\x04\x02\x22\x23\x01\x40", "\x03\x0c\x08\x04\x82\x00\x22\x23\x01\x40"} {
		noStream(t, "a longer number", impl.SealText(text))
	}
}

func TestDecodeStreamRejectsOneChangedByte(t *testing.T) {
	for _, rows := range [][][]int{streamRows(1, 1), streamRows(20, 4), streamRows(7, 3)} {
		text := []byte(impl.EncodeStream(300, rows))
		for i, b := range text {
			for by := 1; by < 256; by++ {
				text[i] = b ^ byte(by)
				noStream(t, "one changed byte", string(text))
			}
			text[i] = b
		}
	}
}
