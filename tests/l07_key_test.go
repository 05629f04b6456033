package tests

import (
	"math"
	"slices"
	"testing"

	"loop.example/g03315/impl"
)

// checkKey compares a key; it is none where the zero World is wanted.
func checkKey(t *testing.T, what string, r impl.Replay, k int, want impl.World) {
	t.Helper()
	w, ok := impl.KeyAt(r, k)
	wantWorld(t, what+": KeyAt "+impl.FormatInt(k), w, ok, want)
}

// checkSeek compares the world at a tick by its keys.
func checkSeek(t *testing.T, what string, r impl.Replay, tick int, want impl.World) {
	t.Helper()
	w, ok := impl.SeekReplay(r, tick)
	wantWorld(t, what+": SeekReplay to "+impl.FormatInt(tick), w, ok, want)
}

// checkPlay compares the world at a tick from the beginning.
func checkPlay(t *testing.T, what string, r impl.Replay, tick int, want impl.World) {
	t.Helper()
	w, ok := impl.PlayReplay(r, tick)
	wantWorld(t, what+": PlayReplay to "+impl.FormatInt(tick), w, ok, want)
}

func TestKeyAt(t *testing.T) {
	for players := 1; players <= 4; players++ {
		g := arenaGame(t, players, 0)
		for _, every := range somePeriods() {
			for _, n := range []int{0, 1, every - 1, every, every + 1, 5*every + 2, 400} {
				r := g.replay(every, min(n, 400))
				for k := -1; k < len(r.Keys); k += 1 + k/20 {
					checkKey(t, "a replay", r, k, g.worlds[(k+1)*every])
				}
				last := len(r.Keys) - 1
				checkKey(t, "a replay", r, last, g.worlds[(last+1)*every])
				for _, k := range []int{-2, -3, last + 1, last + 2, len(r.Rows) + 1, math.MinInt, math.MaxInt} {
					checkKey(t, "a replay", r, k, impl.World{})
				}
			}
		}
	}
	for name, bad := range badReplays(t) {
		for k := -2; k < 4; k++ {
			checkKey(t, name, bad, k, impl.World{})
		}
	}
}

func TestSeekReplayAndPlayReplay(t *testing.T) {
	for players := 1; players <= 4; players++ {
		g := arenaGame(t, players, 0)
		for _, every := range somePeriods() {
			for _, n := range []int{0, 1, every - 1, every, every + 1, min(2*every+3, 400)} {
				r := g.replay(every, n)
				for _, tick := range []int{0, 1, every - 1, every, every + 1, 2*every - 1, 2 * every, 2*every + 1, n - 1, n, n + 1, -1, -every, math.MinInt, math.MaxInt} {
					var want impl.World
					if tick >= 0 && tick <= n {
						want = g.worlds[tick]
					}
					checkSeek(t, "a replay", r, tick, want)
					checkPlay(t, "a replay", r, tick, want)
				}
			}
		}
	}
	for name, bad := range badReplays(t) {
		for _, tick := range []int{-1, 0, 1, 4, len(bad.Rows)} {
			checkSeek(t, name, bad, tick, impl.World{})
			checkPlay(t, name, bad, tick, impl.World{})
		}
	}
}

// TestKeysThatAreNoDifferences has keys behind which no key can be read.
func TestKeysThatAreNoDifferences(t *testing.T) {
	g := arenaGame(t, 3, 0)
	for damaged := range 4 {
		for _, key := range noDeltas() {
			r := g.replay(4, 18)
			r.Keys[damaged] = key
			for tick := range 19 {
				want := g.worlds[tick]
				checkPlay(t, "no difference", r, tick, want)
				if tick/4-1 >= damaged {
					want = impl.World{}
				}
				checkSeek(t, "no difference", r, tick, want)
				if tick%4 == 0 {
					checkKey(t, "no difference", r, tick/4-1, want)
				}
			}
			if got := impl.FindTamper(r); got != damaged {
				t.Errorf("FindTamper = %d with the key %d %.20q", got, damaged, key)
			}
		}
	}
}

// TestNothingStandsBehindNoDifference has a key from no bytes at all behind one that is no difference.
func TestNothingStandsBehindNoDifference(t *testing.T) {
	g := arenaGame(t, 3, 0)
	for _, key := range noDeltas() {
		for damaged := range 3 {
			r := g.replay(4, 18)
			r.Keys[damaged] = key
			r.Keys[damaged+1] = impl.DeltaText("", impl.WorldBytes(g.worlds[4*(damaged+2)]))
			for k := damaged; k < 4; k++ {
				checkKey(t, "a key from no bytes", r, k, impl.World{})
				checkSeek(t, "a key from no bytes", r, 4*(k+1), impl.World{})
			}
			if got := impl.FindTamper(r); got != damaged {
				t.Errorf("FindTamper = %d; want %d", got, damaged)
			}
		}
	}
}

// TestKeysThatAreNoWorlds has keys that are not what they should be, but behind which all keys can be
// read.
func TestKeysThatAreNoWorlds(t *testing.T) {
	g := arenaGame(t, 3, 0)
	for damaged := range 4 {
		for name, text := range noKeyTexts(t, g, 4*(damaged+1)) {
			texts := g.texts(4, 18)
			texts[damaged] = text
			r := withTexts(g.replay(4, 18), texts...)
			for tick := range 19 {
				want := g.worlds[tick]
				checkPlay(t, name, r, tick, want)
				if tick/4-1 == damaged {
					want = impl.World{}
				}
				checkSeek(t, name, r, tick, want)
				if tick%4 == 0 {
					checkKey(t, name, r, tick/4-1, want)
				}
			}
			if got := impl.FindTamper(r); got != damaged {
				t.Errorf("FindTamper = %d where the key %d has %s", got, damaged, name)
			}
		}
	}
}

// tampered is a replay in which a key tells a world that was not, and what follows from this world up
// to the next key.
func tampered(g *game, r impl.Replay, texts []string, k int) (impl.Replay, []impl.World) {
	w := changedWorld(g.worlds[(k+1)*r.Every], func(w *impl.World) {
		w.Scores[1] += 5
		w.Seed ^= 1
		w.Bodies = append(w.Bodies[:3:3], impl.Body{Kind: 2, X: 20, Y: 20})
	})
	texts = append(append(texts[:k:k], impl.WorldBytes(w)), texts[k+1:]...)
	list := []impl.World{w}
	end := min((k+2)*r.Every-1, len(r.Rows))
	for w.Tick < end {
		w = plainStep(w, r.Rows[w.Tick])
		list = append(list, w)
	}
	return withTexts(r, texts...), list
}

// TestKeysThatTellAnotherWorld has keys that can be read: they are believed, except by FindTamper.
func TestKeysThatTellAnotherWorld(t *testing.T) {
	g := arenaGame(t, 3, 0)
	for _, every := range []int{1, 4, 9} {
		n := 4*every + every/2
		for damaged := range 4 {
			r, list := tampered(g, g.replay(every, n), g.texts(every, n), damaged)
			from := every * (damaged + 1)
			for tick := range n + 1 {
				checkPlay(t, "another world", r, tick, g.worlds[tick])
				want := g.worlds[tick]
				if tick >= from && tick < from+len(list) {
					want = list[tick-from]
				}
				checkSeek(t, "another world", r, tick, want)
			}
			checkKey(t, "another world", r, damaged, list[0])
			if got := impl.FindTamper(r); got != damaged {
				t.Errorf("FindTamper = %d where the key %d tells another world", got, damaged)
			}
		}
	}
}

func TestFindTamperFindsNothing(t *testing.T) {
	for players := 1; players <= 4; players++ {
		g := arenaGame(t, players, 0)
		for _, every := range somePeriods() {
			for _, n := range []int{0, every - 1, every, every + 1, 400} {
				if got := impl.FindTamper(g.replay(every, n)); got != -1 {
					t.Errorf("FindTamper of %d rows = %d", n, got)
				}
			}
		}
	}
	for name, bad := range badReplays(t) {
		if got := impl.FindTamper(bad); got != -1 {
			t.Errorf("FindTamper with %s = %d", name, got)
		}
		bad.Keys = slices.Repeat([]string{"x"}, len(bad.Keys))
		if got := impl.FindTamper(bad); got != -1 {
			t.Errorf("FindTamper with %s and bad keys = %d", name, got)
		}
	}
}

// TestFindTamperOfOtherBeginnings has keys of another seed or other rows.
func TestFindTamperOfOtherBeginnings(t *testing.T) {
	g := arenaGame(t, 3, 0)
	r := changedReplay(g.replay(4, 18), func(r *impl.Replay) { r.Seed ^= 1 })
	if got := impl.FindTamper(r); got != 0 {
		t.Errorf("FindTamper with another Seed = %d", got)
	}
	still := gameOf(g.level, g.seed, 0, impl.Fault{}, [][]int{make([]int, 400), make([]int, 400)})
	for tick := range 20 {
		r := still.replay(4, 18)
		if tick < 18 {
			r.Rows[tick][1] = impl.PressRight
		}
		want := tick / 4
		if want == 4 || tick > 17 {
			// What is pressed behind the last key is in none.
			want = -1
		}
		if got := impl.FindTamper(r); got != want {
			t.Errorf("FindTamper with another row %d = %d; want %d", tick, got, want)
		}
	}
}
