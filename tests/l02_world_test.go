package tests

import (
	"math"
	"math/rand"
	"slices"
	"strings"
	"testing"

	"loop.example/g03315/impl"
)

// duel is a world of two players side by side on the floor, of whom the first one looks at the
// second one.
func duel(t *testing.T) impl.World {
	w := worldOf(t, "########/#......#/#.1..2.#/########", 2, 7)
	for k := range w.Bodies {
		w.Bodies[k].Y = 36
	}
	return w
}

func TestWorldOkHead(t *testing.T) {
	good := duel(t)
	for _, c := range []struct {
		name      string
		set       func(w *impl.World, n int)
		low, high int
	}{
		{"Tick", func(w *impl.World, n int) { w.Tick = n }, 0, 100000},
		{"Seed", func(w *impl.World, n int) { w.Seed = n }, 0, 65535},
		{"the first score", func(w *impl.World, n int) { w.Scores[0] = n }, 0, 1000000},
		{"the last score", func(w *impl.World, n int) { w.Scores[1] = n }, 0, 1000000},
	} {
		for _, n := range []int{
			math.MinInt, -65536, -1, 0, 1, 5, c.high - 1, c.high, c.high + 1, 2*c.high + 2, 1 << 32, math.MaxInt,
		} {
			w := deepCopy(good)
			c.set(&w, n)
			if got := impl.WorldOk(w); got != (n >= c.low && n <= c.high) {
				t.Errorf("WorldOk with %d as %s = %v", n, c.name, got)
			}
		}
	}
	for _, bad := range []impl.Level{{}, boxOf(2, 8), boxOf(4, 21), boxOf(4, 7), withTile(good.Level, 0, 0, '.'), withTile(good.Level, 2, 2, '#')} {
		w := deepCopy(good)
		w.Level = bad
		if got, fits := impl.WorldOk(w), len(bad.Rows) == 4 && bad.Rows[0] == "#######"; got != fits {
			t.Errorf("WorldOk in %q = %v", bad.Rows, got)
		}
	}
	if impl.WorldOk(impl.World{}) {
		t.Error("WorldOk of the zero World")
	}
}

func TestWorldOkCounts(t *testing.T) {
	l := boxOf(5, 8)
	for scores := range 7 {
		for players := range 7 {
			for others := range 26 {
				w := impl.World{Level: l, Scores: make([]int, scores)}
				for k := range players {
					w.Bodies = append(w.Bodies, plainPlayer(l, k))
				}
				for i := range others {
					w.Bodies = append(w.Bodies, []impl.Body{{Kind: 1, X: 20, Y: 20, Timer: 1}, {Kind: 2, X: 20, Y: 20}}[i%2])
				}
				want := scores >= 1 && scores <= 4 && players == scores && players+others <= 24
				if got := impl.WorldOk(w); got != want {
					t.Errorf("WorldOk of %d scores, %d players and %d others = %v", scores, players, others, got)
				}
			}
		}
	}
}

func TestWorldOkBodies(t *testing.T) {
	shot, item := impl.Body{Kind: 1, Owner: 1, X: 70, Y: 20, Timer: 9}, impl.Body{Kind: 2, X: 40, Y: 20}
	for name, change := range map[string]func(w *impl.World){
		"players in another order":   func(w *impl.World) { w.Bodies[0], w.Bodies[1] = w.Bodies[1], w.Bodies[0] },
		"two players 0":              func(w *impl.World) { w.Bodies[1].Owner = 0 },
		"two players 1":              func(w *impl.World) { w.Bodies[0].Owner = 1 },
		"an item before a player":    func(w *impl.World) { w.Bodies[1], w.Bodies[2] = w.Bodies[2], w.Bodies[1] },
		"a shot as the first body":   func(w *impl.World) { w.Bodies[0] = w.Bodies[3] },
		"a shot of nobody":           func(w *impl.World) { w.Bodies[3].Owner = 2 },
		"a shot of a negative owner": func(w *impl.World) { w.Bodies[3].Owner = -1 },
		"a third player":             func(w *impl.World) { w.Bodies[3] = w.Bodies[1] },
		"a third player 2":           func(w *impl.World) { w.Bodies[3] = w.Bodies[1]; w.Bodies[3].Owner = 2 },
		"an unknown kind":            func(w *impl.World) { w.Bodies[2].Kind = 3 },
		"a negative kind":            func(w *impl.World) { w.Bodies[2].Kind = -1 },
		"an item of an owner":        func(w *impl.World) { w.Bodies[2].Owner = 1 },
		"an item in a wall":          func(w *impl.World) { w.Bodies[2].X = 15 },
		"a player in a wall":         func(w *impl.World) { w.Bodies[1].Y = 37 },
		"a shot outside":             func(w *impl.World) { w.Bodies[3].X = -5 },
		"a fast shot":                func(w *impl.World) { w.Bodies[3].VX = 16 },
		"a shot without Timer":       func(w *impl.World) { w.Bodies[3].Timer = 0 },
		"the last body too old":      func(w *impl.World) { w.Bodies[len(w.Bodies)-1].Timer = 26 },
		"a player without Life":      func(w *impl.World) { w.Bodies[0].Life = 0 },
		"a player without Aim":       func(w *impl.World) { w.Bodies[0].Aim = 0 },
	} {
		w := duel(t)
		w.Bodies = append(w.Bodies, item, shot)
		if !impl.WorldOk(w) {
			t.Fatal("WorldOk of the world without a change")
		}
		change(&w)
		if impl.WorldOk(w) {
			t.Errorf("WorldOk with %s", name)
		}
	}
}

func TestNewWorld(t *testing.T) {
	l := levelOf(t, "#######/#.3.1.#/#.....#/#######")
	for players := -1; players <= 6; players++ {
		for _, seed := range []int{math.MinInt, -1, 0, 1, 65535, 65536, math.MaxInt} {
			w, ok := impl.NewWorld(l, players, seed)
			if want := players >= 1 && players <= 4 && seed >= 0 && seed <= 65535; ok != want {
				t.Fatalf("NewWorld of %d players with the seed %d: %v", players, seed, ok)
			}
			if !ok {
				if !plainSame(w, impl.World{}) {
					t.Errorf("NewWorld of %d players with the seed %d: false and %v", players, seed, w)
				}
				continue
			}
			want := impl.World{Level: l, Seed: seed, Scores: make([]int, players)}
			for k := range players {
				want.Bodies = append(want.Bodies, impl.Body{Owner: k, X: []int{66, 18, 34, 18}[k], Y: 18, Aim: 1, Life: 3})
			}
			if !plainSame(w, want) || !impl.WorldOk(w) {
				t.Errorf("NewWorld of %d players = %v; want %v", players, w, want)
			}
		}
	}
	for _, players := range []int{math.MinInt, 1 << 40, math.MaxInt} {
		if w, ok := impl.NewWorld(l, players, 1); ok || !plainSame(w, impl.World{}) {
			t.Errorf("NewWorld of %d players", players)
		}
	}
	for _, bad := range []impl.Level{{}, boxOf(2, 5), boxOf(3, 3), {Rows: []string{"####", "####", "####"}}} {
		if w, ok := impl.NewWorld(bad, 1, 1); ok || !plainSame(w, impl.World{}) {
			t.Errorf("NewWorld in %q = %v, %v", bad.Rows, w, ok)
		}
	}
}

func TestNewWorldHasRowsOfItsOwn(t *testing.T) {
	l := levelOf(t, "####/#..#/####")
	w, _ := impl.NewWorld(l, 1, 1)
	w.Level.Rows[1] = "#oo#"
	if l.Rows[1] != "#..#" {
		t.Error("the world shares the rows of the level")
	}
}

func TestWorldBytes(t *testing.T) {
	w := duel(t)
	w.Tick, w.Seed, w.Scores[1] = 100000, 65535, 1000000
	w.Bodies = append(w.Bodies, impl.Body{Kind: 1, Owner: 1, X: 92, Y: 16, VX: -6, VY: 15, Timer: 25}, impl.Body{Kind: 2, X: 20, Y: 20})
	want := impl.PackInts([]int{
		100000, 65535, 2, 0, 1000000, 0, 0, 34, 36, 0, 0, 1, 3, 0, 0, 1, 82, 36, 0, 0, 1, 3, 0, 1, 1, 92, 16, -6, 15, 0, 0, 25, 2, 0, 20, 20, 0, 0, 0, 0, 0,
	})
	if got := impl.WorldBytes(w); got != want || got == "" {
		t.Errorf("WorldBytes = %q; want %q", got, want)
	}
	if got := impl.WorldSum(w); got != impl.Checksum(want) || got == 0 {
		t.Errorf("WorldSum = %d", got)
	}
	w.Tick++
	if got, sum := impl.WorldBytes(w), impl.WorldSum(w); got != "" || sum != 0 {
		t.Errorf("WorldBytes of a bad world = %q, the sum %d", got, sum)
	}
	if impl.WorldBytes(impl.World{}) != "" || impl.WorldSum(impl.World{}) != 0 {
		t.Error("the bytes of the zero World")
	}
}

func TestReadWorldReadsWhatWorldBytesWrites(t *testing.T) {
	r := rand.New(rand.NewSource(204))
	for range 3000 {
		w := crowdedWorld(r)
		s := impl.WorldBytes(w)
		got, ok := impl.ReadWorld(w.Level, s)
		if s == "" || !ok || !plainSame(got, w) {
			t.Fatalf("ReadWorld of the bytes of %v = %v, %v", w, got, ok)
		}
		got.Level.Rows[0] = "changed"
		if w.Level.Rows[0] == "changed" {
			t.Fatal("ReadWorld shares the rows of the level")
		}
	}
}

func TestReadWorldRefusesOtherBytes(t *testing.T) {
	w := duel(t)
	w.Bodies = append(w.Bodies, impl.Body{Kind: 2, X: 20, Y: 20})
	s := impl.WorldBytes(w)
	list, _, _ := impl.UnpackInts(s, 0)
	refuse := func(what string, l impl.Level, s string) {
		t.Helper()
		if got, ok := impl.ReadWorld(l, s); ok || !plainSame(got, impl.World{}) {
			t.Errorf("ReadWorld of %s = %v, %v", what, got, ok)
		}
	}
	for n := range len(s) {
		refuse("a part of the bytes", w.Level, s[:n])
		refuse("the end of the bytes", w.Level, s[n+1:])
	}
	for n := range list {
		// Without the last body it is another world.
		if n != len(list)-9 {
			refuse("fewer numbers", w.Level, impl.PackInts(list[:n]))
		}
	}
	refuse("a byte more", w.Level, s+"\x00")
	refuse("the bytes twice", w.Level, s+s)
	refuse("a number more", w.Level, impl.PackInts(append(slices.Clone(list), 0)))
	refuse("a long count", w.Level, string([]byte{s[0] + 128, 0})+s[1:])
	refuse("a long number", w.Level, string([]byte{s[0], s[1] + 128, 0})+s[2:])
	refuse("no level", impl.Level{}, s)
	refuse("a bad level", boxOf(2, 8), s)
	refuse("a level with a wall at a body", withTile(w.Level, 1, 1, '#'), s)
	for _, n := range []int{-1, 0, 1, 3, 4, 5, 9, 18, 27, 1 << 38} {
		other := slices.Clone(list)
		other[2] = n
		refuse("another number of scores", w.Level, impl.PackInts(other))
	}
	refuse("no scores at all", w.Level, impl.PackInts([]int{0, 0, 0}))
	refuse("only numbers", w.Level, impl.PackInts(make([]int, 3000)))
	refuse("many bytes", w.Level, strings.Repeat("\xff", 3000))
}

func TestReadWorldWithAnotherValidLevel(t *testing.T) {
	w := duel(t)
	l := withTile(w.Level, 1, 1, '#')
	if got, ok := impl.ReadWorld(l, impl.WorldBytes(w)); !ok || !slices.Equal(got.Level.Rows, l.Rows) || !slices.Equal(got.Bodies, w.Bodies) {
		t.Errorf("ReadWorld with another level = %v, %v", got, ok)
	}
}

// TestReadWorldOfChangedNumbers holds what is read from changed numbers against WorldOk.
func TestReadWorldOfChangedNumbers(t *testing.T) {
	r := rand.New(rand.NewSource(205))
	for range 3000 {
		w := crowdedWorld(r)
		list, _, _ := impl.UnpackInts(impl.WorldBytes(w), 0)
		at := r.Intn(len(list))
		list[at] += []int{-100000, -1, 1, 2, 65536}[r.Intn(5)]
		s := impl.PackInts(list)
		got, ok := impl.ReadWorld(w.Level, s)
		if ok && (!impl.WorldOk(got) || impl.WorldBytes(got) != s) || !ok && !plainSame(got, impl.World{}) {
			t.Fatalf("ReadWorld of %v = %v, %v", list, got, ok)
		}
		if at == 2 && ok {
			t.Fatalf("ReadWorld of another number of scores: %v", list)
		}
	}
}

func TestSameWorld(t *testing.T) {
	base := duel(t)
	base.Bodies = append(base.Bodies, impl.Body{Kind: 1, X: 20, Y: 20, Timer: 3})
	if !impl.SameWorld(base, deepCopy(base)) || !impl.SameWorld(impl.World{}, impl.World{}) {
		t.Error("SameWorld of equal worlds")
	}
	empty := impl.World{Level: impl.Level{Rows: []string{}}, Scores: []int{}, Bodies: []impl.Body{}}
	if !impl.SameWorld(impl.World{}, empty) || !impl.SameWorld(empty, impl.World{}) {
		t.Error("SameWorld of nil and empty lists")
	}
	for i, change := range []func(w *impl.World){
		func(w *impl.World) { w.Tick++ }, func(w *impl.World) { w.Seed++ }, func(w *impl.World) { w.Scores[0]++ }, func(w *impl.World) { w.Scores[1]-- },
		func(w *impl.World) { w.Scores = w.Scores[:1] }, func(w *impl.World) { w.Scores = nil }, func(w *impl.World) { w.Bodies = w.Bodies[:2] },
		func(w *impl.World) { w.Bodies = nil }, func(w *impl.World) { w.Level.Rows = w.Level.Rows[1:] }, func(w *impl.World) { w.Level.Rows[1] = "#.o....#" },
		func(w *impl.World) { w.Level = impl.Level{} }, func(w *impl.World) { w.Bodies[0].Kind++ }, func(w *impl.World) { w.Bodies[1].Owner++ },
		func(w *impl.World) { w.Bodies[2].X++ }, func(w *impl.World) { w.Bodies[0].Y++ }, func(w *impl.World) { w.Bodies[1].VX++ },
		func(w *impl.World) { w.Bodies[2].VY++ }, func(w *impl.World) { w.Bodies[0].Aim++ }, func(w *impl.World) { w.Bodies[1].Life++ },
		func(w *impl.World) { w.Bodies[2].Timer++ }, func(w *impl.World) { w.Bodies[0], w.Bodies[1] = w.Bodies[1], w.Bodies[0] },
	} {
		other := deepCopy(base)
		change(&other)
		if impl.SameWorld(base, other) || impl.SameWorld(other, base) {
			t.Errorf("SameWorld with the change %d", i)
		}
		if !impl.SameWorld(other, deepCopy(other)) {
			t.Errorf("SameWorld of two worlds with the change %d", i)
		}
	}
}
