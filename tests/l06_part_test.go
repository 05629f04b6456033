package tests

import (
	"math/rand"
	"slices"
	"strings"
	"testing"

	"loop.example/g03315/impl"
)

func TestPartsOf(t *testing.T) {
	for _, c := range []struct {
		world impl.World
		want  string
	}{
		{worldOf(t, "####/#..#/####", 1, 0), "seed,score 0,body 0"},
		{worldOf(t, arena, 4, 65535), "seed,score 0,score 1,score 2,score 3,body 0,body 1,body 2,body 3"},
		{busyWorld(t), "seed,score 0,score 1,body 0,body 1,body 2,body 3,body 4"},
	} {
		if got := strings.Join(impl.PartsOf(c.world), ","); got != c.want {
			t.Errorf("PartsOf = %s; want %s", got, c.want)
		}
	}
	crowd := busyWorld(t)
	crowd.Bodies = append(crowd.Bodies, slices.Repeat(crowd.Bodies[2:3], 19)...)
	if got := impl.PartsOf(crowd); len(got) != 27 || got[12] != "body 9" || got[13] != "body 10" || got[26] != "body 23" {
		t.Errorf("PartsOf of 24 bodies = %q", got)
	}
	for _, bad := range badWorlds(t) {
		if got := impl.PartsOf(bad); got != nil {
			t.Errorf("PartsOf of %v = %q", bad, got)
		}
	}
}

func TestPartSum(t *testing.T) {
	w := busyWorld(t)
	for name, want := range map[string]int{
		"seed": 7, "score 0": 0, "score 1": 7,
		// The bytes of this body are 9, 0, 2, 164, 1, 72, 0, 0, 2, 6 and 0.
		"body 1": 256 + 65536*1186,
		"body 0": impl.Checksum(impl.PackInts([]int{0, 0, 34, 36, 0, 0, 1, 3, 0})),
		"body 2": impl.Checksum(impl.PackInts([]int{2, 0, 40, 20, 0, 0, 0, 0, 0})),
		"body 3": impl.Checksum(impl.PackInts([]int{1, 1, 70, 20, 0, 0, 0, 0, 9})),
		"body 4": impl.Checksum(impl.PackInts([]int{1, 0, 20, 20, -6, 0, 0, 0, 25})),
	} {
		if got := impl.PartSum(w, name); got != want {
			t.Errorf("PartSum of %s = %d; want %d", name, got, want)
		}
	}
	w.Seed, w.Scores[0] = 65535, 1000000
	if impl.PartSum(w, "seed") != 65535 || impl.PartSum(w, "score 0") != 1000000 {
		t.Error("PartSum of the greatest numbers")
	}
}

func TestPartSumWithoutSuchAPart(t *testing.T) {
	w := busyWorld(t)
	names := []string{
		"", " ", "seed ", " seed", "Seed", "SEED", "see", "seeds", "seed 0", "seed\n", "seed,", "score", "score ", "score0", "score  0", " score 0", "score 0 ",
		"score 0,", "score 0\x00", "scores 0", "Score 0", "tick", "level", "body", "body ", "body0", "body\t0", "bodies 0", "body 0 body 1", "body 0:", "player 0",
		"body x", "body 0x0", "body 1e0", "body 1.0", "body 1_0", "body \xc3\xa9", "body \u0661", "0", "1", ":", strings.Repeat("body ", 5000),
	}
	for _, number := range []string{
		"-0", "-1", "+0", "+1", "00", "01", "001", "0 0", "000000000000000000000000000000001", "2000000000", "4294967296", "18446744073709551616",
		"18446744073709551617", "9223372036854775808", "-9223372036854775808", strings.Repeat("9", 400), "5", "6", "10", "24", "--1", "1-",
	} {
		names = append(names, "score "+number, "body "+number, "seed "+number)
	}
	names = append(names, "score 2", "score 3", "score 4")
	for _, name := range names {
		if got := impl.PartSum(w, name); got != -1 {
			t.Errorf("PartSum of %q = %d", brief(name), got)
		}
	}
	for _, bad := range badWorlds(t) {
		for _, name := range append(impl.PartsOf(w), "score 9") {
			if got := impl.PartSum(bad, name); got != -1 {
				t.Errorf("PartSum of %s in %v = %d", name, bad, got)
			}
		}
	}
}

func TestPartsOfRandomWorlds(t *testing.T) {
	r := rand.New(rand.NewSource(602))
	for range 1000 {
		w := crowdedWorld(r)
		var names []string
		for _, p := range plainParts(w) {
			names = append(names, p.name)
			if got := impl.PartSum(w, p.name); got != plainSum(p) {
				t.Fatalf("PartSum of %s in %v = %d; want %d", p.name, w, got, plainSum(p))
			}
		}
		if got := impl.PartsOf(w); !slices.Equal(got, names) {
			t.Fatalf("PartsOf of %v = %q; want %q", w, got, names)
		}
		for _, name := range []string{"score " + impl.FormatInt(len(w.Scores)), "body " + impl.FormatInt(len(w.Bodies))} {
			if got := impl.PartSum(w, name); got != -1 {
				t.Fatalf("PartSum of %s in %v = %d", name, w, got)
			}
		}
	}
}

// partChanges change one part of busyWorld each, so that it remains valid.
func partChanges() map[string][]func(w *impl.World) {
	return map[string][]func(w *impl.World){
		"seed":    {func(w *impl.World) { w.Seed++ }, func(w *impl.World) { w.Seed = 0 }, func(w *impl.World) { w.Seed = 65535 }},
		"score 0": {func(w *impl.World) { w.Scores[0]++ }, func(w *impl.World) { w.Scores[0] = 1000000 }},
		"score 1": {func(w *impl.World) { w.Scores[1]-- }, func(w *impl.World) { w.Scores[1] = 0 }},
		"body 0": {
			func(w *impl.World) { w.Bodies[0].X++ }, func(w *impl.World) { w.Bodies[0].Y-- }, func(w *impl.World) { w.Bodies[0].VX = -15 },
			func(w *impl.World) { w.Bodies[0].VY = 15 }, func(w *impl.World) { w.Bodies[0].Aim = -1 }, func(w *impl.World) { w.Bodies[0].Life-- },
			func(w *impl.World) { w.Bodies[0].Timer = 12 }, func(w *impl.World) { w.Bodies[0].Life, w.Bodies[0].Timer = 0, 20 },
		},
		"body 1": {func(w *impl.World) { w.Bodies[1].X = 34 }, func(w *impl.World) { w.Bodies[1].Life = 1 }},
		"body 2": {
			func(w *impl.World) { w.Bodies[2].X++ }, func(w *impl.World) { w.Bodies[2].VY-- },
			func(w *impl.World) { w.Bodies[2].Kind, w.Bodies[2].Timer = 1, 1 },
		},
		"body 3": {
			func(w *impl.World) { w.Bodies[3].Owner = 0 }, func(w *impl.World) { w.Bodies[3].Timer-- },
			func(w *impl.World) { w.Bodies[3] = impl.Body{Kind: 2, X: 70, Y: 20} },
		},
		"body 4": {func(w *impl.World) { w.Bodies[4].VX = 6 }, func(w *impl.World) { w.Bodies[4] = w.Bodies[3] }},
	}
}

func wantDiffer(t *testing.T, a impl.World, b impl.World, want ...string) {
	t.Helper()
	if got := impl.DifferOf(a, b); !slices.Equal(got, want) {
		t.Errorf("DifferOf of %v and %v = %q; want %q", a, b, got, want)
	}
}

func TestDifferOfOnePart(t *testing.T) {
	w := busyWorld(t)
	wantDiffer(t, w, deepCopy(w))
	for name, changes := range partChanges() {
		for k, change := range changes {
			other := changedWorld(w, change)
			if !impl.WorldOk(other) {
				t.Fatalf("change %d of %s gives no world", k, name)
			}
			wantDiffer(t, w, other, name)
			wantDiffer(t, other, w, name)
			wantDiffer(t, other, deepCopy(other))
			if impl.PartSum(w, name) == impl.PartSum(other, name) {
				t.Errorf("PartSum of %s does not tell change %d", name, k)
			}
		}
	}
}

// TestDifferOfSomeParts changes any parts at once; just these are told, in their order.
func TestDifferOfSomeParts(t *testing.T) {
	w := busyWorld(t)
	names := impl.PartsOf(w)
	for some := range 1 << len(names) {
		other := deepCopy(w)
		var want []string
		for k, name := range names {
			if some>>k&1 == 1 {
				changes := partChanges()[name]
				changes[some%len(changes)](&other)
				want = append(want, name)
			}
		}
		// Body 4 can become what body 3 is: it is another one than before in any case.
		wantDiffer(t, w, other, want...)
		wantDiffer(t, other, w, want...)
	}
}

// TestDifferOfBodiesWithTheSameSum has two bodies that only their fields tell apart.
func TestDifferOfBodiesWithTheSameSum(t *testing.T) {
	w := busyWorld(t)
	w.Bodies[3].Y, w.Bodies[3].VX, w.Bodies[3].VY = 20, 5, 1
	other := deepCopy(w)
	other.Bodies[3].Y, other.Bodies[3].VX, other.Bodies[3].VY = 21, 3, 2
	if sum := impl.PartSum(w, "body 3"); sum <= 0 || sum != impl.PartSum(other, "body 3") {
		t.Fatal("the sums are not the same")
	}
	wantDiffer(t, w, other, "body 3")
}

// TestDifferOfNoPart has worlds that differ only in what is no part.
func TestDifferOfNoPart(t *testing.T) {
	w := busyWorld(t)
	other := deepCopy(w)
	other.Tick = 100000
	wantDiffer(t, w, other)
	other.Level = withTile(w.Level, 1, 1, 'o')
	wantDiffer(t, w, other)
	other.Seed = 0
	wantDiffer(t, w, other, "seed")
}

func TestDifferOfOtherCounts(t *testing.T) {
	w := busyWorld(t)
	fewer := deepCopy(w)
	fewer.Bodies = fewer.Bodies[:3]
	wantDiffer(t, w, fewer, "body 3", "body 4")
	wantDiffer(t, fewer, w, "body 3", "body 4")
	// Bodies have no names but their places.
	fewer.Bodies = slices.Delete(slices.Clone(w.Bodies), 2, 3)
	wantDiffer(t, w, fewer, "body 2", "body 3", "body 4")
	one, three := worldOf(t, arena, 1, 5), worldOf(t, arena, 3, 5)
	wantDiffer(t, one, three, "score 1", "score 2", "body 1", "body 2")
	wantDiffer(t, three, one, "score 1", "score 2", "body 1", "body 2")
	// What only the second world has comes last.
	one.Seed, one.Bodies[0].VY = 6, 1
	wantDiffer(t, one, three, "seed", "body 0", "score 1", "score 2", "body 1", "body 2")
	wantDiffer(t, three, one, "seed", "score 1", "score 2", "body 0", "body 1", "body 2")
	one.Bodies = append(one.Bodies, slices.Repeat([]impl.Body{{Kind: 2, X: 20, Y: 20}}, 4)...)
	wantDiffer(t, one, three, "seed", "body 0", "body 1", "body 2", "body 3", "body 4", "score 1", "score 2")
	wantDiffer(t, three, one, "seed", "score 1", "score 2", "body 0", "body 1", "body 2", "body 3", "body 4")
	// A part that only one world has is told even if it holds nothing.
	two := worldOf(t, arena, 2, 5)
	if impl.PartSum(two, "score 1") != 0 {
		t.Fatal("a new score is not 0")
	}
	wantDiffer(t, two, worldOf(t, arena, 1, 5), "score 1", "body 1")
}

func TestDifferOfRandomWorlds(t *testing.T) {
	r := rand.New(rand.NewSource(603))
	for range 1000 {
		a, b := crowdedWorld(r), crowdedWorld(r)
		wantDiffer(t, a, b, plainDiffer(a, b)...)
		wantDiffer(t, a, deepCopy(a))
		// A step changes some parts, and leaves others as they are.
		next := impl.StepWorld(a, randomRow(r, len(a.Scores)))
		wantDiffer(t, a, next, plainDiffer(a, next)...)
		wantDiffer(t, next, a, plainDiffer(next, a)...)
	}
}

func TestDifferOfRejects(t *testing.T) {
	w := busyWorld(t)
	for _, bad := range badWorlds(t) {
		for _, pair := range [][2]impl.World{{w, bad}, {bad, w}, {bad, bad}, {bad, {}}} {
			if got := impl.DifferOf(pair[0], pair[1]); got != nil {
				t.Errorf("DifferOf of %v = %q", pair, got)
			}
		}
	}
}
