package tests

import (
	"math/rand"
	"slices"
	"testing"

	"loop.example/g03315/impl"
)

// TestStepsOfCrowdedWorlds compares single ticks of worlds in which much happens at once.
func TestStepsOfCrowdedWorlds(t *testing.T) {
	r := rand.New(rand.NewSource(206))
	for range 20000 {
		w := crowdedWorld(r)
		row := randomRow(r, len(w.Scores))
		if !impl.WorldOk(w) {
			t.Fatalf("WorldOk of %v", w)
		}
		got, want := impl.StepWorld(w, row), plainStep(w, row)
		if !plainSame(got, want) {
			t.Fatalf("StepWorld(%v, %v) = %v; want %v", w, row, got, want)
		}
		if !impl.WorldOk(got) {
			t.Fatalf("StepWorld(%v, %v) = %v is not valid", w, row, got)
		}
	}
}

// TestWorldsFollowFromLevelSeedAndRows compares whole games, and sees that no body is in a wall.
func TestWorldsFollowFromLevelSeedAndRows(t *testing.T) {
	r := rand.New(rand.NewSource(207))
	points, deaths := 0, 0
	for range 60 {
		players := 1 + r.Intn(4)
		w, ok := impl.NewWorld(randomLevel(r), players, r.Intn(65536))
		if !ok {
			t.Fatal("no new world")
		}
		want := w
		for _, row := range heldRows(r, players, 300) {
			w, want = impl.StepWorld(w, row), plainStep(want, row)
			if !plainSame(w, want) || !impl.WorldOk(w) {
				t.Fatalf("tick %d: %v; want %v", want.Tick, w, want)
			}
			for _, b := range w.Bodies {
				if plainSolid(w.Level, b.X, b.Y, plainSize(b.Kind)) {
					t.Fatalf("%v is in a wall of %q", b, w.Level.Rows)
				}
				if b.Kind == 0 && b.Life == 0 {
					deaths++
				}
			}
		}
		for _, score := range w.Scores {
			points += score
		}
	}
	// Games in which nothing happens would prove little.
	if points < 100 || deaths < 100 {
		t.Errorf("only %d points and %d ticks of players that are out", points, deaths)
	}
}

func TestWorldsInPartsAndFromBytes(t *testing.T) {
	r := rand.New(rand.NewSource(208))
	for range 60 {
		players := 1 + r.Intn(4)
		w, _ := impl.NewWorld(randomLevel(r), players, r.Intn(65536))
		rows := heldRows(r, players, 120)
		whole := impl.RunWorld(w, rows)
		for range 6 {
			cut := r.Intn(len(rows) + 1)
			half := impl.RunWorld(w, rows[:cut])
			if parts := impl.RunWorld(half, rows[cut:]); !impl.SameWorld(parts, whole) {
				t.Fatalf("in two parts, cut at %d: %v; want %v", cut, parts, whole)
			}
			read, ok := impl.ReadWorld(w.Level, impl.WorldBytes(half))
			if parts := impl.RunWorld(read, rows[cut:]); !ok || !impl.SameWorld(parts, whole) {
				t.Fatalf("from bytes, cut at %d: %v; want %v", cut, parts, whole)
			}
		}
		if again := impl.RunWorld(w, rows); !impl.SameWorld(again, whole) || impl.WorldSum(again) != impl.WorldSum(whole) {
			t.Fatal("the same run again leads to another world")
		}
	}
}

func TestWorldsOfOtherSeedsDiffer(t *testing.T) {
	l := levelOf(t, "########/#o1.o.o#/#o....o#/########")
	sums := map[int]bool{}
	for seed := range 50 {
		w, _ := impl.NewWorld(l, 1, seed)
		sums[impl.WorldSum(impl.RunWorld(w, make([][]int, 0)))] = true
		sums[impl.WorldSum(impl.RunWorld(w, slices.Repeat([][]int{{0}}, 64)))] = true
	}
	if len(sums) < 95 {
		t.Errorf("only %d sums of 100 worlds", len(sums))
	}
}

// TestWorldArgumentsStayAsTheyAre also looks at the memory behind the ends of the lists.
func TestWorldArgumentsStayAsTheyAre(t *testing.T) {
	r := rand.New(rand.NewSource(209))
	for range 500 {
		w := crowdedWorld(r)
		w.Bodies = append(slices.Grow(w.Bodies, 8), impl.Body{Kind: 7}, impl.Body{Kind: 8}, impl.Body{Kind: 9})
		w.Scores = append(slices.Grow(w.Scores, 4), 77, 78)
		w.Level.Rows = append(slices.Grow(w.Level.Rows, 4), "spare")
		row := append(randomRow(r, len(w.Scores)-2), 99)
		before, beforeRow := deepCopy(w), slices.Clone(row)
		v := w
		v.Bodies, v.Scores, v.Level.Rows = w.Bodies[:len(w.Bodies)-3], w.Scores[:len(w.Scores)-2], w.Level.Rows[:len(w.Level.Rows)-1]
		kept := deepCopy(v)
		step := impl.StepWorld(v, row[:len(row)-1])
		run := impl.RunWorld(v, [][]int{row[:len(row)-1], row[:len(row)-1]})
		start, _ := impl.NewWorld(v.Level, 2, 5)
		read, _ := impl.ReadWorld(v.Level, impl.WorldBytes(v))
		impl.SameWorld(v, step)
		if !plainSame(w, before) || !slices.Equal(row, beforeRow) {
			t.Fatal("an argument was changed")
		}
		for _, result := range []impl.World{step, run, start, read} {
			spoil(result)
		}
		if !plainSame(v, kept) || !plainSame(w, before) {
			t.Fatal("a result shares memory with an argument")
		}
	}
}

// spoil writes into all memory of a world.
func spoil(w impl.World) {
	for i := range w.Level.Rows {
		w.Level.Rows[i] = "spoiled"
	}
	for i := range w.Scores {
		w.Scores[i] = -1
	}
	for i := range w.Bodies {
		w.Bodies[i] = impl.Body{Kind: -1}
	}
	_ = append(w.Level.Rows, "spoiled")
	_ = append(w.Scores, -1)
	_ = append(w.Bodies, impl.Body{Kind: -1})
}
