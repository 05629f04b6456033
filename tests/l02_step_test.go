package tests

import (
	"math"
	"slices"
	"testing"

	"loop.example/g03315/impl"
)

// idle is a row of players that press nothing.
func idle(w impl.World) []int { return make([]int, len(w.Scores)) }

// steady is a duel at a tick and a seed behind which no item comes for a while.
func steady(t *testing.T) impl.World {
	w := duel(t)
	for k := range w.Bodies {
		w.Bodies[k].VY = 0
	}
	return w
}

func TestStepWorldCountsTicksAndSeeds(t *testing.T) {
	w := worldOf(t, "####/#..#/####", 1, 40000)
	for tick := 1; tick <= 100; tick++ {
		seed := impl.NextRandom(w.Seed)
		w = impl.StepWorld(w, idle(w))
		if w.Tick != tick || w.Seed != seed {
			t.Fatalf("Tick %d, Seed %d; want %d, %d", w.Tick, w.Seed, tick, seed)
		}
	}
}

func TestStepWorldLeavesOtherWorldsAsTheyAre(t *testing.T) {
	good := steady(t)
	check := func(what string, w impl.World, row []int) {
		t.Helper()
		got := impl.StepWorld(w, row)
		if !plainSame(got, w) {
			t.Errorf("StepWorld with %s = %v; want %v", what, got, w)
		}
		if len(got.Bodies) > 0 {
			got.Bodies[0].X++
		}
		if len(got.Scores) > 0 {
			got.Scores[0]++
		}
		if len(got.Level.Rows) > 0 {
			got.Level.Rows[0] += "#"
		}
		if plainSame(got, w) && len(w.Bodies) > 0 {
			t.Errorf("StepWorld with %s shares memory with its argument", what)
		}
	}
	for _, row := range [][]int{nil, {}, {0}, {0, 0, 0}, {0, 16}, {-1, 0}, {0, math.MaxInt}, {math.MinInt, 0}, {16, 0}} {
		check("a bad row", good, row)
	}
	last := deepCopy(good)
	last.Tick = 100000
	check("the last tick", last, []int{0, 0})
	for _, change := range []func(w *impl.World){
		func(w *impl.World) { w.Tick = 100001 }, func(w *impl.World) { w.Tick = -1 }, func(w *impl.World) { w.Seed = 65536 },
		func(w *impl.World) { w.Scores[0] = 1000001 }, func(w *impl.World) { w.Bodies[0].X = 0 }, func(w *impl.World) { w.Level = impl.Level{} },
		func(w *impl.World) { w.Bodies = nil }, func(w *impl.World) { w.Bodies[1].Life = 4 },
	} {
		bad := deepCopy(good)
		change(&bad)
		check("a bad world", bad, []int{0, 0})
	}
	check("the zero World", impl.World{}, nil)
}

func TestStepWorldBeforeTheLastTick(t *testing.T) {
	w := steady(t)
	w.Tick = 99999
	got := impl.StepWorld(w, []int{0, 0})
	if got.Tick != 100000 || !impl.WorldOk(got) {
		t.Errorf("the step to the last tick: %v", got)
	}
	if again := impl.StepWorld(got, []int{0, 0}); !plainSame(again, got) {
		t.Errorf("a step behind the last tick: %v", again)
	}
}

func TestPlayersWalkFallAndJump(t *testing.T) {
	w := worldOf(t, "######/#1...#/#....#/#....#/######", 1, 0)
	ys := []int{}
	for range 9 {
		w = impl.StepWorld(w, []int{impl.PressRight})
		ys = append(ys, w.Bodies[0].Y)
	}
	if !slices.Equal(ys, []int{19, 21, 24, 28, 33, 39, 46, 52, 52}) || w.Bodies[0].X != 45 || w.Bodies[0].VY != 0 {
		t.Errorf("the fall %v to %v", ys, w.Bodies[0])
	}
	ys = ys[:0]
	for range 22 {
		w = impl.StepWorld(w, []int{impl.PressLeft | impl.PressJump})
		ys = append(ys, w.Bodies[0].Y)
	}
	want := []int{43, 35, 28, 22, 17, 16, 17, 19, 22, 26, 31, 37, 44, 52, 43, 35, 28, 22, 17, 16, 17, 19}
	if !slices.Equal(ys, want) || w.Bodies[0].X != 16 || w.Bodies[0].VX != 0 || w.Bodies[0].Aim != -1 {
		t.Errorf("the jump %v to %v; want %v", ys, w.Bodies[0], want)
	}
}

func TestShotsFlyAndVanish(t *testing.T) {
	w := worldOf(t, "####################/#1.................#/####################", 1, 0)
	w.Bodies[0].Y = 20
	w = impl.StepWorld(w, []int{impl.PressFire})
	if len(w.Bodies) != 2 || w.Bodies[1] != (impl.Body{Kind: 1, X: 28, Y: 24, VX: 6, Timer: 24}) || w.Bodies[0].Timer != 12 {
		t.Fatalf("the shot %v", w.Bodies)
	}
	for n := 1; n < 24; n++ {
		w = impl.StepWorld(w, []int{0})
		if len(w.Bodies) != 2 || w.Bodies[1].X != 28+6*n || w.Bodies[1].Timer != 24-n {
			t.Fatalf("after %d ticks %v", n, w.Bodies)
		}
	}
	if w = impl.StepWorld(w, []int{0}); len(w.Bodies) != 1 {
		t.Errorf("a shot whose Timer is 0 remains: %v", w.Bodies)
	}
	w.Bodies = append(w.Bodies, impl.Body{Kind: 1, X: 293, Y: 24, VX: 6, Timer: 20})
	w = impl.StepWorld(w, []int{0})
	if len(w.Bodies) != 2 || w.Bodies[1].X != 299 {
		t.Fatalf("a shot before a wall: %v", w.Bodies)
	}
	if w = impl.StepWorld(w, []int{0}); len(w.Bodies) != 1 {
		t.Errorf("a stopped shot remains: %v", w.Bodies)
	}
}

func TestPlayersReload(t *testing.T) {
	w := worldOf(t, "####################/#1.................#/####################", 1, 0)
	fired := []int{}
	for tick := 1; tick <= 40; tick++ {
		w = impl.StepWorld(w, []int{impl.PressFire})
		if w.Bodies[len(w.Bodies)-1].Timer == 24 {
			fired = append(fired, tick)
		}
	}
	if !slices.Equal(fired, []int{1, 13, 25, 37}) {
		t.Errorf("shots at %v", fired)
	}
}

// full returns a world with so many bodies in all, most of them shots that rest.
func full(w impl.World, bodies int) impl.World {
	for len(w.Bodies) < bodies {
		w.Bodies = append(w.Bodies, impl.Body{Kind: 1, X: 16, Y: 16, Timer: 25})
	}
	return w
}

func TestNoShotBeyondMaxBodies(t *testing.T) {
	for bodies, want := range map[int]int{22: 24, 23: 24, 24: 24} {
		w := impl.StepWorld(full(steady(t), bodies), []int{impl.PressFire | impl.PressLeft, impl.PressFire})
		if len(w.Bodies) != want || w.Bodies[0].Timer != 12 || w.Bodies[1].Timer != 12 {
			t.Errorf("%d bodies become %d, the Timers %d and %d", bodies, len(w.Bodies), w.Bodies[0].Timer, w.Bodies[1].Timer)
		}
		if last := w.Bodies[23]; bodies == 23 && (last.Owner != 0 || last.VX != -6) {
			t.Errorf("the last shot %v is not that of the first player", last)
		}
	}
}

func TestShotsHitTheFirstOtherPlayer(t *testing.T) {
	w := steady(t)
	w.Bodies[1].X = 40
	at := impl.Body{Kind: 1, X: 42, Y: 40, Timer: 9}
	for owner, hit := range []int{1, 0} {
		v := deepCopy(w)
		at.Owner = owner
		v.Bodies = append(v.Bodies, at)
		v = impl.StepWorld(v, []int{0, 0})
		if len(v.Bodies) != 2 || v.Bodies[hit].Life != 2 || v.Bodies[owner].Life != 3 || v.Scores[0]+v.Scores[1] != 0 {
			t.Errorf("the shot of %d: %v %v", owner, v.Bodies, v.Scores)
		}
	}
	w.Bodies[0].Life, w.Bodies[0].Timer = 0, 9
	at.Owner = 1
	w.Bodies = append(w.Bodies, at)
	if v := impl.StepWorld(w, []int{0, 0}); len(v.Bodies) != 3 || v.Bodies[0].Life != 0 || v.Bodies[1].Life != 3 {
		t.Errorf("a shot at a player that is out: %v", v.Bodies)
	}
}

func TestOneShotHitsOnePlayer(t *testing.T) {
	w := worldOf(t, "######/#1.2.#/######", 4, 0)
	for k := range w.Bodies {
		w.Bodies[k].X, w.Bodies[k].Y = 40, 20
	}
	w.Bodies = append(w.Bodies, impl.Body{Kind: 1, Owner: 0, X: 42, Y: 22, Timer: 9}, impl.Body{Kind: 1, Owner: 1, X: 42, Y: 22, Timer: 9})
	v := impl.StepWorld(w, []int{0, 0, 0, 0})
	lives := []int{v.Bodies[0].Life, v.Bodies[1].Life, v.Bodies[2].Life, v.Bodies[3].Life}
	if len(v.Bodies) != 4 || !slices.Equal(lives, []int{2, 2, 3, 3}) {
		t.Errorf("lives %v of %v", lives, v.Bodies)
	}
}

func TestPlayersGoOutAndComeBack(t *testing.T) {
	w := steady(t)
	w.Bodies[1].X, w.Bodies[1].VX, w.Bodies[1].VY, w.Bodies[1].Life, w.Bodies[1].Timer, w.Bodies[1].Aim = 60, 0, -5, 1, 7, -1
	w.Bodies = append(w.Bodies, impl.Body{Kind: 1, X: 62, Y: 34, Timer: 9}, impl.Body{Kind: 1, X: 62, Y: 34, Timer: 9})
	w = impl.StepWorld(w, []int{0, impl.PressLeft})
	if w.Scores[0] != 1 || w.Scores[1] != 0 || len(w.Bodies) != 3 {
		t.Fatalf("scores %v, bodies %v", w.Scores, w.Bodies)
	}
	out := impl.Body{Owner: 1, X: 57, Y: 32, Aim: -1, Timer: 20}
	if w.Bodies[1] != out {
		t.Fatalf("out: %v; want %v", w.Bodies[1], out)
	}
	for n := 19; n > 0; n-- {
		w = impl.StepWorld(w, []int{0, 15})
		out.Timer = n
		if w.Bodies[1] != out || len(w.Bodies) != 2+min(max(n-12, 0), 1) {
			t.Fatalf("with the Timer %d: %v", n, w.Bodies)
		}
	}
	w = impl.StepWorld(w, []int{0, 15})
	back := impl.Body{Owner: 1, X: 82, Y: 34, Aim: 1, Life: 3}
	if w.Bodies[1] != back || len(w.Bodies) != 2 {
		t.Fatalf("back: %v; want %v", w.Bodies, back)
	}
	w = impl.StepWorld(w, []int{0, impl.PressLeft | impl.PressFire})
	if w.Bodies[1].Y != 35 || w.Bodies[1].X != 79 || len(w.Bodies) != 3 {
		t.Errorf("a tick later: %v", w.Bodies)
	}
}

func TestAPlayerThatComesBackCanBeHitAtOnce(t *testing.T) {
	w := steady(t)
	w.Bodies[1].Life, w.Bodies[1].Timer = 0, 1
	w.Bodies = append(w.Bodies, impl.Body{Kind: 1, X: 84, Y: 40, Timer: 9})
	if w = impl.StepWorld(w, []int{0, 0}); w.Bodies[1].Life != 2 || w.Bodies[1].Timer != 0 || len(w.Bodies) != 2 {
		t.Errorf("bodies %v", w.Bodies)
	}
}

func TestItemsAreTaken(t *testing.T) {
	w := steady(t)
	w.Bodies[1].X = 40
	w.Bodies = append(w.Bodies, impl.Body{Kind: 2, X: 44, Y: 38}, impl.Body{Kind: 2, X: 46, Y: 30}, impl.Body{Kind: 2, X: 90, Y: 20})
	v := impl.StepWorld(w, []int{0, 0})
	if !slices.Equal(v.Scores, []int{1, 1}) || len(v.Bodies) != 3 || v.Bodies[2].X != 90 {
		t.Errorf("scores %v, bodies %v", v.Scores, v.Bodies)
	}
	w.Bodies[0].Life, w.Bodies[0].Timer = 0, 9
	if v = impl.StepWorld(w, []int{0, 0}); !slices.Equal(v.Scores, []int{0, 2}) {
		t.Errorf("scores %v beside a player that is out", v.Scores)
	}
}

func TestItemsDoNotMove(t *testing.T) {
	w := steady(t)
	item := impl.Body{Kind: 2, X: 100, Y: 20, VX: 5, VY: -3}
	w.Bodies = append(w.Bodies, item)
	if v := impl.StepWorld(w, []int{0, 0}); v.Bodies[2] != item {
		t.Errorf("the item %v", v.Bodies[2])
	}
}

func TestItemsAreTakenByWhomTheShotsLeave(t *testing.T) {
	w := steady(t)
	w.Bodies[0].Life = 1
	w.Bodies[1].X = 40
	w.Bodies = append(w.Bodies, impl.Body{Kind: 2, X: 42, Y: 38}, impl.Body{Kind: 1, Owner: 1, X: 36, Y: 40, Timer: 9})
	v := impl.StepWorld(w, []int{0, 0})
	if v.Bodies[0].Life != 0 || !slices.Equal(v.Scores, []int{0, 2}) || len(v.Bodies) != 2 {
		t.Errorf("scores %v, bodies %v", v.Scores, v.Bodies)
	}
}

func TestScoresEndAtAMillion(t *testing.T) {
	for _, score := range []int{999999, 1000000} {
		w := steady(t)
		w.Scores[0] = score
		w.Bodies = append(w.Bodies, impl.Body{Kind: 2, X: 36, Y: 38}, impl.Body{Kind: 2, X: 37, Y: 38})
		if v := impl.StepWorld(w, []int{0, 0}); v.Scores[0] != 1000000 || len(v.Bodies) != 2 {
			t.Errorf("items make %d of %d", v.Scores[0], score)
		}
		w.Bodies[2] = impl.Body{Kind: 1, X: 84, Y: 40, Timer: 9}
		w.Bodies[3].X = 100
		w.Bodies[1].Life = 1
		if v := impl.StepWorld(w, []int{0, 0}); v.Scores[0] != 1000000 || v.Bodies[1].Life != 0 {
			t.Errorf("shots make %d of %d", v.Scores[0], score)
		}
	}
}

func TestItemsCome(t *testing.T) {
	w := worldOf(t, "##########/#o.1.o.o.#/#........#/##########", 1, 99)
	spots := impl.SpotsOf(w.Level)
	for tick := 1; tick <= 200; tick++ {
		seed := impl.NextRandom(w.Seed)
		items := slices.Clone(w.Bodies[1:])
		if tick%16 == 0 {
			number := 0
			seed, number = impl.RandomBelow(seed, 3)
			fresh := impl.Body{Kind: 2, X: spots[number][0], Y: spots[number][1]}
			if !slices.Contains(items, fresh) {
				items = append(items, fresh)
			}
		}
		w = impl.StepWorld(w, []int{0})
		if w.Seed != seed || !slices.Equal(w.Bodies[1:], items) {
			t.Fatalf("tick %d: seed %d, items %v; want %d, %v", tick, w.Seed, w.Bodies[1:], seed, items)
		}
	}
	if len(w.Bodies) < 3 {
		t.Errorf("only the bodies %v", w.Bodies)
	}
}

func TestNoItemWithoutAPlaceOrRoom(t *testing.T) {
	w := steady(t)
	w.Tick = 15
	if v := impl.StepWorld(w, idle(w)); len(v.Bodies) != 2 || v.Seed != impl.NextRandom(w.Seed) {
		t.Errorf("without a place: %v", v)
	}
	w.Level = withTile(w.Level, 6, 1, 'o')
	for bodies, want := range map[int]int{2: 3, 23: 24, 24: 24} {
		v := impl.StepWorld(full(deepCopy(w), bodies), idle(w))
		once := impl.NextRandom(w.Seed)
		if seed := []int{impl.NextRandom(once), once}[bodies/24]; len(v.Bodies) != want || v.Seed != seed {
			t.Errorf("%d bodies become %d, the seed %d", bodies, len(v.Bodies), v.Seed)
		}
	}
}

func TestAnItemAtAPlaceIsExactlyThere(t *testing.T) {
	w := steady(t)
	w.Tick = 15
	w.Level = withTile(w.Level, 6, 1, 'o')
	for _, c := range []struct {
		body impl.Body
		want int
	}{
		{impl.Body{Kind: 2, X: 100, Y: 20}, 3}, {impl.Body{Kind: 2, X: 100, Y: 20, VX: 3}, 3}, {impl.Body{Kind: 2, X: 101, Y: 20}, 4},
		{impl.Body{Kind: 2, X: 100, Y: 21}, 4}, {impl.Body{Kind: 1, X: 100, Y: 20, Timer: 9}, 4},
	} {
		v := deepCopy(w)
		v.Bodies = append(v.Bodies, c.body)
		v = impl.StepWorld(v, idle(w))
		if len(v.Bodies) != c.want || v.Seed != impl.NextRandom(impl.NextRandom(w.Seed)) {
			t.Errorf("with %v: %v", c.body, v)
		}
		if last := v.Bodies[len(v.Bodies)-1]; c.want == 4 && last != (impl.Body{Kind: 2, X: 100, Y: 20}) {
			t.Errorf("the item %v", last)
		}
	}
}

func TestVanishedBodiesMakeRoom(t *testing.T) {
	w := full(steady(t), 24)
	w.Tick = 15
	w.Level = withTile(w.Level, 6, 1, 'o')
	w.Bodies[10].Timer = 1
	w.Bodies[20].Owner = 1
	v := impl.StepWorld(w, []int{impl.PressFire, 0})
	if len(v.Bodies) != 24 || v.Bodies[23] != (impl.Body{Kind: 2, X: 100, Y: 20}) || v.Bodies[19].Owner != 1 || v.Bodies[20].Owner != 0 {
		t.Errorf("bodies %v", v.Bodies)
	}
}

func TestRunWorld(t *testing.T) {
	w := steady(t)
	rows := [][]int{{2, 1}, {2, 1, 0}, {8, 8}, {16, 0}, nil, {4, 0}}
	want := impl.StepWorld(impl.StepWorld(impl.StepWorld(w, []int{2, 1}), []int{8, 8}), []int{4, 0})
	if got := impl.RunWorld(w, rows); !plainSame(got, want) || got.Tick != 3 {
		t.Errorf("RunWorld past rows that do not count = %v; want %v", got, want)
	}
	for _, none := range [][][]int{nil, {}, {nil}, {{0}}} {
		got := impl.RunWorld(w, none)
		if !plainSame(got, w) {
			t.Errorf("RunWorld of %v = %v", none, got)
		}
		got.Bodies[0].X, got.Scores[0], got.Level.Rows[0] = 0, 9, ""
		if w.Bodies[0].X != 34 || w.Scores[0] != 0 || w.Level.Rows[0] == "" {
			t.Fatal("RunWorld shares memory with its argument")
		}
	}
	bad := deepCopy(w)
	bad.Seed = -1
	if got := impl.RunWorld(bad, rows); !plainSame(got, bad) {
		t.Errorf("RunWorld of a bad world = %v", got)
	}
	w.Tick = 99998
	if got := impl.RunWorld(w, [][]int{{0, 0}, {0, 0}, {0, 0}, {0, 0}}); got.Tick != 100000 {
		t.Errorf("RunWorld to the tick %d", got.Tick)
	}
}
