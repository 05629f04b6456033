package tests

import (
	"math"
	"math/rand"
	"testing"

	"loop.example/g03315/impl"
)

// badFaults are faults that are not valid for three players.
func badFaults() []impl.Fault {
	var list []impl.Fault
	for _, n := range []int{-1, 401, 100000, math.MaxInt, math.MinInt} {
		list = append(list, impl.Fault{Tick: n, Player: 1, Add: 2})
	}
	for _, n := range []int{-1, 3, 4, math.MaxInt, math.MinInt} {
		list = append(list, impl.Fault{Tick: 7, Player: n, Add: 2}, impl.Fault{Player: n})
	}
	for _, n := range []int{-1, 10, 1000000, math.MaxInt, math.MinInt} {
		list = append(list, impl.Fault{Tick: 7, Player: 1, Add: n}, impl.Fault{Add: n})
	}
	return list
}

func TestFaultOk(t *testing.T) {
	for _, good := range []impl.Fault{{}, {Tick: 400}, {Player: 2}, {Add: 9}, {Tick: 400, Player: 2, Add: 9}, {Tick: 1, Player: 1, Add: 1}} {
		if !impl.FaultOk(good, 3) {
			t.Errorf("FaultOk(%v, 3) is false", good)
		}
	}
	for _, bad := range badFaults() {
		if impl.FaultOk(bad, 3) {
			t.Errorf("FaultOk(%v, 3) is true", bad)
		}
	}
	for _, players := range []int{math.MinInt, math.MinInt + 1, -4, -1, 0, 1, 2, 5, 100, math.MaxInt} {
		for _, player := range []int{-1, 0, 1, 2, 4, 5, 99, 100, math.MaxInt - 1, math.MaxInt} {
			f := impl.Fault{Tick: 3, Player: player, Add: 1}
			if got, want := impl.FaultOk(f, players), player >= 0 && player < players; got != want {
				t.Errorf("FaultOk(%v, %d) = %v", f, players, got)
			}
		}
	}
}

// checkFaulty compares a step with one whose scores are what they are without the fault, and more.
func checkFaulty(t *testing.T, w impl.World, row []int, f impl.Fault, player int, add int) {
	t.Helper()
	want := impl.StepWorld(w, row)
	if player >= 0 {
		want.Scores[player] += add
	}
	kept := deepCopy(w)
	got := impl.FaultyStep(w, row, f)
	if !plainSame(got, want) {
		t.Errorf("FaultyStep at %d with %v = %v; want %v", w.Tick, f, got, want)
	}
	if !plainSame(w, kept) || !memoryIsApart(got, w, row) {
		t.Errorf("FaultyStep at %d with %v does not keep to its memory", w.Tick, f)
	}
}

func TestFaultyStep(t *testing.T) {
	w := worldOf(t, arena, 3, 5)
	row := []int{impl.PressRight, 0, impl.PressLeft | impl.PressJump}
	for range 12 {
		for tick := range 16 {
			for add := range 10 {
				player := -1
				if tick == w.Tick+1 {
					player = add % 3
				}
				checkFaulty(t, w, row, impl.Fault{Tick: tick, Player: add % 3, Add: add}, player, add)
			}
		}
		w = impl.StepWorld(w, row)
	}
	for _, at := range []int{0, 1, 398, 399, 400, 401, 99998, 99999} {
		w.Tick = at
		checkFaulty(t, w, row, impl.Fault{}, -1, 0)
		for _, tick := range []int{1, 399, 400} {
			player := -1
			if tick == at+1 {
				player = 2
			}
			checkFaulty(t, w, row, impl.Fault{Tick: tick, Player: 2, Add: 9}, player, 9)
		}
	}
}

func TestFaultyStepWithoutAFault(t *testing.T) {
	for _, at := range []int{0, 6, 400, 99999} {
		w := worldOf(t, arena, 3, 9)
		w.Tick = at
		for _, bad := range badFaults() {
			checkFaulty(t, w, []int{0, 8, 0}, bad, -1, 0)
		}
		checkFaulty(t, w, []int{0, 0, 0}, impl.Fault{Tick: at + 1, Player: 3, Add: 1}, -1, 0)
	}
	// A world of two players has no player 2, whatever the row has.
	checkFaulty(t, worldOf(t, arena, 2, 9), []int{0, 0, 0}, impl.Fault{Tick: 1, Player: 2, Add: 1}, -1, 0)
	checkFaulty(t, worldOf(t, arena, 2, 9), []int{0, 0}, impl.Fault{Tick: 1, Player: 2, Add: 1}, -1, 0)
	checkFaulty(t, impl.World{}, nil, impl.Fault{}, -1, 0)
}

// TestFaultyStepThatIsNone has worlds that stay as they are, at the tick of the fault and before.
func TestFaultyStepThatIsNone(t *testing.T) {
	w := worldOf(t, arena, 3, 9)
	for _, at := range []int{0, 6, 399, 400} {
		w.Tick = at
		for _, tick := range []int{at, at + 1} {
			f := impl.Fault{Tick: tick, Player: 1, Add: 4}
			for _, row := range [][]int{nil, {0, 0}, {0, 0, 0, 0}, {0, 16, 0}, {-1, 0, 0}} {
				checkFaulty(t, w, row, f, -1, 0)
			}
			bad := deepCopy(w)
			bad.Seed = -1
			checkFaulty(t, bad, []int{0, 0, 0}, f, -1, 0)
		}
	}
	w.Tick = -1
	checkFaulty(t, w, []int{0, 0, 0}, impl.Fault{Tick: 0, Player: 1, Add: 4}, -1, 0)
	w.Tick = 100000
	checkFaulty(t, w, []int{0, 0, 0}, impl.Fault{Tick: 400, Player: 1, Add: 4}, -1, 0)
}

func TestFaultyStepAtTheGreatestScore(t *testing.T) {
	w := worldOf(t, arena, 3, 9)
	for _, c := range []struct{ score, add, more int }{
		{1000000, 0, 0}, {1000000, 1, 0}, {1000000, 9, 0}, {999999, 1, 1}, {999999, 2, 1}, {999991, 9, 9}, {999992, 9, 8}, {999990, 9, 9}, {999999, 0, 0},
	} {
		w.Scores[1] = c.score
		checkFaulty(t, w, []int{0, 0, 0}, impl.Fault{Tick: 1, Player: 1, Add: c.add}, 1, c.more)
		if got := impl.FaultyStep(w, []int{0, 0, 0}, impl.Fault{Tick: 1, Player: 1, Add: c.add}); !impl.WorldOk(got) {
			t.Errorf("FaultyStep from the score %d with %d gives no world", c.score, c.add)
		}
	}
	item := impl.Body{Kind: impl.BodyItem, X: w.Bodies[1].X, Y: w.Bodies[1].Y}
	w.Bodies = append(w.Bodies, item)
	w.Scores[1] = 999998
	if got := impl.FaultyStep(w, []int{0, 0, 0}, impl.Fault{Tick: 1, Player: 1, Add: 2}); got.Scores[1] != 1000000 || len(got.Bodies) != 3 {
		t.Errorf("an item and a fault at once: %v", got)
	}
}

// TestFaultyRuns compares whole runs with one fault each.
func TestFaultyRuns(t *testing.T) {
	r := rand.New(rand.NewSource(401))
	for range 60 {
		players := 1 + r.Intn(4)
		l := randomLevel(r)
		f := impl.Fault{Tick: r.Intn(40), Player: r.Intn(players), Add: r.Intn(10)}
		w, ok := impl.NewWorld(l, players, r.Intn(65536))
		if !ok {
			t.Fatal("no world")
		}
		want := w
		for _, row := range heldRows(r, players, 40) {
			w, want = impl.FaultyStep(w, row, f), plainFaulty(want, row, f)
			if !plainSame(w, want) || !impl.WorldOk(w) {
				t.Fatalf("FaultyStep to %d with %v = %v; want %v", want.Tick, f, w, want)
			}
		}
	}
}
