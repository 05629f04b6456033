package tests

import (
	"math"
	"math/rand"
	"testing"

	"loop.example/g03315/impl"
)

func TestBodiesMeet(t *testing.T) {
	for kindA := range 3 {
		for kindB := range 3 {
			a := impl.Body{Kind: kindA, X: 40, Y: 50}
			for dx := -20; dx <= 20; dx++ {
				for dy := -20; dy <= 20; dy++ {
					b := impl.Body{Kind: kindB, X: 40 + dx, Y: 50 + dy}
					if got := impl.BodiesMeet(a, b); got != plainMeet(a, b) {
						t.Fatalf("BodiesMeet(%v, %v) = %v", a, b, got)
					}
				}
			}
		}
	}
	for _, c := range []struct {
		a, b impl.Body
		want bool
	}{
		{impl.Body{}, impl.Body{}, true},
		{impl.Body{X: 1000, Y: 1000}, impl.Body{X: 1000, Y: 1000}, true},
		{impl.Body{X: 1000}, impl.Body{X: 1000, Kind: 2}, true},
		{impl.Body{X: 1001}, impl.Body{X: 1000}, false},
		{impl.Body{X: 1000}, impl.Body{X: 1001}, false},
		{impl.Body{Y: 1001}, impl.Body{Y: 1000}, false},
		{impl.Body{Y: 1000}, impl.Body{Y: 1001}, false},
		{impl.Body{X: -1}, impl.Body{}, false},
		{impl.Body{}, impl.Body{X: -1}, false},
		{impl.Body{Y: -1}, impl.Body{}, false},
		{impl.Body{}, impl.Body{Y: -1}, false},
		{impl.Body{Kind: 3}, impl.Body{}, false},
		{impl.Body{}, impl.Body{Kind: 3}, false},
		{impl.Body{Kind: -1}, impl.Body{Kind: -1}, false},
		{impl.Body{Kind: 3, X: 5, Y: 5}, impl.Body{}, false},
		{impl.Body{}, impl.Body{Kind: 3, X: 5, Y: 5}, false},
		{impl.Body{X: math.MaxInt}, impl.Body{X: math.MaxInt}, false},
		{impl.Body{Y: math.MinInt}, impl.Body{Y: math.MinInt}, false},
		{impl.Body{X: math.MaxInt}, impl.Body{X: 0}, false},
	} {
		if got := impl.BodiesMeet(c.a, c.b); got != c.want {
			t.Errorf("BodiesMeet(%v, %v) = %v", c.a, c.b, got)
		}
	}
}

func TestBodyOkRanges(t *testing.T) {
	l := boxOf(5, 7)
	alive := impl.Body{Kind: 0, Owner: 1, X: 40, Y: 30, VX: 3, VY: -9, Aim: -1, Life: 2, Timer: 5}
	out := impl.Body{Kind: 0, Owner: 1, X: 40, Y: 30, Aim: 1, Timer: 5}
	shot := impl.Body{Kind: 1, Owner: 1, X: 40, Y: 30, VX: 6, Timer: 5}
	item := impl.Body{Kind: 2, X: 40, Y: 30}
	for _, c := range []struct {
		name      string
		body      impl.Body
		set       func(b *impl.Body, n int)
		low, high int
	}{
		{"the owner of a player", alive, func(b *impl.Body, n int) { b.Owner = n }, 0, 2},
		{"the owner of a shot", shot, func(b *impl.Body, n int) { b.Owner = n }, 0, 2},
		{"the owner of an item", item, func(b *impl.Body, n int) { b.Owner = n }, 0, 0},
		{"VX of a player", alive, func(b *impl.Body, n int) { b.VX = n }, -15, 15},
		{"VY of a player", out, func(b *impl.Body, n int) { b.VY = n }, -15, 15},
		{"VX of a shot", shot, func(b *impl.Body, n int) { b.VX = n }, -15, 15},
		{"VY of a shot", shot, func(b *impl.Body, n int) { b.VY = n }, -15, 15},
		{"VX of an item", item, func(b *impl.Body, n int) { b.VX = n }, -15, 15},
		{"VY of an item", item, func(b *impl.Body, n int) { b.VY = n }, -15, 15},
		{"Aim of a shot", shot, func(b *impl.Body, n int) { b.Aim = n }, 0, 0},
		{"Aim of an item", item, func(b *impl.Body, n int) { b.Aim = n }, 0, 0},
		{"Life of a player", alive, func(b *impl.Body, n int) { b.Life = n }, 0, 3},
		{"Life of a player without Timer", impl.Body{X: 40, Y: 30, Aim: 1}, func(b *impl.Body, n int) { b.Life = n }, 1, 3},
		{"Life of a shot", shot, func(b *impl.Body, n int) { b.Life = n }, 0, 0},
		{"Life of an item", item, func(b *impl.Body, n int) { b.Life = n }, 0, 0},
		{"Timer of a player with Life", alive, func(b *impl.Body, n int) { b.Timer = n }, 0, 12},
		{"Timer of a player without Life", out, func(b *impl.Body, n int) { b.Timer = n }, 1, 20},
		{"Timer of a shot", shot, func(b *impl.Body, n int) { b.Timer = n }, 1, 25},
		{"Timer of an item", item, func(b *impl.Body, n int) { b.Timer = n }, 0, 0},
		{"X of a player", alive, func(b *impl.Body, n int) { b.X = n }, 16, 84},
		{"Y of a player", alive, func(b *impl.Body, n int) { b.Y = n }, 16, 52},
		{"X of a shot", shot, func(b *impl.Body, n int) { b.X = n }, 16, 92},
		{"Y of a shot", shot, func(b *impl.Body, n int) { b.Y = n }, 16, 60},
		{"X of an item", item, func(b *impl.Body, n int) { b.X = n }, 16, 88},
		{"Y of an item", item, func(b *impl.Body, n int) { b.Y = n }, 16, 56},
	} {
		for n := -200; n <= 200; n++ {
			b := c.body
			c.set(&b, n)
			if got := impl.BodyOk(l, 3, b); got != (n >= c.low && n <= c.high) {
				t.Errorf("BodyOk with %d as %s = %v", n, c.name, got)
			}
		}
		for _, n := range []int{math.MinInt, math.MinInt + 1, -65536, 65536, 1 << 32, math.MaxInt} {
			b := c.body
			c.set(&b, n)
			if impl.BodyOk(l, 3, b) {
				t.Errorf("BodyOk with %d as %s", n, c.name)
			}
		}
	}
}

func TestBodyOkKindsAndAims(t *testing.T) {
	l := boxOf(5, 7)
	for aim := -3; aim <= 3; aim++ {
		b := impl.Body{X: 40, Y: 30, Aim: aim, Life: 1}
		if got := impl.BodyOk(l, 1, b); got != (aim == 1 || aim == -1) {
			t.Errorf("BodyOk of a player with the Aim %d = %v", aim, got)
		}
	}
	for _, kind := range []int{-1, 3, 4, 256, math.MinInt, math.MaxInt} {
		for _, b := range []impl.Body{{X: 40, Y: 30}, {X: 40, Y: 30, Timer: 1}, {X: 40, Y: 30, Aim: 1, Life: 1}} {
			b.Kind = kind
			if impl.BodyOk(l, 1, b) {
				t.Errorf("BodyOk of %v", b)
			}
		}
	}
}

func TestBodyOkPlayersAndLevels(t *testing.T) {
	l := boxOf(5, 7)
	for _, b := range []impl.Body{{X: 40, Y: 30, Aim: 1, Life: 1}, {Kind: 1, X: 40, Y: 30, Timer: 1}, {Kind: 2, X: 40, Y: 30}} {
		for players, want := range map[int]bool{math.MinInt: false, -1: false, 0: false, 1: true, 4: true, 5: true, math.MaxInt: true} {
			if got := impl.BodyOk(l, players, b); got != want {
				t.Errorf("BodyOk of %v with %d players = %v", b, players, got)
			}
		}
		for _, bad := range []impl.Level{{}, boxOf(13, 7), boxOf(5, 3), {Rows: []string{".....", ".....", ".....", "....."}}} {
			if impl.BodyOk(bad, 1, b) {
				t.Errorf("BodyOk of %v in %q", b, bad.Rows)
			}
		}
	}
	b := impl.Body{X: 40, Y: 30, Aim: 1, Life: 1, Owner: 3}
	for players := -1; players < 7; players++ {
		if got := impl.BodyOk(l, players, b); got != (players > 3) {
			t.Errorf("BodyOk of the owner 3 with %d players = %v", players, got)
		}
	}
}

func TestMoveBodyAtWalls(t *testing.T) {
	l := levelOf(t, "#######/#.....#/#..#..#/#.....#/#######")
	for _, c := range []struct {
		b       impl.Body
		want    impl.Body
		stopped bool
	}{
		{impl.Body{X: 20, Y: 20}, impl.Body{X: 20, Y: 20}, false},
		{impl.Body{X: 20, Y: 20, VX: 15, VY: 15}, impl.Body{X: 35, Y: 35, VX: 15, VY: 15}, false},
		{impl.Body{X: 20, Y: 20, VX: -4, VY: -4}, impl.Body{X: 16, Y: 16, VX: -4, VY: -4}, false},
		{impl.Body{X: 20, Y: 20, VX: -5, VY: 2}, impl.Body{X: 16, Y: 22, VY: 2}, true},
		{impl.Body{X: 20, Y: 20, VX: 2, VY: -5}, impl.Body{X: 22, Y: 16, VX: 2}, true},
		{impl.Body{X: 20, Y: 20, VX: -5, VY: -5}, impl.Body{X: 16, Y: 16}, true},
		{impl.Body{X: 84, Y: 52, VX: 1, VY: 1}, impl.Body{X: 84, Y: 52}, true},
		{impl.Body{X: 36, Y: 30, VX: 1, VY: 15}, impl.Body{X: 36, Y: 45, VY: 15}, true},
		{impl.Body{X: 36, Y: 30, VX: 0, VY: 15}, impl.Body{X: 36, Y: 45, VY: 15}, false},
		{impl.Body{X: 37, Y: 20, VX: 0, VY: 1}, impl.Body{X: 37, Y: 20}, true},
		{impl.Body{X: 36, Y: 18, VX: 2, VY: 3}, impl.Body{X: 38, Y: 20, VX: 2}, true},
		{impl.Body{X: 38, Y: 18, VX: -2, VY: 3}, impl.Body{X: 36, Y: 21, VX: -2, VY: 3}, false},
		{impl.Body{Kind: 1, X: 88, Y: 20, VX: 6}, impl.Body{Kind: 1, X: 92, Y: 20}, true},
		{impl.Body{Kind: 1, X: 86, Y: 20, VX: 6}, impl.Body{Kind: 1, X: 92, Y: 20, VX: 6}, false},
		{impl.Body{Kind: 2, X: 86, Y: 50, VX: 6, VY: 7}, impl.Body{Kind: 2, X: 88, Y: 56}, true},
		{impl.Body{X: 20, Y: 20, VX: -1, Owner: -7, Aim: 9, Life: 99, Timer: -5}, impl.Body{X: 19, Y: 20, VX: -1, Owner: -7, Aim: 9, Life: 99, Timer: -5}, false},
	} {
		if got, stopped := impl.MoveBody(l, c.b); got != c.want || stopped != c.stopped {
			t.Errorf("MoveBody(%v) = %v, %v; want %v, %v", c.b, got, stopped, c.want, c.stopped)
		}
	}
}

func TestMoveBodyLeavesOtherBodiesAsTheyAre(t *testing.T) {
	l := boxOf(4, 6)
	for _, b := range []impl.Body{
		{X: 15, Y: 20, VX: 3}, {X: 20, Y: 40, VY: 3}, {X: -1, Y: 20, VX: 3}, {X: 20, Y: 20, VX: 16}, {X: 20, Y: 20, VX: -16}, {X: 20, Y: 20, VY: 16},
		{X: 20, Y: 20, VY: -16}, {X: 20, Y: 20, VX: 3, VY: math.MinInt}, {X: 20, Y: 20, VX: math.MaxInt}, {X: math.MaxInt, Y: 20, VX: 1},
		{X: 20, Y: math.MinInt, VY: -1}, {Kind: 3, X: 20, Y: 20, VX: 3}, {Kind: -1, X: 20, Y: 20, VX: 3},
	} {
		if got, stopped := impl.MoveBody(l, b); got != b || stopped {
			t.Errorf("MoveBody(%v) = %v, %v", b, got, stopped)
		}
	}
	b := impl.Body{X: 20, Y: 20, VX: -15, VY: -15}
	for _, bad := range []impl.Level{{}, boxOf(2, 6), boxOf(4, 21), {Rows: []string{"......", "......", "......"}}} {
		if got, stopped := impl.MoveBody(bad, b); got != b || stopped {
			t.Errorf("MoveBody in %q = %v, %v", bad.Rows, got, stopped)
		}
	}
}

func TestMoveBodyPointByPoint(t *testing.T) {
	r := rand.New(rand.NewSource(203))
	for range 20000 {
		l := randomLevel(r)
		b := randomBody(r, l, r.Intn(3), 0)
		want, stops := plainMove(l, b)
		if got, stopped := impl.MoveBody(l, b); got != want || stopped != stops {
			t.Fatalf("MoveBody(%q, %v) = %v, %v; want %v, %v", l.Rows, b, got, stopped, want, stops)
		}
		if plainSolid(l, want.X, want.Y, plainSize(b.Kind)) {
			t.Fatalf("%v moved into a wall of %q", b, l.Rows)
		}
	}
}

func TestSteerPlayerInputs(t *testing.T) {
	l := boxOf(4, 6)
	for input := range 16 {
		for _, aim := range []int{-1, 1} {
			for timer := range 13 {
				for _, y := range []int{16, 35, 36} {
					for _, vy := range []int{-15, -9, -1, 0, 1, 6, 7, 8, 9, 15} {
						b := impl.Body{Owner: 2, X: 30, Y: y, VX: 11, VY: vy, Aim: aim, Life: 1 + timer%3, Timer: timer}
						want, fire := plainSteer(l, b, input)
						if got, fires := impl.SteerPlayer(l, b, input); got != want || fires != fire {
							t.Fatalf("SteerPlayer(%v, %d) = %v, %v; want %v, %v", b, input, got, fires, want, fire)
						}
					}
				}
			}
		}
	}
}

func TestSteerPlayerExamples(t *testing.T) {
	l := boxOf(4, 6)
	for _, c := range []struct {
		b     impl.Body
		input int
		want  impl.Body
		fires bool
	}{
		{impl.Body{X: 20, Y: 20, Aim: -1, Life: 3}, 2, impl.Body{X: 20, Y: 20, VX: 3, VY: 1, Aim: 1, Life: 3}, false},
		{impl.Body{X: 20, Y: 20, Aim: 1, Life: 3}, 1, impl.Body{X: 20, Y: 20, VX: -3, VY: 1, Aim: -1, Life: 3}, false},
		{impl.Body{X: 20, Y: 20, VX: 5, Aim: -1, Life: 3}, 3, impl.Body{X: 20, Y: 20, VY: 1, Aim: -1, Life: 3}, false},
		{impl.Body{X: 20, Y: 36, Aim: 1, Life: 1}, 4, impl.Body{X: 20, Y: 36, VY: -9, Aim: 1, Life: 1}, false},
		{impl.Body{X: 20, Y: 35, Aim: 1, Life: 1}, 4, impl.Body{X: 20, Y: 35, VY: 1, Aim: 1, Life: 1}, false},
		{impl.Body{X: 20, Y: 36, Aim: 1, Life: 1, VY: 8}, 0, impl.Body{X: 20, Y: 36, VY: 8, Aim: 1, Life: 1}, false},
		{impl.Body{X: 20, Y: 20, Aim: 1, Life: 1, Timer: 1}, 8, impl.Body{X: 20, Y: 20, VY: 1, Aim: 1, Life: 1, Timer: 12}, true},
		{impl.Body{X: 20, Y: 20, Aim: 1, Life: 1, Timer: 2}, 8, impl.Body{X: 20, Y: 20, VY: 1, Aim: 1, Life: 1, Timer: 1}, false},
		{impl.Body{X: 20, Y: 20, Aim: 1, Life: 1, Timer: 1}, 7, impl.Body{X: 20, Y: 20, VY: 1, Aim: 1, Life: 1}, false},
		{impl.Body{X: 20, Y: 36, Aim: 1, Life: 1}, 15, impl.Body{X: 20, Y: 36, VY: -9, Aim: 1, Life: 1, Timer: 12}, true},
	} {
		if got, fires := impl.SteerPlayer(l, c.b, c.input); got != c.want || fires != c.fires {
			t.Errorf("SteerPlayer(%v, %d) = %v, %v; want %v, %v", c.b, c.input, got, fires, c.want, c.fires)
		}
	}
}

func TestSteerPlayerLeavesOtherBodiesAsTheyAre(t *testing.T) {
	l := boxOf(4, 6)
	good := impl.Body{X: 20, Y: 36, Aim: 1, Life: 1}
	for _, input := range []int{-1, 16, 17, 24, math.MinInt, math.MaxInt, -16} {
		if got, fires := impl.SteerPlayer(l, good, input); got != good || fires {
			t.Errorf("SteerPlayer with the input %d = %v, %v", input, got, fires)
		}
	}
	for _, bad := range []impl.Level{{}, boxOf(2, 6), {Rows: []string{"......", "......", "......", "......"}}} {
		if got, fires := impl.SteerPlayer(bad, good, 15); got != good || fires {
			t.Errorf("SteerPlayer in %q = %v, %v", bad.Rows, got, fires)
		}
	}
	for _, change := range []func(b *impl.Body){
		func(b *impl.Body) { b.Kind = 1 }, func(b *impl.Body) { b.Kind = 2 }, func(b *impl.Body) { b.Kind = -1 }, func(b *impl.Body) { b.Kind = 3 },
		func(b *impl.Body) { b.Kind, b.Aim, b.Life, b.Timer = 1, 0, 0, 1 }, func(b *impl.Body) { b.Life, b.Timer = 0, 1 },
		func(b *impl.Body) { b.Life = 0 }, func(b *impl.Body) { b.Life = -1 }, func(b *impl.Body) { b.Life = 4 },
		func(b *impl.Body) { b.Owner = -1 }, func(b *impl.Body) { b.Owner = 4 }, func(b *impl.Body) { b.Owner = math.MaxInt },
		func(b *impl.Body) { b.Aim = 0 }, func(b *impl.Body) { b.Aim = 2 }, func(b *impl.Body) { b.Timer = -1 }, func(b *impl.Body) { b.Timer = 13 },
		func(b *impl.Body) { b.VX = 16 }, func(b *impl.Body) { b.VY = -16 }, func(b *impl.Body) { b.X = 15 }, func(b *impl.Body) { b.Y = 37 },
		func(b *impl.Body) { b.X = math.MaxInt }, func(b *impl.Body) { b.Y = math.MaxInt },
	} {
		b := good
		change(&b)
		if got, fires := impl.SteerPlayer(l, b, 15); got != b || fires {
			t.Errorf("SteerPlayer(%v) = %v, %v", b, got, fires)
		}
	}
	for owner := range 4 {
		b := good
		b.Owner = owner
		if got, fires := impl.SteerPlayer(l, b, 8); !fires || got.Owner != owner || got.Timer != 12 {
			t.Errorf("SteerPlayer of the owner %d = %v, %v", owner, got, fires)
		}
	}
}

func TestShotOf(t *testing.T) {
	for _, c := range []struct{ b, want impl.Body }{
		{impl.Body{Owner: 3, X: 20, Y: 30, VX: 3, VY: -9, Aim: 1, Life: 2, Timer: 12}, impl.Body{Kind: 1, Owner: 3, X: 24, Y: 34, VX: 6, Timer: 25}},
		{impl.Body{Owner: 1, X: 20, Y: 30, Aim: -1, Life: 2}, impl.Body{Kind: 1, Owner: 1, X: 24, Y: 34, VX: -6, Timer: 25}},
		{impl.Body{}, impl.Body{Kind: 1, X: 4, Y: 4, Timer: 25}},
		{impl.Body{Kind: 9, Owner: -5, X: 1000, Y: 1000, Aim: 1}, impl.Body{Kind: 1, Owner: -5, X: 1004, Y: 1004, VX: 6, Timer: 25}},
		{impl.Body{Owner: 1, X: 1001, Aim: 1}, impl.Body{}},
		{impl.Body{Owner: 1, Y: 1001, Aim: 1}, impl.Body{}},
		{impl.Body{Owner: 1, X: -1, Aim: 1}, impl.Body{}},
		{impl.Body{Owner: 1, Y: -1, Aim: 1}, impl.Body{}},
		{impl.Body{Owner: 1, Aim: 2}, impl.Body{}},
		{impl.Body{Owner: 1, Aim: -2}, impl.Body{}},
		{impl.Body{Owner: 1, X: math.MaxInt, Aim: 1}, impl.Body{}},
		{impl.Body{Owner: 1, Y: math.MinInt, Aim: 1}, impl.Body{}},
		{impl.Body{Owner: 1, Aim: math.MaxInt}, impl.Body{}},
	} {
		if got := impl.ShotOf(c.b); got != c.want {
			t.Errorf("ShotOf(%v) = %v; want %v", c.b, got, c.want)
		}
	}
}
