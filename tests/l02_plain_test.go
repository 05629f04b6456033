package tests

import (
	"math/rand"
	"slices"
	"strings"
	"testing"

	"loop.example/g03315/impl"
)

// This file has a second world for comparison: it looks at points one by one, at the whole level
// each time, and shares nothing with the package but its types.

func plainWall(l impl.Level, x int, y int) bool {
	return x < 0 || y < 0 || y/16 >= len(l.Rows) || x/16 >= len(l.Rows[0]) || l.Rows[y/16][x/16] == '#'
}

func plainSolid(l impl.Level, x int, y int, size int) bool {
	for dx := range size {
		for dy := range size {
			if plainWall(l, x+dx, y+dy) {
				return true
			}
		}
	}
	return false
}

func plainSize(kind int) int { return []int{12, 4, 8}[kind] }

func plainMeet(a impl.Body, b impl.Body) bool {
	for x := a.X; x < a.X+plainSize(a.Kind); x++ {
		for y := a.Y; y < a.Y+plainSize(a.Kind); y++ {
			if plainCovers(b, x, y) {
				return true
			}
		}
	}
	return false
}

func plainCovers(b impl.Body, x int, y int) bool {
	return x >= b.X && x <= b.X+plainSize(b.Kind)-1 && y >= b.Y && y <= b.Y+plainSize(b.Kind)-1
}

func plainStart(l impl.Level, player int) (int, int) {
	for _, wanted := range []string{string(rune('1' + player)), "o.1234"} {
		for y := range l.Rows {
			for x := range l.Rows[y] {
				if strings.ContainsRune(wanted, rune(l.Rows[y][x])) {
					return 16*x + 2, 16*y + 2
				}
			}
		}
	}
	return -1, -1
}

func plainPlayer(l impl.Level, k int) impl.Body {
	x, y := plainStart(l, k)
	return impl.Body{Kind: 0, Owner: k, X: x, Y: y, Aim: 1, Life: 3}
}

func plainSpots(l impl.Level) [][2]int {
	var spots [][2]int
	for i := range len(l.Rows) * len(l.Rows[0]) {
		x, y := i%len(l.Rows[0]), i/len(l.Rows[0])
		if l.Rows[y][x] == 'o' {
			spots = append(spots, [2]int{16*x + 4, 16*y + 4})
		}
	}
	return spots
}

func plainMove(l impl.Level, b impl.Body) (impl.Body, bool) {
	stopped := false
	size := plainSize(b.Kind)
	for n := b.VX; n != 0; {
		d := 1
		if n < 0 {
			d = -1
		}
		if plainSolid(l, b.X+d, b.Y, size) {
			b.VX, n, stopped = 0, 0, true
		} else {
			b.X, n = b.X+d, n-d
		}
	}
	for n := b.VY; n != 0; {
		d := 1
		if n < 0 {
			d = -1
		}
		if plainSolid(l, b.X, b.Y+d, size) {
			b.VY, n, stopped = 0, 0, true
		} else {
			b.Y, n = b.Y+d, n-d
		}
	}
	return b, stopped
}

func plainSteer(l impl.Level, b impl.Body, input int) (impl.Body, bool) {
	left, right, jump, fire := input%2 == 1, input/2%2 == 1, input/4%2 == 1, input/8%2 == 1
	if b.Timer > 0 {
		b.Timer--
	}
	if right && !left {
		b.VX, b.Aim = 3, 1
	} else if left && !right {
		b.VX, b.Aim = -3, -1
	} else {
		b.VX = 0
	}
	if jump && plainSolid(l, b.X, b.Y+1, 12) {
		b.VY = -9
	} else if b.VY < 8 {
		b.VY++
	} else {
		b.VY = 8
	}
	if fire && b.Timer == 0 {
		b.Timer = 12
		return b, true
	}
	return b, false
}

func plainGain(scores []int, k int) {
	if scores[k] < 1000000 {
		scores[k]++
	}
}

// plainStep performs a tick in the five parts that the document lists.
func plainStep(w impl.World, row []int) impl.World {
	w.Scores, w.Bodies = slices.Clone(w.Scores), slices.Clone(w.Bodies)
	plainSteerAll(&w, row)
	plainMoveAll(&w)
	plainActAll(&w, 1)
	plainActAll(&w, 2)
	w.Tick++
	w.Seed = (w.Seed*25173 + 13849) % 65536
	if spots := plainSpots(w.Level); w.Tick%16 == 0 && len(spots) > 0 && len(w.Bodies) < 24 {
		w.Seed = (w.Seed*25173 + 13849) % 65536
		spot := spots[w.Seed/16%len(spots)]
		item := impl.Body{Kind: 2, X: spot[0], Y: spot[1]}
		if !slices.ContainsFunc(w.Bodies, func(b impl.Body) bool { return b.Kind == 2 && b.X == spot[0] && b.Y == spot[1] }) {
			w.Bodies = append(w.Bodies, item)
		}
	}
	return w
}

func plainSteerAll(w *impl.World, row []int) {
	for k := range row {
		if w.Bodies[k].Life == 0 {
			w.Bodies[k].Timer--
			if w.Bodies[k].Timer == 0 {
				w.Bodies[k] = plainPlayer(w.Level, k)
			}
			continue
		}
		fires := false
		w.Bodies[k], fires = plainSteer(w.Level, w.Bodies[k], row[k])
		if fires && len(w.Bodies) < 24 {
			b := w.Bodies[k]
			w.Bodies = append(w.Bodies, impl.Body{Kind: 1, Owner: k, X: b.X + 4, Y: b.Y + 4, VX: 6 * b.Aim, Timer: 25})
		}
	}
}

func plainMoveAll(w *impl.World) {
	var rest []impl.Body
	for _, b := range w.Bodies {
		stopped := false
		if b.Kind == 1 || b.Kind == 0 && b.Life > 0 {
			b, stopped = plainMove(w.Level, b)
		}
		if b.Kind == 1 {
			b.Timer--
			if stopped || b.Timer == 0 {
				continue
			}
		}
		rest = append(rest, b)
	}
	w.Bodies = rest
}

// plainActAll is part 3 for shots and part 4 for items.
func plainActAll(w *impl.World, kind int) {
	gone := map[int]bool{}
	for i, b := range w.Bodies {
		if b.Kind != kind {
			continue
		}
		for k := range w.Scores {
			p := &w.Bodies[k]
			if p.Life == 0 || kind == 1 && k == b.Owner || !plainMeet(*p, b) {
				continue
			}
			gone[i] = true
			if kind == 2 {
				plainGain(w.Scores, k)
			} else if p.Life--; p.Life == 0 {
				plainGain(w.Scores, b.Owner)
				p.VX, p.VY, p.Timer = 0, 0, 20
			}
			break
		}
	}
	var rest []impl.Body
	for i, b := range w.Bodies {
		if !gone[i] {
			rest = append(rest, b)
		}
	}
	w.Bodies = rest
}

// randomLevel is a valid level of a random size.
func randomLevel(r *rand.Rand) impl.Level {
	rows, columns := 3+r.Intn(10), 4+r.Intn(17)
	tiles := make([][]byte, rows)
	for y := range tiles {
		tiles[y] = []byte(strings.Repeat("#", columns))
		for x := 1; x < columns-1 && y > 0 && y < rows-1; x++ {
			tiles[y][x] = "....oo##"[r.Intn(8)]
		}
	}
	for _, digit := range []byte("1234")[:r.Intn(5)] {
		tiles[1+r.Intn(rows-2)][1+r.Intn(columns-2)] = digit
	}
	// Digits may have been laid over one another, but at least one open tile is needed.
	if strings.Trim(string(slices.Concat(tiles...)), "#") == "" {
		tiles[1+r.Intn(rows-2)][1+r.Intn(columns-2)] = '.'
	}
	var l impl.Level
	for _, row := range tiles {
		l.Rows = append(l.Rows, string(row))
	}
	return l
}

// randomBody is a valid body of a kind, often beside a wall or beside another place.
func randomBody(r *rand.Rand, l impl.Level, kind int, owner int) impl.Body {
	b := impl.Body{Kind: kind, Owner: owner, VX: r.Intn(31) - 15, VY: r.Intn(31) - 15}
	if spots := plainSpots(l); kind == 2 && len(spots) > 0 && r.Intn(2) == 0 {
		spot := spots[r.Intn(len(spots))]
		b.X, b.Y = spot[0], spot[1]
	} else {
		for plainSolid(l, b.X, b.Y, plainSize(kind)) {
			b.X, b.Y = r.Intn(16*len(l.Rows[0])), r.Intn(16*len(l.Rows))
		}
	}
	switch kind {
	case 0:
		b.Aim = 2*r.Intn(2) - 1
		b.Life = r.Intn(4)
		b.Timer = r.Intn(13)
		if b.Life == 0 {
			b.Timer = 1 + r.Intn(20)
		}
	case 1:
		b.Timer = 1 + r.Intn(25)
	case 2:
		b.Owner = 0
	}
	return b
}

// crowdedWorld is a valid world of which little needs to follow from a new one.
func crowdedWorld(r *rand.Rand) impl.World {
	w := impl.World{Level: randomLevel(r), Tick: r.Intn(100000), Seed: r.Intn(65536)}
	if r.Intn(2) == 0 {
		w.Tick = min(w.Tick/16*16+15, 99999)
	}
	players := 1 + r.Intn(4)
	for k := range players {
		w.Scores = append(w.Scores, r.Intn(1000))
		if r.Intn(4) == 0 {
			w.Scores[k] = 1000000 - r.Intn(2)
		}
		w.Bodies = append(w.Bodies, randomBody(r, w.Level, 0, k))
	}
	others := r.Intn(25 - players)
	if r.Intn(3) == 0 {
		others = 24 - players - r.Intn(3)
	}
	for range others {
		w.Bodies = append(w.Bodies, randomBody(r, w.Level, 1+r.Intn(2), r.Intn(players)))
	}
	return w
}

func randomRow(r *rand.Rand, players int) []int {
	row := make([]int, players)
	for k := range row {
		row[k] = r.Intn(16)
	}
	return row
}

func randomRows(r *rand.Rand, players int, n int) [][]int {
	rows := make([][]int, n)
	for i := range rows {
		rows[i] = randomRow(r, players)
	}
	return rows
}

// heldRows are rows of players who hold what they press for some ticks, and so come farther.
func heldRows(r *rand.Rand, players int, n int) [][]int {
	rows := randomRows(r, players, n)
	for i := 1; i < n; i++ {
		for k := range players {
			if r.Intn(8) > 0 {
				rows[i][k] = rows[i-1][k]
			}
		}
	}
	return rows
}

func levelOf(t *testing.T, text string) impl.Level {
	t.Helper()
	l, ok := impl.ParseLevel(text)
	if !ok {
		t.Fatalf("no level: %q", text)
	}
	return l
}

func worldOf(t *testing.T, text string, players int, seed int) impl.World {
	t.Helper()
	w, ok := impl.NewWorld(levelOf(t, text), players, seed)
	if !ok {
		t.Fatalf("no world of %q", text)
	}
	return w
}

// deepCopy shares no memory with a world.
func deepCopy(w impl.World) impl.World {
	w.Level.Rows = slices.Clone(w.Level.Rows)
	w.Scores = slices.Clone(w.Scores)
	w.Bodies = slices.Clone(w.Bodies)
	return w
}

// plainSame compares two worlds without the package.
func plainSame(a impl.World, b impl.World) bool {
	return a.Tick == b.Tick && a.Seed == b.Seed && slices.Equal(a.Level.Rows, b.Level.Rows) && slices.Equal(a.Scores, b.Scores) && slices.Equal(a.Bodies, b.Bodies)
}
