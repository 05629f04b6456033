package tests

import (
	"math"
	"math/rand"
	"slices"
	"strings"
	"testing"

	"loop.example/g03315/impl"
)

func TestWorldConstants(t *testing.T) {
	got := []int{
		impl.MaxPlayers, impl.TileSize, impl.MaxBodies, impl.MaxSpeed, impl.FullLife, impl.RespawnTicks, impl.ReloadTicks, impl.ShotTicks,
		impl.ItemTicks, impl.MaxTick, impl.PressLeft, impl.PressRight, impl.PressJump, impl.PressFire, impl.BodyPlayer, impl.BodyShot, impl.BodyItem,
	}
	if want := []int{4, 16, 24, 15, 3, 20, 12, 25, 16, 100000, 1, 2, 4, 8, 0, 1, 2}; !slices.Equal(got, want) {
		t.Errorf("constants %v; want %v", got, want)
	}
}

// boxOf is a level of walls around tiles "."; its size need not be valid.
func boxOf(rows int, columns int) impl.Level {
	l := impl.Level{Rows: make([]string, rows)}
	for y := range l.Rows {
		l.Rows[y] = strings.Repeat("#", columns)
		if y > 0 && y < rows-1 && columns > 2 {
			l.Rows[y] = "#" + strings.Repeat(".", columns-2) + "#"
		}
	}
	return l
}

func TestLevelSizes(t *testing.T) {
	for rows := range 15 {
		for columns := range 23 {
			want := rows >= 3 && rows <= 12 && columns >= 4 && columns <= 20
			if got := impl.LevelOk(boxOf(rows, columns)); got != want {
				t.Errorf("LevelOk of %d rows of %d tiles = %v", rows, columns, got)
			}
		}
	}
	for _, l := range []impl.Level{
		{}, {Rows: []string{}}, {Rows: []string{"", "", ""}}, boxOf(1000, 10), boxOf(10, 1000),
		{Rows: []string{"####", "#.#", "####"}}, {Rows: []string{"####", "#..##", "####"}}, {Rows: []string{"####", "#..#", "#####"}},
		{Rows: []string{"###", "#..#", "####"}}, {Rows: []string{"#####", "#..#", "####"}}, {Rows: []string{"####", "", "####"}},
		{Rows: []string{"", "#..#", "####"}}, {Rows: []string{"####", "#..#", ""}},
	} {
		if impl.LevelOk(l) {
			t.Errorf("LevelOk of %q", l.Rows)
		}
	}
}

// withTile returns a level with another tile at a place.
func withTile(l impl.Level, x int, y int, tile byte) impl.Level {
	rows := slices.Clone(l.Rows)
	row := []byte(rows[y])
	row[x] = tile
	rows[y] = string(row)
	return impl.Level{Rows: rows}
}

func TestLevelTiles(t *testing.T) {
	for tile := range 256 {
		want := tile < 128 && strings.ContainsRune("#o.1234", rune(tile))
		if got := impl.LevelOk(withTile(boxOf(4, 5), 2, 2, byte(tile))); got != want {
			t.Errorf("LevelOk with the tile %q = %v", rune(tile), got)
		}
	}
	for y := range 5 {
		for x := range 6 {
			for _, tile := range []byte("o.1234") {
				border := x == 0 || x == 5 || y == 0 || y == 4
				if got := impl.LevelOk(withTile(boxOf(5, 6), x, y, tile)); got == border {
					t.Errorf("LevelOk with %q at %d, %d = %v", tile, x, y, got)
				}
			}
		}
	}
	for text, want := range map[string]bool{
		"####/####/####": false, "####/#.##/####": true, "####/##o#/####": true, "####/#1##/####": true, "####/#12#/####": true, "####/#11#/####": false,
		"####/#44#/####": false, "####/#4.#/#.4#/####": false, "####/#12#/#34#/####": true, "####/#12#/#32#/####": false, "####/#oo#/#oo#/####": true,
		"####/#05#/####": false, "####/#é#/####": false, "####/#.#/####": false,
	} {
		if got := impl.LevelOk(impl.Level{Rows: strings.Split(text, "/")}); got != want {
			t.Errorf("LevelOk of %q = %v", text, got)
		}
	}
}

func TestFormatAndParseLevel(t *testing.T) {
	r := rand.New(rand.NewSource(201))
	for range 500 {
		l := randomLevel(r)
		text := impl.FormatLevel(l)
		if text != strings.Join(l.Rows, "/") {
			t.Fatalf("FormatLevel(%q) = %q", l.Rows, text)
		}
		read, ok := impl.ParseLevel(text)
		if !ok || !slices.Equal(read.Rows, l.Rows) {
			t.Fatalf("ParseLevel(%q) = %q, %v", text, read.Rows, ok)
		}
	}
	for _, text := range []string{
		"", "/", "//", "####", "####/#..#", "####/#..#/", "/####/#..#/####", "####/#..#/####/", "####//#..#/####", "####/#..#/####\n", "####/#.x#/####",
		"####\n#..#\n####", "####/#..#/###", "####/#..#/#.##", "####/#11#/####", strings.Repeat("/", 20001),
	} {
		if l, ok := impl.ParseLevel(text); ok || l.Rows != nil {
			t.Errorf("ParseLevel(%q) = %q, %v", text, l.Rows, ok)
		}
	}
	for _, rows := range [][]string{nil, {"####/#..#/####"}, {"####", "#..#"}, {"####", "#..#/####"}, {"####", "####", "####"}, {"#/##", "#..#", "####"}} {
		if text := impl.FormatLevel(impl.Level{Rows: rows}); text != "" {
			t.Errorf("FormatLevel(%q) = %q", rows, text)
		}
	}
}

func TestParseLevelGivesNewRows(t *testing.T) {
	text := "####/#..#/####"
	a, _ := impl.ParseLevel(text)
	b, _ := impl.ParseLevel(text)
	a.Rows[1] = "#oo#"
	if b.Rows[1] != "#..#" {
		t.Error("two levels share their rows")
	}
}

func TestStartOf(t *testing.T) {
	l := levelOf(t, "#######/##.#2##/#4.o.1#/#######")
	for player, want := range [][2]int{{82, 34}, {66, 18}, {34, 18}, {18, 34}} {
		if x, y := impl.StartOf(l, player); x != want[0] || y != want[1] {
			t.Errorf("StartOf player %d = %d, %d; want %v", player, x, y, want)
		}
	}
	for _, text := range []string{"####/##o#/####", "####/##.#/#oo#/####", "####/##2#/#.##/####", "####/##4#/#.2#/####"} {
		if x, y := impl.StartOf(levelOf(t, text), 0); x != 34 || y != 18 {
			t.Errorf("StartOf in %q = %d, %d", text, x, y)
		}
	}
	for _, player := range []int{-1, 4, 5, -256, 256, math.MinInt, math.MaxInt} {
		if x, y := impl.StartOf(l, player); x != -1 || y != -1 {
			t.Errorf("StartOf player %d = %d, %d", player, x, y)
		}
	}
	for _, bad := range []impl.Level{{}, boxOf(2, 4), boxOf(13, 20), {Rows: []string{"####", "#11#", "####"}}} {
		if x, y := impl.StartOf(bad, 0); x != -1 || y != -1 {
			t.Errorf("StartOf in %q = %d, %d", bad.Rows, x, y)
		}
	}
	r := rand.New(rand.NewSource(202))
	for range 300 {
		l := randomLevel(r)
		for k := range 4 {
			wantX, wantY := plainStart(l, k)
			if x, y := impl.StartOf(l, k); x != wantX || y != wantY {
				t.Fatalf("StartOf(%q, %d) = %d, %d; want %d, %d", l.Rows, k, x, y, wantX, wantY)
			}
		}
	}
}

func TestSpotsOf(t *testing.T) {
	for text, want := range map[string][][]int{
		"####/#..#/####":              nil,
		"####/#o.#/####":              {{20, 20}},
		"######/#.o.o#/#o1.2#/######": {{36, 20}, {68, 20}, {20, 36}},
	} {
		got := impl.SpotsOf(levelOf(t, text))
		if !slices.EqualFunc(got, want, slices.Equal[[]int]) {
			t.Errorf("SpotsOf(%q) = %v; want %v", text, got, want)
		}
	}
	full := boxOf(12, 20)
	for y := 1; y < 11; y++ {
		full.Rows[y] = "#" + strings.Repeat("o", 18) + "#"
	}
	if got := impl.SpotsOf(full); len(got) != 180 || got[0][0] != 20 || got[0][1] != 20 || got[179][0] != 292 || got[179][1] != 164 {
		t.Errorf("SpotsOf the fullest level: %d %v", len(got), got)
	}
	for _, bad := range []impl.Level{{}, boxOf(2, 4), {Rows: []string{"####", "#oo#", "###"}}, {Rows: []string{"####", "ooo#", "####"}}} {
		if got := impl.SpotsOf(bad); got != nil {
			t.Errorf("SpotsOf(%q) = %v", bad.Rows, got)
		}
	}
	spots := impl.SpotsOf(full)
	before := spots[1][0]
	_ = append(spots[0], 7)
	if spots[1][0] != before {
		t.Error("two places share memory")
	}
}

func TestSizeOf(t *testing.T) {
	for kind, want := range map[int]int{0: 12, 1: 4, 2: 8, -1: 0, 3: 0, 12: 0, 256: 0, math.MinInt: 0, math.MaxInt: 0} {
		if got := impl.SizeOf(kind); got != want {
			t.Errorf("SizeOf(%d) = %d; want %d", kind, got, want)
		}
	}
}

func TestSolidAt(t *testing.T) {
	for _, text := range []string{"####/#..#/####", "######/#.#.o#/#..#.#/##...#/######", "#####/#.#.#/##.##/#.#.#/#####"} {
		l := levelOf(t, text)
		for _, size := range []int{1, 2, 4, 8, 12, 15, 16} {
			for y := -20; y < 16*len(l.Rows)+20; y++ {
				for x := -20; x < 16*len(l.Rows[0])+20; x++ {
					if got := impl.SolidAt(l, x, y, size); got != plainSolid(l, x, y, size) {
						t.Fatalf("SolidAt(%q, %d, %d, %d) = %v", text, x, y, size, got)
					}
				}
			}
		}
	}
	l := levelOf(t, "####/#..#/####")
	for _, size := range []int{0, -1, 17, 18, math.MinInt, math.MaxInt} {
		if !impl.SolidAt(l, 20, 20, size) {
			t.Errorf("SolidAt for the size %d", size)
		}
	}
	for _, far := range []int{math.MinInt, math.MinInt + 1, -1 << 32, 1 << 32, math.MaxInt - 1, math.MaxInt} {
		if !impl.SolidAt(l, far, 20, 4) || !impl.SolidAt(l, 20, far, 16) {
			t.Errorf("SolidAt at %d", far)
		}
	}
	for _, bad := range []impl.Level{{}, boxOf(2, 8), boxOf(13, 8), {Rows: []string{"....", "....", "...."}}} {
		if !impl.SolidAt(bad, 20, 20, 4) {
			t.Errorf("SolidAt in %q", bad.Rows)
		}
	}
}

func TestSolidAtTheEndsOfTheGreatestLevel(t *testing.T) {
	l := boxOf(12, 20)
	for _, c := range []struct {
		x, y, size int
		want       bool
	}{
		{16, 16, 16, false}, {15, 16, 16, true}, {16, 15, 16, true}, {288, 160, 16, false}, {289, 160, 16, true}, {288, 161, 16, true},
		{303, 175, 1, false}, {304, 175, 1, true}, {303, 176, 1, true}, {319, 191, 1, true}, {320, 100, 1, true}, {100, 192, 1, true},
	} {
		if got := impl.SolidAt(l, c.x, c.y, c.size); got != c.want {
			t.Errorf("SolidAt(%d, %d, %d) = %v", c.x, c.y, c.size, got)
		}
	}
}
