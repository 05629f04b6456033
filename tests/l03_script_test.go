package tests

import (
	"math"
	"slices"
	"testing"

	"loop.example/g03315/impl"
)

func TestScriptInput(t *testing.T) {
	for _, c := range []struct {
		script []int
		delay  int
		want   []int
	}{
		{[]int{1, 2}, 1, []int{0, 1, 2, 1, 2, 1}}, {[]int{7}, 0, []int{7, 7, 7}}, {[]int{7}, 5, []int{0, 0, 0, 0, 0, 7, 7}},
		{[]int{15, 0, 8}, 0, []int{15, 0, 8, 15, 0, 8, 15}}, {[]int{15, 0, 8}, 2, []int{0, 0, 15, 0, 8, 15, 0, 8}},
	} {
		for tick, want := range c.want {
			if got := impl.ScriptInput(c.script, c.delay, tick); got != want {
				t.Errorf("ScriptInput(%v, %d, %d) = %d; want %d", c.script, c.delay, tick, got, want)
			}
		}
	}
	full := countingInputs(400)
	full[0], full[399] = 13, 14
	for tick, want := range map[int]int{4: 0, 5: 13, 6: 1, 404: 14, 405: 13, 406: 1, 804: 14, 100005: 13} {
		if got := impl.ScriptInput(full, 5, tick); got != want {
			t.Errorf("ScriptInput of a full script at %d = %d; want %d", tick, got, want)
		}
	}
	// 2^63 - 1 is 7 modulo 10, and so is the place in the script without a delay.
	if got := impl.ScriptInput(countingInputs(10), 0, math.MaxInt); got != 7 {
		t.Errorf("ScriptInput at the last tick = %d", got)
	}
}

// badScripts are scripts that nobody can follow.
func badScripts() [][]int {
	scripts := [][]int{nil, {}}
	for _, bad := range badTracks() {
		scripts = append(scripts, bad.Inputs)
	}
	return scripts
}

func TestScriptInputRejects(t *testing.T) {
	for _, bad := range badScripts() {
		for _, tick := range []int{0, 1, 2, 3, 500} {
			for _, delay := range []int{0, 2} {
				if got := impl.ScriptInput(bad, delay, tick); got != -1 {
					t.Errorf("ScriptInput(%v, %d, %d) = %d", bad, delay, tick, got)
				}
			}
		}
	}
	for _, c := range [][]int{{-1, 0}, {6, 0}, {6, 100}, {math.MaxInt, 0}, {math.MinInt, 0}, {math.MinInt, math.MaxInt}, {0, -1}, {5, -1}, {0, math.MinInt}, {-1, -1}} {
		if got := impl.ScriptInput([]int{1, 2}, c[0], c[1]); got != -1 {
			t.Errorf("ScriptInput with the delay %d at %d = %d", c[0], c[1], got)
		}
	}
}

func TestScriptRows(t *testing.T) {
	scripts := [][]int{{1, 2}, {5}, {9, 10, 11}}
	all := [][]int{{0, 0, 0}, {1, 5, 9}, {2, 5, 10}, {1, 5, 11}, {2, 5, 9}}
	for n := range 6 {
		if got := impl.ScriptRows(scripts, 1, n); !slices.EqualFunc(got, all[:n], slices.Equal) {
			t.Errorf("ScriptRows(%v, 1, %d) = %v; want %v", scripts, n, got, all[:n])
		}
	}
	for players := 1; players <= 4; players++ {
		for delay := range 6 {
			rows := impl.ScriptRows([][]int{{1, 2}, {5}, {9, 10, 11}, countingInputs(400)}[:players], delay, 400)
			if len(rows) != 400 {
				t.Fatalf("%d rows of %d scripts with the delay %d", len(rows), players, delay)
			}
			for tick, row := range rows {
				want := make([]int, 4)
				if at := tick - delay; at >= 0 {
					want = []int{1 + at%2, 5, 9 + at%3, at % 16}
				}
				if !slices.Equal(row, want[:players]) {
					t.Fatalf("the row %d with the delay %d is %v; want %v", tick, delay, row, want[:players])
				}
			}
		}
	}
}

func TestScriptRowsRejects(t *testing.T) {
	good := []int{1, 2}
	check := func(scripts [][]int, delay int, n int) {
		t.Helper()
		if got := impl.ScriptRows(scripts, delay, n); len(got) != 0 {
			t.Errorf("ScriptRows(%v, %d, %d) = %v", scripts, delay, n, got)
		}
	}
	for _, n := range []int{-1, 401, 1000, math.MaxInt, math.MinInt} {
		check([][]int{good}, 0, n)
	}
	for _, delay := range []int{-1, 6, math.MaxInt, math.MinInt} {
		check([][]int{good}, delay, 5)
	}
	for _, players := range []int{0, 5, 9} {
		check(slices.Repeat([][]int{good}, players), 0, 5)
	}
	check(nil, 0, 0)
	for _, bad := range badScripts() {
		for _, n := range []int{1, 5, 400} {
			check([][]int{bad}, 2, n)
			check([][]int{good, bad}, 0, n)
			check([][]int{bad, good, good, good}, 0, n)
		}
	}
}

func TestRowsOfScriptsShareNoMemory(t *testing.T) {
	scripts := [][]int{spareInts([]int{1, 2}), spareInts([]int{3})}
	rows := impl.ScriptRows(scripts, 0, 6)
	for i, row := range rows {
		if want := []int{1 + i%2, 3}; !slices.Equal(row, want) {
			t.Errorf("the row %d is %v behind what was written into others", i, row)
		}
		spoilInts(row)
	}
	if !slices.Equal(scripts[0][:6], []int{1, 2, 91, 92, 93, 94}) || !slices.Equal(scripts[1][:5], []int{3, 91, 92, 93, 94}) {
		t.Error("a script was changed", scripts)
	}
}
