package tests

import (
	"math"
	"math/rand"
	"slices"
	"testing"

	"loop.example/g03315/impl"
)

func TestLimitsOfInputs(t *testing.T) {
	got := []int{impl.MaxTrack, impl.MaxInputs, impl.MaxDelay}
	if want := []int{400, 40, 5}; !slices.Equal(got, want) {
		t.Errorf("the limits are %v; want %v", got, want)
	}
}

// goodTracks are valid tracks, the least and the greatest among them.
func goodTracks() []impl.Track {
	return []impl.Track{
		{}, {Inputs: []int{}}, trackOf(0), trackOf(15), trackOf(7, 7, 8), {Inputs: countingInputs(16)}, {Inputs: countingInputs(399)},
		{Inputs: make([]int, 400)}, {Inputs: slices.Repeat([]int{15}, 400)}, {Inputs: countingInputs(400)},
	}
}

func TestTrackOk(t *testing.T) {
	for _, good := range goodTracks() {
		if !impl.TrackOk(good) {
			t.Errorf("TrackOk is false for %d inputs %v", len(good.Inputs), good)
		}
	}
	for _, bad := range badTracks() {
		if impl.TrackOk(bad) {
			t.Errorf("TrackOk is true for %d inputs %v", len(bad.Inputs), bad)
		}
	}
	for at := range 400 {
		bad := trackOf(make([]int, 400)...)
		bad.Inputs[at] = 16
		if impl.TrackOk(bad) {
			t.Errorf("TrackOk with 16 as the input %d", at)
		}
	}
}

func TestTracksOk(t *testing.T) {
	for _, good := range goodTracks() {
		for n := 1; n <= 4; n++ {
			if list := slices.Repeat([]impl.Track{good}, n); !impl.TracksOk(list) {
				t.Errorf("TracksOk is false for %d tracks %v", n, good)
			}
		}
	}
	for _, bad := range badLists() {
		if impl.TracksOk(bad) {
			t.Errorf("TracksOk is true for %v", bad)
		}
	}
}

func TestKnownTicks(t *testing.T) {
	for _, c := range []struct {
		counts []int
		want   int
	}{
		{[]int{0}, 0}, {[]int{7}, 7}, {[]int{400}, 400}, {[]int{3, 1}, 1}, {[]int{1, 3}, 1}, {[]int{5, 2, 9}, 2}, {[]int{5, 0, 9, 400}, 0},
		{[]int{400, 400, 400, 399}, 399}, {[]int{6, 6, 6, 6}, 6},
	} {
		var list []impl.Track
		for _, n := range c.counts {
			list = append(list, trackOf(countingInputs(n)...))
		}
		if got := impl.KnownTicks(list); got != c.want {
			t.Errorf("KnownTicks of tracks with %v inputs = %d; want %d", c.counts, got, c.want)
		}
	}
	for _, bad := range badLists() {
		if got := impl.KnownTicks(bad); got != 0 {
			t.Errorf("KnownTicks(%v) = %d", bad, got)
		}
	}
}

func TestPredict(t *testing.T) {
	for _, c := range []struct {
		inputs []int
		tick   int
		want   int
	}{
		{nil, 0, 0}, {nil, 9, 0}, {nil, math.MaxInt, 0}, {[]int{6}, 0, 6}, {[]int{6}, 1, 2}, {[]int{6}, math.MaxInt, 2},
		{[]int{2, 9}, 0, 2}, {[]int{2, 9}, 1, 9}, {[]int{2, 9}, 2, 1}, {[]int{3, 12}, 2, 0}, {[]int{3, 12}, 1, 12}, {[]int{12, 15}, 5, 3},
		{countingInputs(400), 399, 15}, {countingInputs(400), 400, 3}, {countingInputs(400), 398, 14}, {countingInputs(400), 100000, 3},
	} {
		if got := impl.Predict(trackOf(c.inputs...), c.tick); got != c.want {
			t.Errorf("Predict(%v, %d) = %d; want %d", c.inputs, c.tick, got, c.want)
		}
	}
	for last := range 16 {
		if got := impl.Predict(trackOf(5, last), 2); got != last%4 {
			t.Errorf("Predict behind %d = %d", last, got)
		}
	}
	for _, tick := range []int{-1, -2, math.MinInt} {
		for _, good := range goodTracks() {
			if got := impl.Predict(good, tick); got != -1 {
				t.Errorf("Predict(%v, %d) = %d", good, tick, got)
			}
		}
	}
	for _, bad := range badTracks() {
		for _, tick := range []int{0, 1, 400, 2000, -1} {
			if got := impl.Predict(bad, tick); got != -1 {
				t.Errorf("Predict(%v, %d) = %d", bad, tick, got)
			}
		}
	}
}

func TestRowAt(t *testing.T) {
	list := tracksOf([]int{2, 2, 6}, []int{8}, []int{15, 13})
	for tick, want := range map[int][]int{0: {2, 8, 15}, 1: {2, 0, 13}, 2: {6, 0, 1}, 3: {2, 0, 1}, 400: {2, 0, 1}, math.MaxInt: {2, 0, 1}} {
		if row, known := impl.RowAt(list, tick); !slices.Equal(row, want) || known != (tick == 0) {
			t.Errorf("RowAt(%v, %d) = %v, %v; want %v", list, tick, row, known, want)
		}
	}
	if row, known := impl.RowAt(tracksOf(nil, []int{4}), 0); !slices.Equal(row, []int{0, 4}) || known {
		t.Errorf("RowAt beside an empty track = %v, %v", row, known)
	}
	full := tracksOf(countingInputs(400), countingInputs(400))
	for tick, want := range map[int][]int{399: {15, 15}, 400: {3, 3}} {
		if row, known := impl.RowAt(full, tick); !slices.Equal(row, want) || known != (tick == 399) {
			t.Errorf("RowAt of full tracks at %d = %v, %v", tick, row, known)
		}
	}
	for _, tick := range []int{-1, -400, math.MinInt} {
		if row, known := impl.RowAt(list, tick); len(row) != 0 || known {
			t.Errorf("RowAt(%v, %d) = %v, %v", list, tick, row, known)
		}
	}
	for _, bad := range badLists() {
		if row, known := impl.RowAt(bad, 0); len(row) != 0 || known {
			t.Errorf("RowAt(%v, 0) = %v, %v", bad, row, known)
		}
	}
}

func TestRowsAndPredictionsOfRandomTracks(t *testing.T) {
	r := rand.New(rand.NewSource(301))
	for range 300 {
		list := randomTracks(r)
		least := len(list[0].Inputs)
		for _, track := range list {
			least = min(least, len(track.Inputs))
		}
		for _, tick := range []int{0, least - 1, least, least + 1, 399, 400, r.Intn(401)} {
			if tick < 0 {
				continue
			}
			row, known := impl.RowAt(list, tick)
			if len(row) != len(list) || known != (tick < least) {
				t.Fatalf("RowAt(%v, %d) = %v, %v", list, tick, row, known)
			}
			for k, input := range row {
				if want := plainPredict(list[k].Inputs, tick); input != want || impl.Predict(list[k], tick) != want {
					t.Fatalf("RowAt(%v, %d) = %v; want %d for the track %d", list, tick, row, want, k)
				}
			}
		}
		if got := impl.KnownTicks(list); got != least {
			t.Fatalf("KnownTicks(%v) = %d; want %d", list, got, least)
		}
	}
}

func TestRowsOf(t *testing.T) {
	list := tracksOf([]int{1, 2, 3, 4, 5}, []int{6, 7, 8, 9})
	all := [][]int{{1, 6}, {2, 7}, {3, 8}, {4, 9}}
	for from := range 7 {
		for to := -2; to <= 4; to++ {
			want := [][]int{}
			if from < to {
				want = all[from:to]
			}
			if got := impl.RowsOf(list, from, to); !slices.EqualFunc(got, want, slices.Equal) {
				t.Errorf("RowsOf(%v, %d, %d) = %v; want %v", list, from, to, got, want)
			}
		}
		if got := impl.RowsOf(list, from, 5); len(got) != 0 {
			t.Errorf("RowsOf(%v, %d, 5) = %v", list, from, got)
		}
	}
	for _, c := range [][]int{{-1, 2}, {-1, -1}, {math.MinInt, 4}, {0, math.MaxInt}, {math.MaxInt, 4}, {math.MaxInt, math.MinInt}, {math.MinInt, math.MaxInt}} {
		if got := impl.RowsOf(list, c[0], c[1]); len(got) != 0 {
			t.Errorf("RowsOf(%v, %d, %d) = %v", list, c[0], c[1], got)
		}
	}
	for _, bad := range badLists() {
		if got := impl.RowsOf(bad, 0, 1); len(got) != 0 {
			t.Errorf("RowsOf(%v, 0, 1) = %v", bad, got)
		}
	}
	full := tracksOf(countingInputs(400))
	if got := impl.RowsOf(full, 0, 400); len(got) != 400 || got[399][0] != 15 || len(got[0]) != 1 {
		t.Errorf("RowsOf of a full track = %v", got)
	}
	if got := impl.RowsOf(full, 0, 401); len(got) != 0 {
		t.Errorf("RowsOf past a full track = %v", got)
	}
	if got := impl.RowsOf(tracksOf([]int{1}, nil), 0, 1); len(got) != 0 {
		t.Errorf("RowsOf beside an empty track = %v", got)
	}
}

func TestAddInputs(t *testing.T) {
	known := []int{4, 5, 6}
	for _, c := range []struct {
		first  int
		inputs []int
		want   []int
	}{
		{3, []int{7, 8}, []int{4, 5, 6, 7, 8}}, {3, []int{6}, []int{4, 5, 6, 6}}, {3, nil, known}, {2, nil, known}, {0, nil, known}, {0, []int{}, known},
		{0, []int{4}, known}, {0, []int{4, 5, 6}, known}, {1, []int{5}, known}, {2, []int{6}, known}, {1, []int{5, 6}, known},
		{0, []int{4, 5, 6, 7}, []int{4, 5, 6, 7}}, {2, []int{6, 0, 15}, []int{4, 5, 6, 0, 15}},
	} {
		got, ok := impl.AddInputs(trackOf(known...), c.first, c.inputs)
		if !slices.Equal(got.Inputs, c.want) || !ok {
			t.Errorf("AddInputs(%v, %d, %v) = %v, %v; want %v", known, c.first, c.inputs, got, ok, c.want)
		}
	}
	if got, ok := impl.AddInputs(impl.Track{}, 0, []int{9}); !slices.Equal(got.Inputs, []int{9}) || !ok {
		t.Errorf("AddInputs to an empty track = %v, %v", got, ok)
	}
	if got, ok := impl.AddInputs(impl.Track{}, 0, nil); len(got.Inputs) != 0 || !ok {
		t.Errorf("AddInputs of nothing to an empty track = %v, %v", got, ok)
	}
}

func TestAddInputsRejects(t *testing.T) {
	known := []int{4, 5, 6}
	for _, c := range []struct {
		first  int
		inputs []int
	}{
		{-1, nil}, {-1, []int{4}}, {math.MinInt, []int{4}}, {4, nil}, {4, []int{7}}, {5, []int{7}}, {400, nil}, {math.MaxInt, []int{7}}, {math.MaxInt, nil},
		{0, []int{5}}, {0, []int{4, 5, 7}}, {0, []int{4, 5, 7, 7}}, {0, []int{3, 5, 6, 7}}, {0, []int{4, 4, 6, 7}}, {2, []int{7, 7}}, {1, []int{6}}, {2, []int{0}},
		{3, make([]int, 398)}, {0, append([]int{4, 5, 6}, make([]int, 398)...)}, {3, make([]int, 5000)},
	} {
		got, ok := impl.AddInputs(trackOf(known...), c.first, c.inputs)
		if !slices.Equal(got.Inputs, known) || ok {
			t.Errorf("AddInputs(%v, %d, %v) = %v, %v", known, c.first, c.inputs, got, ok)
		}
	}
	for _, n := range noInputs() {
		for _, inputs := range [][]int{{n}, {7, n}, {n, 7}} {
			if got, ok := impl.AddInputs(trackOf(known...), 3, inputs); !slices.Equal(got.Inputs, known) || ok {
				t.Errorf("AddInputs of %v = %v, %v", inputs, got, ok)
			}
		}
		if got, ok := impl.AddInputs(trackOf(known...), 2, []int{n}); !slices.Equal(got.Inputs, known) || ok {
			t.Errorf("AddInputs of %d for a known tick = %v, %v", n, got, ok)
		}
	}
	for _, bad := range badTracks() {
		for _, inputs := range [][]int{nil, {0}} {
			if got, ok := impl.AddInputs(bad, 0, inputs); !slices.Equal(got.Inputs, bad.Inputs) || ok {
				t.Errorf("AddInputs(%v, 0, %v) = %v, %v", bad, inputs, got, ok)
			}
		}
	}
}

func TestAddInputsUpToTheLimit(t *testing.T) {
	full := countingInputs(400)
	for _, known := range []int{0, 1, 200, 399, 400} {
		for _, first := range []int{0, known / 2, known} {
			if got, ok := impl.AddInputs(trackOf(full[:known]...), first, full[first:]); !slices.Equal(got.Inputs, full) || !ok {
				t.Errorf("from %d to 400 inputs, told from %d on: %d, %v", known, first, len(got.Inputs), ok)
			}
			tooLong := append(slices.Clone(full[first:]), 0)
			if got, ok := impl.AddInputs(trackOf(full[:known]...), first, tooLong); !slices.Equal(got.Inputs, full[:known]) || ok {
				t.Errorf("from %d to 401 inputs, told from %d on: %d, %v", known, first, len(got.Inputs), ok)
			}
		}
	}
}

func TestSameTrack(t *testing.T) {
	tracks := []impl.Track{{}, trackOf(0), trackOf(0, 0), trackOf(1), trackOf(1, 0), trackOf(0, 1), trackOf(1, 2, 3), trackOf(1, 2, 4), trackOf(-5), trackOf(make([]int, 401)...)}
	for i, a := range tracks {
		for j, b := range tracks {
			if got := impl.SameTrack(a, impl.Track{Inputs: slices.Clone(b.Inputs)}); got != (i == j) {
				t.Errorf("SameTrack(%v, %v) = %v", a, b, got)
			}
		}
	}
	if !impl.SameTrack(impl.Track{}, impl.Track{Inputs: []int{}}) {
		t.Error("a track without inputs differs from one with none")
	}
}
