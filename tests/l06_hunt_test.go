package tests

import (
	"math"
	"math/rand"
	"testing"

	"loop.example/g03315/impl"
)

func TestSumsAgree(t *testing.T) {
	a, b := []int{5, 6, 7}, []int{5, 9, 7, 0}
	for _, c := range []struct {
		k    int
		want bool
	}{
		{0, true}, {1, false}, {2, true}, {3, false}, {4, false}, {1000000, false}, {math.MaxInt, false}, {-1, false}, {-3, false}, {math.MinInt, false},
	} {
		if impl.SumsAgree(a, b, c.k) != c.want || impl.SumsAgree(b, a, c.k) != c.want {
			t.Errorf("SumsAgree at %d is not %v", c.k, c.want)
		}
	}
	ticks := []int{math.MinInt, -4, -2, -1, 0, 1, 2, 3, 4, 5, 6, math.MaxInt}
	eachPair(shortLists(4), func(a []int, b []int) {
		for _, k := range ticks {
			if got := impl.SumsAgree(a, b, k); got != plainAgree(a, b, k) {
				t.Fatalf("SumsAgree of %v and %v at %d = %v", a, b, k, got)
			}
		}
	})
	if !impl.SumsAgree([]int{math.MinInt}, []int{math.MinInt}, 0) || impl.SumsAgree([]int{math.MinInt}, []int{math.MaxInt}, 0) {
		t.Error("SumsAgree of the least number")
	}
}

func TestFirstDifference(t *testing.T) {
	for _, c := range []struct {
		a, b []int
		want int
	}{
		{nil, nil, -1}, {nil, []int{1}, -1}, {[]int{}, []int{1, 2}, -1}, {[]int{1}, []int{1}, -1}, {[]int{1}, []int{2}, 0}, {[]int{1, 2}, []int{1}, -1},
		{[]int{1, 2}, []int{1, 3}, 1}, {[]int{1, 2, 3}, []int{1, 2, 4, 5}, 2}, {[]int{1, 2, 3}, []int{1, 4, 3}, 1}, {[]int{1, 2, 3}, []int{0, 2, 3}, 0},
		{[]int{1, 2, 3}, []int{1, 2, 3, 4, 5}, -1}, {[]int{math.MinInt, -1}, []int{math.MinInt, math.MaxInt}, 1},
	} {
		if got, back := impl.FirstDifference(c.a, c.b), impl.FirstDifference(c.b, c.a); got != c.want || back != c.want {
			t.Errorf("FirstDifference of %v and %v = %d, and the other way round %d; want %d", c.a, c.b, got, back, c.want)
		}
	}
	eachPair(shortLists(5), func(a []int, b []int) {
		if got := impl.FirstDifference(a, b); got != plainFirst(a, b) {
			t.Fatalf("FirstDifference of %v and %v = %d", a, b, got)
		}
	})
}

// checkStart compares a new hunt; the index -1 is for none.
func checkStart(t *testing.T, a []int, b []int, high int) {
	t.Helper()
	var want impl.Hunt
	if high >= 0 {
		want = impl.Hunt{High: high, Steps: 2}
	}
	if h, ok := impl.StartHunt(a, b); h != want || ok != (high >= 0) {
		t.Fatalf("StartHunt of %s and %s = %v, %v; want %v", brief(a), brief(b), h, ok, want)
	}
}

func TestStartHunt(t *testing.T) {
	for _, c := range []struct {
		a, b []int
		high int
	}{
		{nil, nil, -1}, {nil, []int{1}, -1}, {[]int{}, []int{1, 2}, -1}, {[]int{1}, []int{1}, -1}, {[]int{1}, []int{2}, -1}, {[]int{1}, []int{1, 2}, -1},
		{[]int{1}, []int{2, 2}, -1}, {[]int{1, 2}, []int{1, 2}, -1}, {[]int{1, 2}, []int{1, 3}, 1}, {[]int{1, 2}, []int{2, 3}, -1}, {[]int{1, 2}, []int{0, 2}, -1},
		{[]int{1, 2, 3}, []int{1, 3}, 1}, {[]int{1, 2, 3}, []int{1, 2}, -1}, {[]int{1, 2, 3}, []int{1, 4, 3}, -1}, {[]int{1, 2, 3, 4}, []int{1, 2, 4}, 2},
		{[]int{1, 2, 3, 4}, []int{1, 9, 3, 5}, 3},
	} {
		checkStart(t, c.a, c.b, c.high)
		checkStart(t, c.b, c.a, c.high)
	}
	eachPair(shortLists(5), func(a []int, b []int) {
		high, last := -1, min(len(a), len(b))-1
		if last >= 0 && a[0] == b[0] && a[last] != b[last] {
			high = last
		}
		checkStart(t, a, b, high)
	})
}

func TestProbeOf(t *testing.T) {
	for _, c := range []struct{ low, high, want int }{
		{0, 2, 1}, {0, 3, 1}, {0, 4, 2}, {0, 5, 2}, {1, 4, 2}, {2, 5, 3}, {3, 5, 4}, {0, 1, -1}, {0, 0, -1}, {1, 0, -1}, {4, 5, -1}, {5, 5, -1}, {6, 5, -1},
		{-1, 5, -1}, {-2, 5, -1}, {-1, 1, -1}, {-5, -1, -1}, {-3, -3, -1}, {0, -1, -1}, {0, -2, -1},
		{0, 1000000, 500000}, {0, 999999, 499999}, {999998, 1000000, 999999}, {999997, 1000000, 999998}, {999999, 1000000, -1}, {1000000, 1000000, -1},
		{0, 1000001, -1}, {999999, 1000001, -1}, {999998, 1000001, -1}, {0, math.MaxInt, -1}, {math.MaxInt - 2, math.MaxInt, -1}, {math.MaxInt, math.MaxInt, -1},
		{math.MinInt, 10, -1}, {math.MinInt, math.MinInt, -1}, {0, math.MinInt, -1}, {5, math.MinInt, -1}, {0, math.MinInt + 1, -1}, {math.MaxInt, math.MinInt, -1},
		{math.MinInt, math.MaxInt, -1}, {math.MaxInt, 5, -1}, {math.MaxInt - 1, 5, -1},
	} {
		for _, steps := range []int{0, 2, 1000000, 1000001, -1, math.MinInt} {
			if got := impl.ProbeOf(impl.Hunt{Low: c.low, High: c.high, Steps: steps}); got != c.want {
				t.Errorf("ProbeOf of %d to %d with %d steps = %d; want %d", c.low, c.high, steps, got, c.want)
			}
		}
	}
	for low := -4; low < 20; low++ {
		for high := -4; high < 20; high++ {
			want := -1
			if low >= 0 && low <= high-2 {
				want = (low + high) / 2
			}
			if got := impl.ProbeOf(impl.Hunt{Low: low, High: high}); got != want {
				t.Errorf("ProbeOf of %d to %d = %d; want %d", low, high, got, want)
			}
		}
	}
}

func TestNarrow(t *testing.T) {
	for _, c := range []struct{ hunt, agree, differ impl.Hunt }{
		{impl.Hunt{High: 5, Steps: 2}, impl.Hunt{Low: 2, High: 5, Steps: 3}, impl.Hunt{High: 2, Steps: 3}},
		{impl.Hunt{Low: 3, High: 5, Steps: 7}, impl.Hunt{Low: 4, High: 5, Steps: 8}, impl.Hunt{Low: 3, High: 4, Steps: 8}},
		{impl.Hunt{High: 2}, impl.Hunt{Low: 1, High: 2, Steps: 1}, impl.Hunt{High: 1, Steps: 1}},
		{impl.Hunt{High: 1000000, Steps: 2}, impl.Hunt{Low: 500000, High: 1000000, Steps: 3}, impl.Hunt{High: 500000, Steps: 3}},
		{impl.Hunt{High: 8, Steps: 999998}, impl.Hunt{Low: 4, High: 8, Steps: 999999}, impl.Hunt{High: 4, Steps: 999999}},
		{impl.Hunt{High: 8, Steps: 999999}, impl.Hunt{Low: 4, High: 8, Steps: 1000000}, impl.Hunt{High: 4, Steps: 1000000}},
		{impl.Hunt{High: 8, Steps: 1000000}, impl.Hunt{Low: 4, High: 8, Steps: 1000000}, impl.Hunt{High: 4, Steps: 1000000}},
		{impl.Hunt{High: 8, Steps: 1000001}, impl.Hunt{Low: 4, High: 8, Steps: 1000001}, impl.Hunt{High: 4, Steps: 1000001}},
		{impl.Hunt{High: 8, Steps: math.MaxInt}, impl.Hunt{Low: 4, High: 8, Steps: math.MaxInt}, impl.Hunt{High: 4, Steps: math.MaxInt}},
		{impl.Hunt{High: 8, Steps: -7}, impl.Hunt{Low: 4, High: 8, Steps: -6}, impl.Hunt{High: 4, Steps: -6}},
	} {
		if got := impl.Narrow(c.hunt, true); got != c.agree {
			t.Errorf("Narrow of %v that agrees = %v; want %v", c.hunt, got, c.agree)
		}
		if got := impl.Narrow(c.hunt, false); got != c.differ {
			t.Errorf("Narrow of %v that differs = %v; want %v", c.hunt, got, c.differ)
		}
	}
	for _, h := range []impl.Hunt{
		{}, {High: 1, Steps: 2}, {Low: 4, High: 5, Steps: 9}, {Low: 5, High: 5}, {Low: 6, High: 5}, {Low: -1, High: 5, Steps: 3}, {High: 1000001, Steps: 2},
		{Low: 999999, High: 1000001}, {High: math.MaxInt}, {High: math.MinInt}, {Low: math.MaxInt, High: math.MinInt}, {Low: math.MinInt, High: 9},
	} {
		if yes, no := impl.Narrow(h, true), impl.Narrow(h, false); yes != h || no != h {
			t.Errorf("Narrow of %v = %v and %v; want no change", h, yes, no)
		}
	}
}

func checkRun(t *testing.T, a []int, b []int, at int, steps int) {
	t.Helper()
	if k, n := impl.RunHunt(a, b); k != at || n != steps {
		t.Fatalf("RunHunt of %s and %s = %d, %d; want %d, %d", brief(a), brief(b), k, n, at, steps)
	}
}

func TestRunHunt(t *testing.T) {
	checkRun(t, []int{1, 2, 3, 4, 5, 6}, []int{1, 2, 3, 9, 9, 9}, 3, 4)
	checkRun(t, []int{1, 2, 3, 4, 5, 6}, []int{1, 2, 3, 4, 5, 9}, 5, 5)
	checkRun(t, []int{1, 2, 3, 4, 5, 6}, []int{1, 9, 9, 9, 9, 9, 9}, 1, 4)
	checkRun(t, []int{1, 2}, []int{1, 3}, 1, 2)
	checkRun(t, []int{1, 2, 3}, []int{1, 2, 4}, 2, 3)
	// The lists need not differ from the first difference on: some difference behind an agreement is
	// found even so.
	checkRun(t, []int{1, 2, 3, 4, 5, 6}, []int{1, 9, 3, 4, 5, 9}, 5, 5)
	for _, none := range [][2][]int{
		{nil, nil}, {nil, {1}}, {{1}, {1}}, {{1}, {2}}, {{1, 2}, {1, 2}}, {{1, 2}, {3, 4}}, {{1, 2, 3}, {1, 4, 3}}, {{1, 2, 3}, {1, 2}}, {{1, 2}, {2, 2}},
	} {
		checkRun(t, none[0], none[1], -1, 0)
		checkRun(t, none[1], none[0], -1, 0)
	}
	eachPair(shortLists(6), func(a []int, b []int) {
		at, steps := plainHunt(a, b)
		checkRun(t, a, b, at, steps)
	})
}

// TestRunHuntIsNarrowAgainAndAgain compares a hunt with its steps, each on its own.
func TestRunHuntIsNarrowAgainAndAgain(t *testing.T) {
	r := rand.New(rand.NewSource(601))
	for range 3000 {
		a, b := partingLists(1+r.Intn(300), 1+r.Intn(300), r.Intn(300))
		for range r.Intn(3) * r.Intn(20) {
			b[r.Intn(len(b))]++
		}
		h, ok := impl.StartHunt(a, b)
		for ok && impl.ProbeOf(h) != -1 {
			probe, before := impl.ProbeOf(h), h
			h = impl.Narrow(h, impl.SumsAgree(a, b, probe))
			if h.High-h.Low >= before.High-before.Low || !impl.SumsAgree(a, b, h.Low) || impl.SumsAgree(a, b, h.High) {
				t.Fatalf("Narrow of %v = %v", before, h)
			}
		}
		at, steps := -1, 0
		if ok {
			at, steps = h.High, h.Steps
		}
		checkRun(t, a, b, at, steps)
		if ok && (impl.SumsAgree(a, b, at) || !impl.SumsAgree(a, b, at-1)) {
			t.Fatalf("RunHunt of %v and %v finds %d, where no difference begins", a, b, at)
		}
	}
}

// TestRunHuntOfLongLists has the last lists that are looked through, and the first ones that are not.
func TestRunHuntOfLongLists(t *testing.T) {
	a, b := partingLists(1000003, 1000002, 1)
	checkRun(t, a, b, 1000001, 2)
	checkRun(t, b, a, 1000001, 2)
	checkRun(t, a, b[:1000001], 1, 21)
	checkRun(t, a[:1000001], b, 1, 21)
	for _, at := range []int{499999, 500000, 500001, 777777, 999999, 1000000} {
		for k := range b {
			b[k] = a[k]
			if k >= at {
				b[k]++
			}
		}
		wantAt, steps := plainHunt(a, b[:1000001])
		if wantAt != at || steps > 22 {
			t.Fatalf("%d steps to %d", steps, wantAt)
		}
		checkRun(t, a, b[:1000001], at, steps)
		checkRun(t, a, b, 1000001, 2)
	}
	b[1000001] = a[1000001]
	checkRun(t, a, b, -1, 0)
}
