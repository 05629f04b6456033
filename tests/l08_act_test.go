package tests

import (
	"math"
	"math/rand"
	"testing"

	"loop.example/g03315/impl"
)

// wantAct sees what an act does.
func wantAct(t *testing.T, m impl.Match, a impl.Act, want impl.Match, wantOk bool) {
	t.Helper()
	got, ok := impl.DoAct(m, a)
	mustMatch(t, "DoAct of "+brief(a), got, ok, want, wantOk)
	wantMatch(t, "RunActs of "+brief(a), impl.RunActs(m, []impl.Act{a}), want)
}

func TestActRun(t *testing.T) {
	m := busyMatch(t)
	for _, n := range []int{0, 1, 2, 59, 60} {
		want := m
		for range n {
			want = impl.StepMatch(want)
		}
		// Only N counts.
		wantAct(t, m, impl.Act{Kind: impl.ActRun, From: -4, To: 9, N: n, Wire: impl.Wire{Delay: -1}}, want, true)
	}
	for _, n := range []int{-1, 61, 1000, 1001, math.MinInt, math.MaxInt} {
		wantAct(t, m, impl.Act{Kind: impl.ActRun, N: n}, m, false)
	}
	m.Clock = 1000
	wantAct(t, m, impl.Act{Kind: impl.ActRun, N: 5}, m, true)
	m.Clock = 998
	wantAct(t, m, impl.Act{Kind: impl.ActRun, N: 60}, impl.StepMatch(impl.StepMatch(m)), true)
}

func TestActWire(t *testing.T) {
	m := busyMatch(t)
	want, _ := impl.SetWire(m, 2, 0, busyWire())
	wantAct(t, m, impl.Act{Kind: impl.ActWire, From: 2, To: 0, N: -1, Wire: busyWire()}, want, true)
	for _, bad := range badWires()[:30] {
		wantAct(t, m, impl.Act{Kind: impl.ActWire, From: 2, To: 0, Wire: bad}, m, false)
	}
	for _, pair := range pairsOfNobody() {
		wantAct(t, m, impl.Act{Kind: impl.ActWire, From: pair[0], To: pair[1]}, m, false)
	}
}

func TestActJoinAndMend(t *testing.T) {
	m := busyMatch(t)
	joined, ok := impl.JoinWatcher(m)
	if !ok || len(joined.Watchers) != 3 {
		t.Fatal("nobody joins")
	}
	odd := impl.Act{From: -4, To: 9, N: -3, Wire: impl.Wire{Delay: -1}}
	odd.Kind = impl.ActJoin
	wantAct(t, m, odd, joined, true)
	wantAct(t, joined, odd, joined, false)
	odd.Kind = impl.ActMend
	wantAct(t, m, odd, impl.MendWires(m), true)
	wantAct(t, joined, odd, impl.MendWires(joined), true)
}

func TestActDrop(t *testing.T) {
	m := busyMatch(t)
	for i := range 3 {
		for j := range 3 {
			want := copiedMatch(m)
			if i != j {
				if len(want.Wires[i][j].Flights) == 0 {
					t.Fatal("nothing is on its way")
				}
				want.Wires[i][j].Flights = nil
			}
			wantAct(t, m, impl.Act{Kind: impl.ActDrop, From: i, To: j, N: -1, Wire: impl.Wire{Delay: -1}}, want, i != j)
			wantAct(t, want, impl.Act{Kind: impl.ActDrop, From: i, To: j}, want, i != j)
		}
	}
	for _, pair := range pairsOfNobody() {
		wantAct(t, m, impl.Act{Kind: impl.ActDrop, From: pair[0], To: pair[1]}, m, false)
	}
}

func TestNoAct(t *testing.T) {
	m := busyMatch(t)
	for _, kind := range outside(impl.ActRun, impl.ActDrop) {
		wantAct(t, m, impl.Act{Kind: kind, To: 1, N: 1}, m, false)
	}
	wantMatch(t, "RunActs of nothing", impl.RunActs(m, nil), m)
}

// randomAct is an act, now and then one that fails.
func randomAct(r *rand.Rand, players int) impl.Act {
	a := impl.Act{Kind: []int{0, 0, 0, 1, 1, 2, 4, 4, 3, r.Intn(7) - 1}[r.Intn(10)], From: r.Intn(players), To: r.Intn(players), N: r.Intn(40), Wire: roughWire(r)}
	if r.Intn(12) == 0 {
		a.From, a.To, a.N, a.Wire.Delay = r.Intn(6)-1, r.Intn(6)-1, []int{-1, 61}[r.Intn(2)], 13
	}
	return a
}

// TestActsFollowOneAnother performs acts at once, in two parts, and one by one. Those that fail are left
// out.
func TestActsFollowOneAnother(t *testing.T) {
	r := rand.New(rand.NewSource(808))
	failed := 0
	for range 15 {
		players := 1 + r.Intn(4)
		m := roughMatch(t, r, players)
		var list []impl.Act
		for range 10 {
			list = append(list, randomAct(r, players))
		}
		one := m
		var done []impl.Act
		for _, a := range list {
			next, ok := impl.DoAct(one, a)
			if ok {
				done = append(done, a)
			} else {
				wantMatch(t, "an act that fails", next, one)
				failed++
			}
			one = next
		}
		cut := r.Intn(len(list))
		wantMatch(t, "RunActs", impl.RunActs(m, list), one)
		wantMatch(t, "RunActs in two parts", impl.RunActs(impl.RunActs(m, list[:cut]), list[cut:]), one)
		wantMatch(t, "RunActs of those that do not fail", impl.RunActs(m, done), one)
	}
	if failed < 10 {
		t.Errorf("only %d acts fail", failed)
	}
}
