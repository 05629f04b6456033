package tests

import (
	"math"
	"math/rand"
	"strings"
	"testing"

	"loop.example/g03315/impl"
)

// percents are percents at, beside and far from the limits.
func percents() []int {
	return []int{math.MinInt, -1, 0, 1, 2, 38, 39, 50, 95, 96, 99, 100, 101, math.MaxInt}
}

func TestChance(t *testing.T) {
	for _, c := range []struct{ seed, percent, next, n int }{
		{1, 38, 39022, 38}, {1, 39, 39022, 38}, {0, 65, 13849, 65}, {0, 66, 13849, 65}, {65535, 7, 54212, 88}, {65535, 89, 54212, 88}, {5, 40, 8642, 40}, {5, 41, 8642, 40},
	} {
		if next, hit := impl.Chance(c.seed, c.percent); next != c.next || hit != (c.n < c.percent) {
			t.Errorf("Chance(%d, %d) = %d, %v", c.seed, c.percent, next, hit)
		}
	}
	for _, percent := range percents() {
		for seed := range 65536 {
			d := dice{seed}
			want := d.below(100) < percent
			if next, hit := impl.Chance(seed, percent); next != d.seed || hit != want {
				t.Fatalf("Chance(%d, %d) = %d, %v; want %d, %v", seed, percent, next, hit, d.seed, want)
			}
		}
	}
}

// TestChancesAreFair counts over all seeds: 4096 numbers, 16 times each, modulo 100.
func TestChancesAreFair(t *testing.T) {
	for percent := range 101 {
		hits := 0
		for seed := range 65536 {
			if _, hit := impl.Chance(seed, percent); hit {
				hits++
			}
		}
		if want := 16 * (40*percent + min(percent, 96)); hits != want {
			t.Errorf("%d hits with %d percent; want %d", hits, percent, want)
		}
	}
}

func TestChanceOfNoSeed(t *testing.T) {
	for _, seed := range outside(0, 65535) {
		for _, percent := range percents() {
			if next, hit := impl.Chance(seed, percent); next != 0 || hit != (percent > 0) {
				t.Errorf("Chance(%d, %d) = %d, %v", seed, percent, next, hit)
			}
		}
	}
}

func TestSpoilByte(t *testing.T) {
	for _, c := range []struct {
		seed int
		s    string
		next int
		want string
	}{
		// 2 of 3, and 247 plus 1; and 0 of 2, and 0 plus 1.
		{1, "abc", 61087, "ab" + string([]byte{'c' ^ 248})}, {7, "ab", 4085, "`b"},
	} {
		if next, got := impl.SpoilByte(c.seed, c.s); next != c.next || got != c.want {
			t.Errorf("SpoilByte(%d, %q) = %d, %q; want %d, %q", c.seed, c.s, next, got, c.next, c.want)
		}
	}
	places, changes := map[int]bool{}, map[byte]bool{}
	for seed := range 65536 {
		for _, s := range []string{"\x00", "seven b", strings.Repeat("\xff", 40)} {
			d := dice{seed}
			want := plainSpoil(&d, s)
			next, got := impl.SpoilByte(seed, s)
			if next != d.seed || got != want {
				t.Fatalf("SpoilByte(%d, %q) = %d, %q; want %d, %q", seed, s, next, got, d.seed, want)
			}
			at, n := differences(got, s)
			if n != 1 || len(got) != len(s) {
				t.Fatalf("SpoilByte(%d, %q) = %q, with %d bytes changed", seed, s, got, n)
			}
			places[at], changes[got[at]^s[at]] = true, true
		}
	}
	if len(places) != 40 || len(changes) != 255 || changes[0] {
		t.Errorf("only the bytes at %v are changed, or only by %v", places, changes)
	}
}

// differences are the last place at which two texts have different bytes, and the number of such places.
func differences(a string, b string) (int, int) {
	at, n := -1, 0
	for i := range min(len(a), len(b)) {
		if a[i] != b[i] {
			at = i
			n++
		}
	}
	return at, n
}

func TestSpoilByteAtItsLimits(t *testing.T) {
	for _, length := range []int{1, 2, 4095, 4096} {
		s := strings.Repeat("x", length)
		for _, seed := range []int{0, 1, 30000, 65534, 65535} {
			d := dice{seed}
			want := plainSpoil(&d, s)
			if next, got := impl.SpoilByte(seed, s); next != d.seed || got != want || got == s {
				t.Errorf("SpoilByte(%d, %d bytes) = %d, %.20q", seed, length, next, got)
			}
		}
	}
	unchanged := func(seed int, s string) {
		t.Helper()
		if next, got := impl.SpoilByte(seed, s); next != seed || got != s {
			t.Errorf("SpoilByte(%d, %d bytes) = %d, %.20q", seed, len(s), next, got)
		}
	}
	for _, seed := range []int{0, 1, 65535} {
		for _, length := range []int{0, 4097, 4098, 20000, 70000} {
			unchanged(seed, strings.Repeat("x", length))
		}
	}
	for _, seed := range outside(0, 65535) {
		for _, s := range []string{"", "x", "text", strings.Repeat("x", 4096), strings.Repeat("x", 4097)} {
			unchanged(seed, s)
		}
	}
}

// TestSendWire follows six texts: two flights, one, one, one with damage, two, and none.
func TestSendWire(t *testing.T) {
	w := impl.Wire{Seed: 5, Delay: 3, Jitter: 4, Loss: 30, Copies: 40, Damage: 50, Now: 10}
	flights := []impl.Flight{
		{At: 14, Data: "abc"}, {At: 15, Data: "abc"}, {At: 16, Data: "defg"}, {At: 16, Data: "h"}, {At: 14, Data: "\x1cj"}, {At: 15, Data: "klmno"}, {At: 17, Data: "klmno"},
	}
	for k, c := range []struct {
		data    string
		seed    int
		flights int
		lost    int
	}{{"abc", 57519, 2, 0}, {"defg", 28699, 3, 0}, {"h", 10695, 4, 0}, {"ij", 1857, 5, 0}, {"klmno", 3147, 7, 0}, {"pq", 256, 7, 1}} {
		want := w
		want.Seed, want.Sent, want.Lost, want.Flights = c.seed, k+1, c.lost, flights[:c.flights]
		w = checkSend(t, w, c.data, want)
	}
	for range 7 {
		w = impl.TickWire(w)
	}
	checkArrive(t, w, changedWire(w, func(w *impl.Wire) { w.Flights = nil }), []string{"abc", "\x1cj", "abc", "klmno", "defg", "h", "klmno"})
}

// checkSend sees what SendWire gives, and returns it.
func checkSend(t *testing.T, w impl.Wire, data string, want impl.Wire) impl.Wire {
	t.Helper()
	got := impl.SendWire(w, data)
	if !sameWire(got, want) || impl.WireOk(got) != impl.WireOk(w) {
		t.Fatalf("SendWire of %s with %.40q = %s; want %s", brief(w), data, brief(got), brief(want))
	}
	return got
}

// TestSendWireByPercents has the percents 0 and 100, alone and together, and those beside them.
func TestSendWireByPercents(t *testing.T) {
	for _, loss := range []int{0, 1, 99, 100} {
		for _, copies := range []int{0, 1, 99, 100} {
			for _, damage := range []int{0, 1, 99, 100} {
				w := impl.Wire{Seed: 77, Delay: 2, Jitter: 1, Loss: loss, Copies: copies, Damage: damage}
				for range 100 {
					before := w
					w = checkSend(t, w, "data", plainSend(w, "data"))
					checkCertain(t, before, w)
					w.Flights = nil
				}
			}
		}
	}
}

// checkCertain sees that nothing happens with 0 percent, and that it always does with 100.
func checkCertain(t *testing.T, before impl.Wire, w impl.Wire) {
	t.Helper()
	flights, lost := len(w.Flights), w.Lost-before.Lost
	if w.Loss == 0 && lost != 0 || w.Loss == 100 && (lost != 1 || flights != 0) {
		t.Fatalf("%d lost with %d percent", lost, w.Loss)
	}
	if w.Copies == 0 && flights > 1 || w.Copies == 100 && flights == 1 || lost == 0 && flights == 0 {
		t.Fatalf("%d flights with %d percent", flights, w.Copies)
	}
	for _, f := range w.Flights {
		if w.Damage == 0 && f.Data != "data" || w.Damage == 100 && f.Data == "data" {
			t.Fatalf("%q with the damage of %d percent", f.Data, w.Damage)
		}
	}
}

func TestSendWireOfData(t *testing.T) {
	for _, w := range []impl.Wire{{}, {Damage: 100}, busyWire(), {Seed: 9, Delay: 12, Jitter: 12, Copies: 100, Damage: 100, Now: 1000000}} {
		for _, length := range []int{1, 2, 4095, 4096} {
			data := strings.Repeat("\x00", length)
			checkSend(t, w, data, plainSend(w, data))
		}
		for _, length := range []int{0, 4097, 4098, 20000, 20001} {
			checkSend(t, w, strings.Repeat("\x00", length), w)
		}
	}
}

func TestSendWireRejects(t *testing.T) {
	for _, bad := range badWires() {
		for _, data := range []string{"", "data", strings.Repeat("x", 4096), strings.Repeat("x", 4097)} {
			checkSend(t, bad, data, bad)
		}
	}
}

// TestSendWireWithoutRoom has wires with the greatest number of flights and a few less.
func TestSendWireWithoutRoom(t *testing.T) {
	for flights := 196; flights <= 200; flights++ {
		for _, percent := range []int{0, 100} {
			w := impl.Wire{Seed: 3, Delay: 1, Jitter: 3, Copies: percent, Damage: 100 - percent, Now: 50, Flights: manyFlights(52, flights), Lost: 4}
			made := 1 + percent/100
			want := plainSend(w, "data")
			if len(want.Flights) != min(flights+made, 200) || want.Lost != 4+max(flights+made-200, 0) || want.Sent != 1 {
				t.Fatal("the second reading is wrong", want)
			}
			w = checkSend(t, w, "data", want)
			// A flight without room has taken its random steps.
			roomy := impl.Wire{Seed: 3, Delay: 1, Jitter: 3, Copies: percent, Damage: 100 - percent, Now: 50}
			if got := impl.SendWire(roomy, "data"); got.Seed != w.Seed || len(got.Flights) != made {
				t.Errorf("the seed is %d without room, and %d otherwise", w.Seed, got.Seed)
			}
		}
	}
}

func TestSendWireCountsUpToItsLimit(t *testing.T) {
	for _, c := range []struct{ sent, lost, loss, copies, flights, wantSent, wantLost int }{
		{999999, 999999, 100, 0, 0, 1000000, 1000000}, {1000000, 1000000, 100, 0, 0, 1000000, 1000000}, {1000000, 999998, 100, 0, 0, 1000000, 999999},
		{999998, 1000000, 0, 0, 0, 999999, 1000000}, {0, 999999, 0, 100, 200, 1, 1000000}, {0, 999998, 0, 100, 200, 1, 1000000}, {0, 1000000, 0, 100, 200, 1, 1000000},
		{0, 1000000, 0, 100, 199, 1, 1000000}, {0, 999999, 0, 100, 199, 1, 1000000}, {7, 999997, 0, 100, 200, 8, 999999},
	} {
		w := impl.Wire{Seed: 8, Loss: c.loss, Copies: c.copies, Flights: manyFlights(3, c.flights), Sent: c.sent, Lost: c.lost}
		got := checkSend(t, w, "data", plainSend(w, "data"))
		if got.Sent != c.wantSent || got.Lost != c.wantLost {
			t.Errorf("SendWire with %v gives Sent %d and Lost %d", c, got.Sent, got.Lost)
		}
	}
}

func TestSendWireOnRandomWires(t *testing.T) {
	r := rand.New(rand.NewSource(502))
	for range 2000 {
		w := randomWire(r)
		for range 1 + r.Intn(8) {
			data := randomText(r, "\x00az\xff", 1+r.Intn(12))
			w = checkSend(t, w, data, plainSend(w, data))
		}
	}
}
