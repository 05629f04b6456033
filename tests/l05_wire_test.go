package tests

import (
	"math/rand"
	"slices"
	"strings"
	"testing"

	"loop.example/g03315/impl"
)

// goodWires are valid wires, the least and the greatest among them.
func goodWires() []impl.Wire {
	list := []impl.Wire{{}, busyWire(), greatestWire(), {Flights: manyFlights(0, 199)}, {Flights: flightsAt(0, 1100000)}}
	for _, how := range []func(w *impl.Wire){
		func(w *impl.Wire) { w.Seed = 65535 }, func(w *impl.Wire) { w.Delay = 12 }, func(w *impl.Wire) { w.Jitter = 12 },
		func(w *impl.Wire) { w.Loss = 100 }, func(w *impl.Wire) { w.Copies = 100 }, func(w *impl.Wire) { w.Damage = 100 },
		func(w *impl.Wire) { w.Now = 1000000 }, func(w *impl.Wire) { w.Sent = 1000000 }, func(w *impl.Wire) { w.Lost = 1000000 },
		func(w *impl.Wire) { w.Flights = []impl.Flight{} }, func(w *impl.Wire) { w.Flights[5].Data = strings.Repeat("x", 20000) },
		func(w *impl.Wire) { w.Flights[0] = impl.Flight{Data: "\x00"} },
		// Neither must more be lost than was sent, nor must flights arrive soon.
		func(w *impl.Wire) { w.Sent, w.Lost = 0, 7 }, func(w *impl.Wire) { w.Now, w.Flights = 0, flightsAt(500000) },
	} {
		list = append(list, changedWire(busyWire(), how))
	}
	return list
}

func TestWireOk(t *testing.T) {
	for _, good := range goodWires() {
		if !impl.WireOk(good) {
			t.Errorf("WireOk is false for %s", brief(good))
		}
	}
	for _, bad := range badWires() {
		if impl.WireOk(bad) {
			t.Errorf("WireOk is true for %s", brief(bad))
		}
	}
}

func TestNewWire(t *testing.T) {
	check := func(numbers [6]int, want bool) {
		t.Helper()
		w, ok := impl.NewWire(numbers[0], numbers[1], numbers[2], numbers[3], numbers[4], numbers[5])
		var wanted impl.Wire
		if want {
			wanted = impl.Wire{Seed: numbers[0], Delay: numbers[1], Jitter: numbers[2], Loss: numbers[3], Copies: numbers[4], Damage: numbers[5]}
		}
		if ok != want || !sameWire(w, wanted) || ok != impl.WireQuiet(w) && want {
			t.Errorf("NewWire of %v = %v, %v", numbers, w, ok)
		}
	}
	limits := [6]int{65535, 12, 12, 100, 100, 100}
	for _, numbers := range [][6]int{{}, limits, {1, 2, 3, 4, 5, 6}, {100, 6, 5, 4, 3, 2}} {
		check(numbers, true)
		for k, limit := range limits {
			changed := numbers
			for _, n := range []int{0, 1, limit - 1, limit} {
				changed[k] = n
				check(changed, true)
			}
			for _, n := range outside(0, limit) {
				changed[k] = n
				check(changed, false)
			}
		}
	}
}

func TestTickWire(t *testing.T) {
	for _, now := range []int{0, 1, 20, 999998, 999999, 1000000} {
		for _, good := range goodWires() {
			good.Now = now
			want := good
			if now < 1000000 {
				want.Now++
			}
			if got := impl.TickWire(good); !sameWire(got, want) || !impl.WireOk(got) {
				t.Errorf("TickWire of %s = %s", brief(good), brief(got))
			}
		}
	}
	for _, bad := range badWires() {
		if got := impl.TickWire(bad); !sameWire(got, bad) {
			t.Errorf("TickWire of %s = %s", brief(bad), brief(got))
		}
	}
}

func TestWireQuiet(t *testing.T) {
	for _, good := range goodWires() {
		if got := impl.WireQuiet(good); got != (len(good.Flights) == 0) {
			t.Errorf("WireQuiet of %s = %v", brief(good), got)
		}
		good.Flights = nil
		if !impl.WireQuiet(good) {
			t.Errorf("WireQuiet of %v is false", good)
		}
		good.Flights = flightsAt(0)
		if impl.WireQuiet(good) {
			t.Errorf("WireQuiet of %v is true", good)
		}
	}
	for _, bad := range badWires() {
		if impl.WireQuiet(bad) {
			t.Errorf("WireQuiet of %s is true", brief(bad))
		}
	}
	for _, n := range outside(0, 65535) {
		if impl.WireQuiet(impl.Wire{Seed: n}) {
			t.Errorf("WireQuiet is true with the seed %d", n)
		}
	}
}

// arrivedOf is what arrives of busyWire and remains of it, each named by its number.
type arrivedOf struct {
	now     int
	arrived []int
	remains []int
}

func TestArriveWire(t *testing.T) {
	all := busyWire().Flights
	for _, c := range []arrivedOf{
		{0, nil, []int{0, 1, 2, 3, 4, 5}}, {18, nil, []int{0, 1, 2, 3, 4, 5}}, {19, []int{1, 4}, []int{0, 2, 3, 5}}, {20, []int{1, 4, 3, 5}, []int{0, 2}},
		{21, []int{1, 4, 3, 5, 0}, []int{2}}, {23, []int{1, 4, 3, 5, 0}, []int{2}}, {24, []int{1, 4, 3, 5, 0, 2}, nil}, {1000000, []int{1, 4, 3, 5, 0, 2}, nil},
	} {
		w := busyWire()
		w.Now = c.now
		want, wantList := w, []string(nil)
		want.Flights = nil
		for _, k := range c.arrived {
			wantList = append(wantList, all[k].Data)
		}
		for _, k := range c.remains {
			want.Flights = append(want.Flights, all[k])
		}
		checkArrive(t, w, want, wantList)
		// What has arrived does not arrive again.
		checkArrive(t, want, want, nil)
	}
}

func checkArrive(t *testing.T, w impl.Wire, want impl.Wire, wantList []string) {
	t.Helper()
	if got, list := impl.ArriveWire(w); !sameWire(got, want) || !slices.Equal(list, wantList) {
		t.Errorf("ArriveWire of %s = %s, %s; want %s, %s", brief(w), brief(got), brief(list), brief(want), brief(wantList))
	}
}

func TestArriveWireAtItsLimits(t *testing.T) {
	for _, w := range []impl.Wire{{}, {Now: 7}, {Now: 1000000, Flights: []impl.Flight{}}} {
		checkArrive(t, w, w, nil)
	}
	// A clock at its greatest value goes no further: what would come later never comes.
	w := impl.Wire{Now: 1000000, Flights: flightsAt(1000001, 1000000, 1100000, 0, 999999)}
	want := w
	want.Flights = []impl.Flight{w.Flights[0], w.Flights[2]}
	checkArrive(t, w, want, []string{"data 3", "data 4", "data 1"})
	checkArrive(t, impl.TickWire(want), want, nil)
	checkArrive(t, greatestWire(), greatestWire(), nil)
	// All flights of a full wire, all at once and in their order.
	full := impl.Wire{Now: 40}
	var list []string
	for k := range 200 {
		data := "flight " + impl.FormatInt(k)
		full.Flights = append(full.Flights, impl.Flight{At: 40, Data: data})
		list = append(list, data)
	}
	checkArrive(t, full, impl.Wire{Now: 40}, list)
	full.Now = 39
	checkArrive(t, full, full, nil)
	long := strings.Repeat("long", 5000)
	checkArrive(t, impl.Wire{Flights: []impl.Flight{{Data: long}, {Data: "\x00"}}}, impl.Wire{}, []string{long, "\x00"})
}

func TestArriveWireRejects(t *testing.T) {
	for _, bad := range badWires() {
		checkArrive(t, bad, bad, nil)
	}
}

func TestArriveWireOnRandomWires(t *testing.T) {
	r := rand.New(rand.NewSource(501))
	for range 2000 {
		w := randomWire(r)
		want, list := plainArrive(w)
		checkArrive(t, w, want, list)
	}
}
