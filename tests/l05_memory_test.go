package tests

import (
	"reflect"
	"testing"

	"loop.example/g03315/impl"
)

// wireCalls are all functions that take a wire, each with the wire that it gives.
func wireCalls() map[string]func(w impl.Wire) impl.Wire {
	return map[string]func(w impl.Wire) impl.Wire{
		"SendWire":            func(w impl.Wire) impl.Wire { return impl.SendWire(w, "data") },
		"SendWire of nothing": func(w impl.Wire) impl.Wire { return impl.SendWire(w, "") },
		"ArriveWire":          func(w impl.Wire) impl.Wire { next, _ := impl.ArriveWire(w); return next },
		"TickWire":            func(w impl.Wire) impl.Wire { return impl.TickWire(w) },
		"WireQuiet":           func(w impl.Wire) impl.Wire { impl.WireQuiet(w); return impl.Wire{} },
		"WireOk":              func(w impl.Wire) impl.Wire { impl.WireOk(w); return impl.Wire{} },
	}
}

// TestWiresKeepTheirMemory also looks at what is behind the flights.
func TestWiresKeepTheirMemory(t *testing.T) {
	wires := append(goodWires(), badWires()...)
	for _, seed := range []int{0, 1, 2, 3, 4, 5, 6, 7} {
		wires = append(wires, changedWire(busyWire(), func(w *impl.Wire) { w.Seed = seed }))
	}
	for _, w := range wires {
		for name, call := range wireCalls() {
			spare := spareWire(w)
			before := written(reflect.ValueOf(spare))
			got := call(spare)
			if written(reflect.ValueOf(spare)) != before {
				t.Errorf("%s changes its argument %s", name, brief(w))
			}
			if !memoryIsApart(got, spare) {
				t.Errorf("%s of %s gives shared memory", name, brief(w))
			}
			if again := call(w); !sameWire(again, got) || !sameWire(call(spare), got) {
				t.Errorf("%s of %s gives %s and then %s", name, brief(w), brief(got), brief(again))
			}
		}
	}
}

func TestStampedPacketsKeepTheirMemory(t *testing.T) {
	for _, x := range append(goodPackets(), badPackets()...) {
		for _, q := range []impl.Pace{{Newest: 7}, {Newest: greatestPace}, {Trip: -1}} {
			for _, now := range []int{-1, 12} {
				spare := x
				spare.Inputs, spare.Acks = spareInts(x.Inputs), spareInts(x.Acks)
				before := written(reflect.ValueOf(spare))
				got := impl.StampPacket(spare, q, now)
				if written(reflect.ValueOf(spare)) != before || !memoryIsApart(got, spare) {
					t.Errorf("StampPacket of %v with %v at %d does not keep to its memory", x, q, now)
				}
			}
		}
	}
}

func TestPacesKeepTheirPackets(t *testing.T) {
	for _, x := range append(goodPackets(), badPackets()...) {
		x.Inputs, x.Acks = spareInts(x.Inputs), spareInts(x.Acks)
		before := written(reflect.ValueOf(x))
		impl.HearPacket(impl.Pace{}, x, 12)
		if written(reflect.ValueOf(x)) != before {
			t.Errorf("HearPacket changes %v", x)
		}
	}
	list := []impl.Pace{{Newest: 5, Trip: 3}, {Newest: 6}, {At: -1}, {Newest: 7}}
	before := written(reflect.ValueOf(list))
	impl.ShouldWait(list[:2], 400, 3)
	if written(reflect.ValueOf(list)) != before {
		t.Error("ShouldWait changes its paces")
	}
}
