package tests

import (
	"fmt"
	"math"
	"math/rand"
	"slices"

	"loop.example/g03315/impl"
)

// This file has what the tests of chapter 5 share: examples, and a second reading of what random
// numbers make of a wire.

// outside are numbers that are not in a range, those beside it first.
func outside(low int, high int) []int { return []int{low - 1, high + 1, math.MinInt, math.MaxInt} }

// dice are the random numbers that follow from a seed.
type dice struct{ seed int }

func (d *dice) below(n int) int {
	d.seed = (d.seed*25173 + 13849) % 65536
	return d.seed / 16 % n
}

// plainSpoil changes one byte of a text that is not empty.
func plainSpoil(d *dice, s string) string {
	b := []byte(s)
	at := d.below(len(b))
	b[at] ^= byte(1 + d.below(255))
	return string(b)
}

// plainSend is SendWire for a valid wire and data that can be sent.
func plainSend(w impl.Wire, data string) impl.Wire {
	d := dice{w.Seed}
	w.Sent = min(w.Sent+1, 1000000)
	var sent []impl.Flight
	if d.below(100) >= w.Loss {
		for n := copiesOf(&d, w.Copies); n > 0; n-- {
			f := impl.Flight{At: w.Now + w.Delay + d.below(w.Jitter+1), Data: data}
			if d.below(100) < w.Damage {
				f.Data = plainSpoil(&d, data)
			}
			sent = append(sent, f)
		}
	} else {
		w.Lost = min(w.Lost+1, 1000000)
	}
	room := min(200-len(w.Flights), len(sent))
	w.Lost = min(w.Lost+len(sent)-room, 1000000)
	w.Flights = slices.Concat(w.Flights, sent[:room])
	w.Seed = d.seed
	return w
}

// copiesOf is the number of flights that data becomes which is not lost.
func copiesOf(d *dice, percent int) int {
	if d.below(100) < percent {
		return 2
	}
	return 1
}

// plainArrive takes the first one of the earliest flights, again and again.
func plainArrive(w impl.Wire) (impl.Wire, []string) {
	var list []string
	w.Flights = slices.Clone(w.Flights)
	for {
		first := -1
		for k, f := range w.Flights {
			if f.At <= w.Now && (first < 0 || f.At < w.Flights[first].At) {
				first = k
			}
		}
		if first < 0 {
			return w, list
		}
		list = append(list, w.Flights[first].Data)
		w.Flights = slices.Delete(w.Flights, first, first+1)
	}
}

// sameWire compares two wires without the package.
func sameWire(v impl.Wire, w impl.Wire) bool {
	numbers := func(x impl.Wire) [9]int {
		return [9]int{x.Seed, x.Delay, x.Jitter, x.Loss, x.Copies, x.Damage, x.Now, x.Sent, x.Lost}
	}
	return numbers(v) == numbers(w) && slices.Equal(v.Flights, w.Flights)
}

// brief is the beginning of what a value has.
func brief(v any) string {
	s := fmt.Sprintf("%+v", v)
	return s[:min(len(s), 400)]
}

// spareWire is the same wire with more behind the end of its flights.
func spareWire(w impl.Wire) impl.Wire {
	spare := []impl.Flight{{At: 91, Data: "spare"}, {At: 92}, {At: 93, Data: "more"}}
	w.Flights = append(slices.Clone(w.Flights), spare...)[:len(w.Flights)]
	return w
}

// flightsAt are flights with these times, each of them with data of its own.
func flightsAt(times ...int) []impl.Flight {
	var list []impl.Flight
	for k, at := range times {
		list = append(list, impl.Flight{At: at, Data: "data " + impl.FormatInt(k)})
	}
	return list
}

// manyFlights are n flights from a time on.
func manyFlights(at int, n int) []impl.Flight {
	list := make([]impl.Flight, n)
	for k := range list {
		list[k] = impl.Flight{At: at + k%7, Data: string(rune('a' + k%26))}
	}
	return list
}

// greatestWire has all numbers and lists at their upper limits.
func greatestWire() impl.Wire {
	return impl.Wire{
		Seed: 65535, Delay: 12, Jitter: 12, Loss: 100, Copies: 100, Damage: 100, Now: 1000000, Flights: manyFlights(1100000-6, 200), Sent: 1000000, Lost: 1000000,
	}
}

// busyWire does all that a wire can do now and then.
func busyWire() impl.Wire {
	return impl.Wire{
		Seed: 4711, Delay: 3, Jitter: 4, Loss: 30, Copies: 40, Damage: 50, Now: 20, Flights: flightsAt(21, 19, 24, 20, 19, 20), Sent: 9, Lost: 2,
	}
}

// changedWire is a wire of which one thing is changed.
func changedWire(w impl.Wire, how func(w *impl.Wire)) impl.Wire {
	w.Flights = slices.Clone(w.Flights)
	how(&w)
	return w
}

// badWires are wires of which one thing is not valid.
func badWires() []impl.Wire {
	var list []impl.Wire
	for _, good := range []impl.Wire{busyWire(), greatestWire(), {Flights: flightsAt(0)}} {
		change := func(how func(w *impl.Wire)) { list = append(list, changedWire(good, how)) }
		for _, n := range outside(0, 65535) {
			change(func(w *impl.Wire) { w.Seed = n })
		}
		for _, n := range outside(0, 12) {
			change(func(w *impl.Wire) { w.Delay = n })
			change(func(w *impl.Wire) { w.Jitter = n })
		}
		for _, n := range outside(0, 100) {
			change(func(w *impl.Wire) { w.Loss = n })
			change(func(w *impl.Wire) { w.Copies = n })
			change(func(w *impl.Wire) { w.Damage = n })
		}
		for _, n := range outside(0, 1000000) {
			change(func(w *impl.Wire) { w.Now = n })
			change(func(w *impl.Wire) { w.Sent = n })
			change(func(w *impl.Wire) { w.Lost = n })
		}
		for k := range good.Flights {
			for _, n := range outside(0, 1100000) {
				change(func(w *impl.Wire) { w.Flights[k].At = n })
			}
		}
		for _, k := range []int{0, len(good.Flights) / 2, len(good.Flights) - 1} {
			change(func(w *impl.Wire) { w.Flights[k].Data = "" })
			change(func(w *impl.Wire) { w.Flights[k].Data = string(make([]byte, 20001)) })
		}
		change(func(w *impl.Wire) { w.Flights = manyFlights(30, 201) })
	}
	return list
}

// randomWire is a valid wire, often with numbers at their limits.
func randomWire(r *rand.Rand) impl.Wire {
	upTo := func(limit int) int { return []int{0, limit, limit - 1, r.Intn(limit + 1)}[r.Intn(4)] }
	w := impl.Wire{
		Seed: r.Intn(65536), Delay: r.Intn(13), Jitter: r.Intn(13), Loss: r.Intn(3) * r.Intn(30), Copies: upTo(100), Damage: upTo(100),
		Now: upTo(1000000), Sent: upTo(1000000), Lost: upTo(1000000),
	}
	for range []int{0, r.Intn(9), r.Intn(200), 198, 199, 200}[r.Intn(6)] {
		at := min(max(w.Now+r.Intn(20)-9, 0), 1100000)
		w.Flights = append(w.Flights, impl.Flight{At: at, Data: randomText(r, "abc", 1+r.Intn(20))})
	}
	return w
}

func paceOf(newest int, their int, at int, trip int, samples int) impl.Pace {
	return impl.Pace{Newest: newest, Their: their, At: at, Trip: trip, Samples: samples}
}

// badPaces are paces of which one number is not valid.
func badPaces() []impl.Pace {
	var list []impl.Pace
	for _, good := range []impl.Pace{paceOf(5, 7, 10, 8, 1), {}, paceOf(1000001, 1000001, 1000001, 1000001, 1000001)} {
		for _, n := range outside(0, 1000001) {
			for _, how := range []func(q *impl.Pace){
				func(q *impl.Pace) { q.Newest = n }, func(q *impl.Pace) { q.Their = n }, func(q *impl.Pace) { q.At = n },
				func(q *impl.Pace) { q.Trip = n }, func(q *impl.Pace) { q.Samples = n },
			} {
				bad := good
				how(&bad)
				list = append(list, bad)
			}
		}
	}
	return list
}
