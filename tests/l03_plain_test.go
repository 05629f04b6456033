package tests

import (
	"math"
	"math/rand"
	"slices"

	"loop.example/g03315/impl"
)

// This file has what the tests of chapter 3 share: examples, copies, and a second reading of the
// chapter's simplest rules.

// noInputs are numbers that are no inputs.
func noInputs() []int { return []int{-1, 16, 17, 255, math.MaxInt, math.MinInt} }

// trackOf is a track with these inputs.
func trackOf(inputs ...int) impl.Track { return impl.Track{Inputs: inputs} }

// tracksOf has a track for each list of inputs.
func tracksOf(lists ...[]int) []impl.Track {
	var tracks []impl.Track
	for _, list := range lists {
		tracks = append(tracks, impl.Track{Inputs: list})
	}
	return tracks
}

// countingInputs are n inputs that are not equal to their neighbours.
func countingInputs(n int) []int {
	inputs := make([]int, n)
	for i := range inputs {
		inputs[i] = i % 16
	}
	return inputs
}

// badTracks are tracks that are not valid, the greatest of them one input too long.
func badTracks() []impl.Track {
	tracks := []impl.Track{{Inputs: make([]int, 401)}, {Inputs: make([]int, 1000)}}
	for _, n := range noInputs() {
		tracks = append(tracks, trackOf(n), trackOf(n, 0, 0), trackOf(0, n, 0), trackOf(0, 0, n))
	}
	return tracks
}

// badLists are lists of tracks that are not valid.
func badLists() [][]impl.Track {
	good := trackOf(1, 2, 3)
	lists := [][]impl.Track{nil, {}, {good, good, good, good, good}, make([]impl.Track, 5), make([]impl.Track, 9)}
	for _, bad := range badTracks() {
		lists = append(lists, []impl.Track{bad}, []impl.Track{bad, good}, []impl.Track{good, bad}, []impl.Track{good, good, bad, good})
	}
	return lists
}

// randomInputs are n inputs of a player who holds what is pressed for a while.
func randomInputs(r *rand.Rand, n int) []int {
	inputs := make([]int, n)
	for i := range inputs {
		if i == 0 || r.Intn(4) == 0 {
			inputs[i] = r.Intn(16)
		} else {
			inputs[i] = inputs[i-1]
		}
	}
	return inputs
}

// randomTracks are valid tracks, some of them empty and some as long as allowed.
func randomTracks(r *rand.Rand) []impl.Track {
	tracks := make([]impl.Track, 1+r.Intn(4))
	for k := range tracks {
		tracks[k].Inputs = randomInputs(r, []int{0, 1, r.Intn(60), r.Intn(401), 400}[r.Intn(5)])
	}
	return tracks
}

// randomPacket is a valid packet, often with numbers at their limits.
func randomPacket(r *rand.Rand) impl.Packet {
	upTo := func(limit int) int { return []int{0, limit, r.Intn(limit + 1), min(limit, r.Intn(200))}[r.Intn(4)] }
	acks := make([]int, 1+r.Intn(4))
	for k := range acks {
		acks[k] = upTo(400)
	}
	inputs := randomInputs(r, upTo(40))
	return impl.Packet{
		From: r.Intn(len(acks)), Tick: upTo(400), First: upTo(400 - len(inputs)), Inputs: inputs, Acks: acks,
		SumTick: upTo(400), Sum: upTo(274877906943), Time: upTo(1000000), Echo: upTo(1000000),
	}
}

// plainPredict goes back from a tick to the last known input.
func plainPredict(inputs []int, tick int) int {
	for at := tick; at >= 0; at-- {
		if at < len(inputs) && at == tick {
			return inputs[at]
		}
		if at < len(inputs) {
			return inputs[at] % 4
		}
	}
	return 0
}

// plainPack writes a byte or two for each run that it sees end.
func plainPack(inputs []int) string {
	packed, run := []byte{}, 0
	for i, input := range inputs {
		run++
		if i+1 < len(inputs) && inputs[i+1] == input {
			continue
		}
		if code := 16*run + input; code < 128 {
			packed = append(packed, byte(code))
		} else {
			packed = append(packed, byte(code%128+128), byte(code/128))
		}
		run = 0
	}
	return string(packed)
}

// plainTracksSame compares two lists of tracks without the package.
func plainTracksSame(a []impl.Track, b []impl.Track) bool {
	return slices.EqualFunc(a, b, func(s impl.Track, t impl.Track) bool { return slices.Equal(s.Inputs, t.Inputs) })
}

// plainPacketSame compares two packets without the package.
func plainPacketSame(p impl.Packet, q impl.Packet) bool {
	numbers := func(x impl.Packet) [7]int { return [7]int{x.From, x.Tick, x.First, x.SumTick, x.Sum, x.Time, x.Echo} }
	return numbers(p) == numbers(q) && slices.Equal(p.Inputs, q.Inputs) && slices.Equal(p.Acks, q.Acks)
}

// copiedTracks share no memory with a list of tracks.
func copiedTracks(list []impl.Track) []impl.Track {
	list = slices.Clone(list)
	for k := range list {
		list[k].Inputs = slices.Clone(list[k].Inputs)
	}
	return list
}

// copiedPacket shares no memory with a packet.
func copiedPacket(p impl.Packet) impl.Packet {
	p.Inputs, p.Acks = slices.Clone(p.Inputs), slices.Clone(p.Acks)
	return p
}

// spoilInts writes into all memory of a list, also behind its end.
func spoilInts(list []int) {
	list = list[:cap(list)]
	for i := range list {
		list[i] = -77
	}
}

// spoilTracks writes into all memory of a list of tracks.
func spoilTracks(list []impl.Track) {
	list = list[:cap(list)]
	for k := range list {
		spoilInts(list[k].Inputs)
		list[k] = trackOf(-77)
	}
}

// spareInts has the same elements as a list, and others behind its end.
func spareInts(list []int) []int {
	return append(slices.Clone(list), 91, 92, 93, 94)[:len(list)]
}

// spareTracks are the same tracks with more behind the end of each list.
func spareTracks(list []impl.Track) []impl.Track {
	longer := append(slices.Clone(list), trackOf(95), trackOf(96))
	for k := range list {
		longer[k].Inputs = spareInts(list[k].Inputs)
	}
	return longer[:len(list)]
}
