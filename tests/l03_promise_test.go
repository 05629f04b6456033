package tests

import (
	"math/rand"
	"slices"
	"testing"

	"loop.example/g03315/impl"
)

// TestNothingKnownIsPredictedOtherwise tells a track in parts, some of them known already, and
// looks at all that is said of it behind each one.
func TestNothingKnownIsPredictedOtherwise(t *testing.T) {
	r := rand.New(rand.NewSource(304))
	for range 40 {
		whole := randomInputs(r, 400)
		track := impl.Track{}
		for len(track.Inputs) < len(whole) {
			known := len(track.Inputs)
			first := r.Intn(known + 1)
			end := min(max(first, known-20)+r.Intn(41), len(whole))
			next, ok := impl.AddInputs(track, first, whole[first:end])
			if !ok || !slices.Equal(next.Inputs, whole[:max(known, end)]) {
				t.Fatalf("AddInputs from %d to %d to %d known ones = %v, %v", first, end, known, next, ok)
			}
			checkLie(t, r, next, whole)
			track = next
			list := []impl.Track{track, {Inputs: whole}}
			for tick := range 401 {
				row, known := impl.RowAt(list, tick)
				if known != (tick < len(track.Inputs)) || row[0] != plainPredict(track.Inputs, tick) || known && row[0] != whole[tick] {
					t.Fatalf("RowAt with %d known inputs at %d = %v, %v", len(track.Inputs), tick, row, known)
				}
			}
			for tick, row := range impl.RowsOf(list, 0, impl.KnownTicks(list)) {
				if row[0] != whole[tick] || row[1] != whole[tick] {
					t.Fatalf("RowsOf with %d known inputs at %d = %v; want %d", len(track.Inputs), tick, row, whole[tick])
				}
			}
		}
	}
}

// checkLie tells a track one known input otherwise, among right ones.
func checkLie(t *testing.T, r *rand.Rand, track impl.Track, whole []int) {
	known := len(track.Inputs)
	if known == 0 {
		return
	}
	lie := slices.Clone(whole)
	at := r.Intn(known)
	lie[at] = (lie[at] + 1 + r.Intn(15)) % 16
	first := r.Intn(at + 1)
	if got, ok := impl.AddInputs(track, first, lie[first:]); ok || !slices.Equal(got.Inputs, track.Inputs) {
		t.Fatalf("AddInputs of another input for the tick %d = %v, %v", at, got, ok)
	}
}

// speaker is one of two players who tell each other what they press.
type speaker struct {
	tracks []impl.Track
	script []int
	acked  int
}

// press adds some inputs of the script to the own track.
func (s *speaker) press(t *testing.T, me int, n int) {
	for range n {
		at := len(s.tracks[me].Inputs)
		if at == len(s.script) {
			return
		}
		track, ok := impl.AddInputs(s.tracks[me], at, s.script[at:at+1])
		if !ok {
			t.Fatal("an input cannot be added", track)
		}
		s.tracks[me] = track
	}
}

// hear takes the bytes of a packet from the other one, and what it says of the own inputs.
func (s *speaker) hear(t *testing.T, me int, text string) {
	p, ok := impl.DecodePacket(text)
	if !ok || p.From != 1-me {
		t.Fatalf("DecodePacket(%q) = %v, %v", text, p, ok)
	}
	tracks, ok := impl.TakePacket(s.tracks, p)
	if !ok {
		t.Fatalf("TakePacket(%v, %v) fails, though only what was acknowledged is left out", s.tracks, p)
	}
	if len(tracks[1-me].Inputs) < len(s.tracks[1-me].Inputs) {
		t.Fatal("a packet makes less known")
	}
	s.tracks = tracks
	s.acked = max(s.acked, p.Acks[me])
}

// TestAcknowledgedInputsNeedNotBeSentAgain lets two players speak over a link that loses, copies
// and turns around what is sent.
func TestAcknowledgedInputsNeedNotBeSentAgain(t *testing.T) {
	r := rand.New(rand.NewSource(305))
	for range 60 {
		pair := [2]speaker{}
		for k := range pair {
			pair[k] = speaker{tracks: make([]impl.Track, 2), script: randomInputs(r, r.Intn(401))}
		}
		loss := r.Intn(80)
		var flights [2][]string
		for rounds := 0; !plainTracksSame(pair[0].tracks, tracksOf(pair[0].script, pair[1].script)) || !plainTracksSame(pair[1].tracks, pair[0].tracks); rounds++ {
			if rounds > 5000 {
				t.Fatal("what was pressed does not come across", pair)
			}
			for me := range pair {
				pair[me].press(t, me, r.Intn(30))
				p, ok := impl.MakePacket(pair[me].tracks, me, pair[me].acked)
				if !ok || p.First != pair[me].acked || len(p.Inputs) != min(40, len(pair[me].tracks[me].Inputs)-p.First) {
					t.Fatalf("MakePacket behind %d = %v, %v", pair[me].acked, p, ok)
				}
				for range 1 + r.Intn(2) {
					if r.Intn(100) >= loss {
						flights[1-me] = append(flights[1-me], impl.EncodePacket(p))
					}
				}
			}
			for me := range pair {
				r.Shuffle(len(flights[me]), func(i, j int) { flights[me][i], flights[me][j] = flights[me][j], flights[me][i] })
				for n := r.Intn(len(flights[me]) + 1); n > 0; n-- {
					pair[me].hear(t, me, flights[me][0])
					flights[me] = flights[me][1:]
				}
			}
		}
	}
}

// TestPacketsBringAWholeTrackAcross needs ten packets for 400 inputs, and none for what is known.
func TestPacketsBringAWholeTrackAcross(t *testing.T) {
	for _, length := range []int{0, 1, 39, 40, 41, 80, 399, 400} {
		mine := tracksOf(countingInputs(length), nil)
		theirs := make([]impl.Track, 2)
		packets := 0
		for ack := 0; ack < length; packets++ {
			p, ok := impl.MakePacket(mine, 0, ack)
			if !ok {
				t.Fatal("no packet", p)
			}
			theirs, ok = impl.TakePacket(theirs, p)
			if !ok {
				t.Fatal("a packet is not taken", p)
			}
			answer, ok := impl.MakePacket(theirs, 1, 0)
			if !ok || answer.Acks[0] <= ack {
				t.Fatal("nothing new is acknowledged", answer)
			}
			ack = answer.Acks[0]
		}
		if want := (length + 39) / 40; packets != want || !plainTracksSame(theirs, mine) {
			t.Errorf("%d packets for %d inputs; want %d", packets, length, want)
		}
	}
}

func TestTrackArgumentsStayAsTheyAre(t *testing.T) {
	r := rand.New(rand.NewSource(306))
	for range 200 {
		list := spareTracks(randomTracks(r))
		kept := copiedTracks(list[:len(list)+2])
		inputs := spareInts(randomInputs(r, r.Intn(50)))
		keptInputs := slices.Clone(inputs)
		track := list[0]
		for _, first := range []int{-1, 0, len(track.Inputs) / 2, len(track.Inputs), len(track.Inputs) + 1} {
			grown, _ := impl.AddInputs(track, first, inputs)
			spoilInts(grown.Inputs)
			same, _ := impl.AddInputs(track, max(first, 0), nil)
			spoilInts(same.Inputs)
		}
		row, _ := impl.RowAt(list, 3)
		spoilInts(row)
		rows := impl.RowsOf(list, 0, impl.KnownTicks(list))
		for i, row := range rows {
			if row[0] != list[0].Inputs[i] {
				t.Fatal("two rows share memory")
			}
			spoilInts(row)
		}
		text := impl.PackTrack(track.Inputs)
		unpacked, _ := impl.UnpackTrack(text)
		spoilInts(unpacked)
		if again, ok := impl.UnpackTrack(text); !slices.Equal(again, track.Inputs) || !ok {
			t.Fatal("two results share memory")
		}
		if !plainTracksSame(list[:len(list)+2], kept) || !slices.Equal(inputs, keptInputs) || !slices.Equal(inputs[len(inputs):len(inputs)+4], []int{91, 92, 93, 94}) {
			t.Fatal("an argument was changed")
		}
		for _, track := range list {
			if n := len(track.Inputs); !slices.Equal(track.Inputs[n:n+4], []int{91, 92, 93, 94}) {
				t.Fatal("what is behind a track was changed")
			}
		}
	}
}
