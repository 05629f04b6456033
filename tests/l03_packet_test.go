package tests

import (
	"math"
	"math/rand"
	"slices"
	"strings"
	"testing"

	"loop.example/g03315/impl"
)

const greatestSum = 274877906943

// greatestPacket has all numbers and lists at their upper limits.
func greatestPacket() impl.Packet {
	return impl.Packet{
		From: 3, Tick: 400, First: 360, Inputs: countingInputs(40), Acks: []int{400, 400, 400, 400}, SumTick: 400, Sum: greatestSum, Time: 1000000, Echo: 1000000,
	}
}

// goodPackets are valid packets, the least and the greatest among them.
func goodPackets() []impl.Packet {
	return []impl.Packet{
		{Acks: []int{0}}, {Acks: []int{0}, Inputs: []int{}}, {Acks: []int{400}, First: 400}, {Acks: []int{1, 2}, From: 1, Inputs: []int{15}, First: 399},
		{Acks: []int{0, 0, 0, 0}, Inputs: make([]int, 40)}, {Acks: []int{5, 400, 0}, From: 2, Sum: 1, SumTick: 1, Tick: 1, Time: 1, Echo: 1}, greatestPacket(),
	}
}

// badPackets are packets of which one thing is not valid.
func badPackets() []impl.Packet {
	packets := []impl.Packet{{}}
	for _, good := range []impl.Packet{greatestPacket(), {Acks: []int{3, 4, 5, 6}, Inputs: []int{1, 2}}} {
		change := func(how func(p *impl.Packet)) {
			bad := copiedPacket(good)
			how(&bad)
			packets = append(packets, bad)
		}
		for _, from := range []int{-1, 4, 5, math.MaxInt, math.MinInt} {
			change(func(p *impl.Packet) { p.From = from })
		}
		for _, n := range []int{-1, 401, math.MaxInt, math.MinInt} {
			change(func(p *impl.Packet) { p.Tick = n })
			change(func(p *impl.Packet) { p.SumTick = n })
			change(func(p *impl.Packet) { p.First = n })
			for k := range 4 {
				change(func(p *impl.Packet) { p.Acks[k] = n })
			}
		}
		for _, n := range []int{-1, 1000001, math.MaxInt, math.MinInt} {
			change(func(p *impl.Packet) { p.Time = n })
			change(func(p *impl.Packet) { p.Echo = n })
		}
		for _, n := range []int{-1, greatestSum + 1, impl.MaxVarint, math.MaxInt, math.MinInt} {
			change(func(p *impl.Packet) { p.Sum = n })
		}
		for _, n := range noInputs() {
			change(func(p *impl.Packet) { p.Inputs[0] = n })
			change(func(p *impl.Packet) { p.Inputs[len(p.Inputs)-1] = n })
		}
		change(func(p *impl.Packet) { p.Acks = nil })
		change(func(p *impl.Packet) { p.Acks = []int{} })
		change(func(p *impl.Packet) { p.Acks = make([]int, 5) })
		change(func(p *impl.Packet) { p.From, p.Acks = 3, []int{1, 2, 3} })
		change(func(p *impl.Packet) { p.First, p.Inputs = 0, make([]int, 41) })
		change(func(p *impl.Packet) { p.First, p.Inputs = 0, make([]int, 401) })
		change(func(p *impl.Packet) { p.First = 401 - len(p.Inputs) })
		change(func(p *impl.Packet) { p.First = 400 })
	}
	return packets
}

func TestPacketOk(t *testing.T) {
	for _, good := range goodPackets() {
		if !impl.PacketOk(good) {
			t.Errorf("PacketOk is false for %v", good)
		}
	}
	for _, bad := range badPackets() {
		if impl.PacketOk(bad) {
			t.Errorf("PacketOk is true for %v", bad)
		}
	}
	for inputs := range 41 {
		for _, first := range []int{0, 400 - inputs, 401 - inputs} {
			p := impl.Packet{First: first, Inputs: make([]int, inputs), Acks: []int{0}}
			if got := impl.PacketOk(p); got != (first+inputs <= 400) {
				t.Errorf("PacketOk with %d inputs from %d on = %v", inputs, first, got)
			}
		}
	}
	for players := 1; players <= 4; players++ {
		for from := range 5 {
			p := impl.Packet{From: from, Acks: make([]int, players)}
			if got := impl.PacketOk(p); got != (from < players) {
				t.Errorf("PacketOk from %d of %d = %v", from, players, got)
			}
		}
	}
}

// plainPacketText is what the seal of a packet contains.
func plainPacketText(p impl.Packet) string {
	numbers := impl.PackInts([]int{p.From, p.Tick, p.First, p.SumTick, p.Sum, p.Time, p.Echo})
	return numbers + impl.PackInts(p.Acks) + impl.PackText(plainPack(p.Inputs))
}

func TestEncodePacket(t *testing.T) {
	p := impl.Packet{From: 1, Tick: 7, First: 3, Inputs: []int{2, 2, 6}, Acks: []int{5, 64}, SumTick: 2, Sum: 300, Time: 9, Echo: 8}
	want := impl.SealText("\x07\x02\x0e\x06\x04\xd8\x04\x12\x10" + "\x02\x0a\x80\x01" + "\x02\x22\x16")
	if got := impl.EncodePacket(p); got != want {
		t.Errorf("EncodePacket(%v) = %q; want %q", p, got, want)
	}
	if got, want := impl.EncodePacket(impl.Packet{Acks: []int{0}}), impl.SealText("\x07\x00\x00\x00\x00\x00\x00\x00\x01\x00\x00"); got != want {
		t.Errorf("EncodePacket of the least packet = %q; want %q", got, want)
	}
	for _, good := range goodPackets() {
		text := impl.EncodePacket(good)
		if want := impl.SealText(plainPacketText(good)); text != want {
			t.Errorf("EncodePacket(%v) = %q; want %q", good, text, want)
		}
		if got, ok := impl.DecodePacket(text); !plainPacketSame(got, good) || !ok {
			t.Errorf("DecodePacket(%q) = %v, %v; want %v", text, got, ok, good)
		}
	}
	for _, bad := range badPackets() {
		if got := impl.EncodePacket(bad); got != "" {
			t.Errorf("EncodePacket(%v) = %q", bad, got)
		}
	}
}

// checkUnreadable sees that no packet is read from a text.
func checkUnreadable(t *testing.T, what string, s string) {
	t.Helper()
	if p, ok := impl.DecodePacket(s); !plainPacketSame(p, impl.Packet{}) || ok {
		t.Errorf("%s: DecodePacket(%.60q) = %v, %v", what, s, p, ok)
	}
}

func TestDecodePacketRejectsSealedTexts(t *testing.T) {
	const numbers, acks, track = "\x07\x02\x0e\x06\x04\xd8\x04\x12\x10", "\x02\x0a\x80\x01", "\x02\x22\x16"
	if _, ok := impl.DecodePacket(impl.SealText(numbers + acks + track)); !ok {
		t.Fatal("the packet that is to be changed is not read")
	}
	for what, text := range map[string]string{
		"nothing":                   "",
		"numbers alone":             numbers,
		"no track":                  numbers + acks,
		"six numbers":               "\x06\x02\x0e\x06\x04\xd8\x04\x12" + acks + track,
		"eight numbers":             "\x08\x02\x0e\x06\x04\xd8\x04\x12\x10\x00" + acks + track,
		"no numbers":                "\x00" + acks + track,
		"no acks":                   "\x07\x00\x0e\x06\x04\xd8\x04\x12\x10" + "\x00" + track,
		"five acks":                 numbers + "\x05\x00\x00\x00\x00\x00" + track,
		"one ack, but From 1":       numbers + "\x01\x00" + track,
		"an ack of 401":             numbers + "\x02\x0a\xa2\x06" + track,
		"a negative ack":            numbers + "\x02\x0a\x01" + track,
		"a byte behind":             numbers + acks + track + "\x00",
		"a packet behind":           numbers + acks + track + numbers + acks + track,
		"a byte before":             "\x00" + numbers + acks + track,
		"a long count of numbers":   "\x87\x00\x02\x0e\x06\x04\xd8\x04\x12\x10" + acks + track,
		"a long number":             "\x07\x82\x00\x0e\x06\x04\xd8\x04\x12\x10" + acks + track,
		"a long count of acks":      numbers + "\x82\x00\x0a\x80\x01" + track,
		"a long ack":                numbers + "\x02\x8a\x00\x80\x01" + track,
		"a long length of a track":  numbers + acks + "\x82\x00\x22\x16",
		"a long run":                numbers + acks + "\x03\xa2\x00\x16",
		"a run in two parts":        numbers + acks + "\x03\x12\x12\x16",
		"an empty run":              numbers + acks + "\x03\x22\x16\x05",
		"a short track":             numbers + acks + "\x03\x22\x16",
		"more than MaxInputs":       numbers + acks + "\x02\x90\x05",
		"more than MaxTrack":        numbers + acks + "\x02\x90\x32",
		"a negative From":           "\x07\x01\x0e\x06\x04\xd8\x04\x12\x10" + acks + track,
		"From 2 of two":             "\x07\x04\x0e\x06\x04\xd8\x04\x12\x10" + acks + track,
		"the Tick 401":              "\x07\x02\xa2\x06\x06\x04\xd8\x04\x12\x10" + acks + track,
		"First 398 and 3 inputs":    "\x07\x02\x0e\x9c\x06\x04\xd8\x04\x12\x10" + acks + track,
		"the SumTick 401":           "\x07\x02\x0e\x06\xa2\x06\xd8\x04\x12\x10" + acks + track,
		"a negative Sum":            "\x07\x02\x0e\x06\x04\x01\x12\x10" + acks + track,
		"a Sum past the limit":      "\x07\x02\x0e\x06\x04" + impl.EncodeVarint(2*greatestSum+2) + "\x12\x10" + acks + track,
		"a negative Time":           "\x07\x02\x0e\x06\x04\xd8\x04\x01\x10" + acks + track,
		"a Time past the limit":     "\x07\x02\x0e\x06\x04\xd8\x04" + impl.EncodeVarint(2000002) + "\x10" + acks + track,
		"a negative Echo":           "\x07\x02\x0e\x06\x04\xd8\x04\x12\x01" + acks + track,
		"an Echo past the limit":    "\x07\x02\x0e\x06\x04\xd8\x04\x12" + impl.EncodeVarint(2000002) + acks + track,
		"a count past the end":      "\xff\xff\xff\xff\xff\x1f" + acks + track,
		"a length past the end":     numbers + acks + "\xff\xff\xff\xff\xff\x1f\x22\x16",
		"acks past the end":         numbers + "\xff\xff\xff\xff\xff\x1f\x22\x16",
		"the parts in other orders": acks + numbers + track,
	} {
		checkUnreadable(t, what, impl.SealText(text))
	}
}

func TestDecodePacketRejectsWhatIsNotSealed(t *testing.T) {
	sealed := impl.EncodePacket(greatestPacket())
	for _, s := range []string{
		"", "\x00", "\x00\x00\x00\x00", sealed[4:], sealed + "\x00", "\x00" + sealed, sealed + sealed, sealed[1:], impl.SealText(sealed),
		strings.Repeat("\x00", 1000), strings.Repeat("\xff", 1000), impl.SealText(strings.Repeat("\xff", 30000)),
	} {
		checkUnreadable(t, "not sealed", s)
	}
	for end := range len(sealed) {
		checkUnreadable(t, "cut", sealed[:end])
		if end >= 4 {
			checkUnreadable(t, "cut and sealed", impl.SealText(sealed[4:end]))
		}
	}
}

func TestPacketsWithAChangedByteAreNotRead(t *testing.T) {
	for _, p := range goodPackets() {
		sealed := impl.EncodePacket(p)
		for at := range len(sealed) {
			for change := 1; change < 256; change++ {
				b := []byte(sealed)
				b[at] ^= byte(change)
				checkUnreadable(t, "changed", string(b))
			}
		}
	}
}

func TestPacketsAreReadFromTheirBytes(t *testing.T) {
	r := rand.New(rand.NewSource(303))
	for range 5000 {
		p := randomPacket(r)
		text := impl.EncodePacket(p)
		if !impl.PacketOk(p) || text != impl.SealText(plainPacketText(p)) {
			t.Fatalf("EncodePacket(%v) = %q", p, text)
		}
		if got, ok := impl.DecodePacket(text); !plainPacketSame(got, p) || !ok {
			t.Fatalf("DecodePacket(%q) = %v, %v; want %v", text, got, ok, p)
		}
		b := []byte(text)
		b[r.Intn(len(b))] ^= byte(1 + r.Intn(255))
		checkUnreadable(t, "changed", string(b))
		// A changed text can be the seal of another packet, but not of none.
		inner := string(b[4:])
		if got, ok := impl.DecodePacket(impl.SealText(inner)); ok != impl.PacketOk(got) || ok && plainPacketText(got) != inner {
			t.Fatalf("DecodePacket of the sealed %q = %v, %v", inner, got, ok)
		}
	}
}

func TestMakePacket(t *testing.T) {
	list := tracksOf(countingInputs(100), []int{2, 2, 6}, nil)
	acks := []int{100, 3, 0}
	for _, c := range []struct{ me, ack, end int }{
		{0, 0, 40}, {0, 1, 41}, {0, 59, 99}, {0, 60, 100}, {0, 61, 100}, {0, 99, 100}, {0, 100, 100}, {1, 0, 3}, {1, 2, 3}, {1, 3, 3}, {2, 0, 0},
	} {
		want := impl.Packet{From: c.me, First: c.ack, Inputs: list[c.me].Inputs[c.ack:c.end], Acks: acks}
		got, ok := impl.MakePacket(list, c.me, c.ack)
		if !plainPacketSame(got, want) || !ok || !impl.PacketOk(got) {
			t.Errorf("MakePacket from %d behind %d = %v, %v; want %v", c.me, c.ack, got, ok, want)
		}
	}
	full := tracksOf(countingInputs(400))
	for ack, inputs := range map[int]int{0: 40, 359: 40, 360: 40, 361: 39, 399: 1, 400: 0} {
		if got, ok := impl.MakePacket(full, 0, ack); len(got.Inputs) != inputs || got.First != ack || !ok || !impl.PacketOk(got) {
			t.Errorf("MakePacket of a full track behind %d = %v, %v", ack, got, ok)
		}
	}
}

func TestMakePacketRejects(t *testing.T) {
	check := func(list []impl.Track, me int, ack int) {
		t.Helper()
		if got, ok := impl.MakePacket(list, me, ack); !plainPacketSame(got, impl.Packet{}) || ok {
			t.Errorf("MakePacket(%v, %d, %d) = %v, %v", list, me, ack, got, ok)
		}
	}
	list := tracksOf([]int{1, 2, 3, 4}, []int{2, 2, 6})
	for _, ack := range []int{-1, 4, 5, 400, math.MaxInt, math.MinInt} {
		check(list, 1, ack)
	}
	for _, me := range []int{-1, 2, 3, 4, math.MaxInt, math.MinInt} {
		check(list, me, 0)
	}
	for _, bad := range badLists() {
		check(bad, 0, 0)
	}
}

func TestTakePacket(t *testing.T) {
	list := tracksOf([]int{2}, []int{8, 9}, nil)
	for _, c := range []struct {
		from   int
		first  int
		inputs []int
		want   [][]int
	}{
		{0, 1, []int{2, 6}, [][]int{{2, 2, 6}, {8, 9}, nil}}, {0, 0, []int{2, 6}, [][]int{{2, 6}, {8, 9}, nil}}, {1, 2, []int{0}, [][]int{{2}, {8, 9, 0}, nil}},
		{1, 0, []int{8}, [][]int{{2}, {8, 9}, nil}}, {1, 1, []int{9}, [][]int{{2}, {8, 9}, nil}}, {1, 2, nil, [][]int{{2}, {8, 9}, nil}},
		{1, 0, nil, [][]int{{2}, {8, 9}, nil}}, {2, 0, []int{15, 15}, [][]int{{2}, {8, 9}, {15, 15}}},
	} {
		// Neither the Acks nor the other numbers of a packet matter to the tracks.
		p := impl.Packet{From: c.from, First: c.first, Inputs: c.inputs, Acks: []int{400, 0, 7}, Tick: 9, Sum: 5, SumTick: 6, Time: 7, Echo: 8}
		got, ok := impl.TakePacket(list, p)
		if !plainTracksSame(got, tracksOf(c.want...)) || !ok {
			t.Errorf("TakePacket(%v, %v) = %v, %v; want %v", list, p, got, ok, c.want)
		}
	}
	full := tracksOf(countingInputs(370), countingInputs(400))
	got, ok := impl.TakePacket(full, impl.Packet{First: 360, Inputs: full[1].Inputs[360:], Acks: []int{0, 0}})
	if !plainTracksSame(got, []impl.Track{full[1], full[1]}) || !ok {
		t.Errorf("TakePacket up to the limit = %v, %v", got, ok)
	}
}

func TestTakePacketRejects(t *testing.T) {
	check := func(list []impl.Track, p impl.Packet) {
		t.Helper()
		if got, ok := impl.TakePacket(list, p); !plainTracksSame(got, list) || ok {
			t.Errorf("TakePacket(%v, %v) = %v, %v", list, p, got, ok)
		}
	}
	list := tracksOf([]int{2}, []int{8, 9})
	for _, acks := range [][]int{nil, {0}, {0, 0, 0}, {0, 0, 0, 0}} {
		check(list, impl.Packet{First: 1, Inputs: []int{5}, Acks: acks})
	}
	for _, p := range []impl.Packet{
		{First: 2, Inputs: []int{5}}, {First: 2}, {First: 400}, {First: 0, Inputs: []int{3}}, {First: 0, Inputs: []int{3, 5}},
		{From: 1, First: 1, Inputs: []int{8}}, {From: 1, First: 0, Inputs: []int{8, 8, 8}}, {From: 1, First: 3, Inputs: []int{0}},
	} {
		p.Acks = []int{1, 2}
		check(list, p)
	}
	four := tracksOf(countingInputs(400), countingInputs(9), countingInputs(9), countingInputs(400))
	for _, bad := range badPackets() {
		check(four, bad)
		check(tracksOf(nil, nil, nil, nil), bad)
	}
	for _, bad := range badLists() {
		check(bad, impl.Packet{Acks: make([]int, min(max(len(bad), 1), 4))})
		check(bad, impl.Packet{Acks: make([]int, len(bad))})
	}
	check(list, impl.Packet{})
}

func TestPacketsKeepTheirMemory(t *testing.T) {
	list := spareTracks(tracksOf([]int{1, 2, 3}, []int{4, 5}))
	kept := copiedTracks(list)
	p, _ := impl.MakePacket(list, 0, 1)
	spoilInts(p.Inputs)
	spoilInts(p.Acks)
	p = impl.Packet{From: 1, First: 1, Inputs: spareInts([]int{5, 6}), Acks: spareInts([]int{3, 1})}
	keptPacket := copiedPacket(p)
	text := impl.EncodePacket(p)
	q, _ := impl.DecodePacket(text)
	spoilInts(q.Inputs)
	spoilInts(q.Acks)
	if q, ok := impl.DecodePacket(text); !plainPacketSame(q, keptPacket) || !ok {
		t.Error("a packet that was read shares memory with another", q)
	}
	next, _ := impl.TakePacket(list, p)
	spoilTracks(next)
	p.First = 9
	next, _ = impl.TakePacket(list, p)
	spoilTracks(next)
	p.First, p.Acks[1] = 1, 401
	next, _ = impl.TakePacket(list, p)
	spoilTracks(next)
	p.Acks[1] = 1
	if !plainTracksSame(list, kept) || !plainTracksSame(list[:4][2:], []impl.Track{trackOf(95), trackOf(96)}) || !plainPacketSame(p, keptPacket) {
		t.Error("an argument was changed", list, p)
	}
	for _, inputs := range [][]int{list[0].Inputs, list[1].Inputs, p.Inputs, p.Acks} {
		if n := len(inputs); !slices.Equal(inputs[n:n+4], []int{91, 92, 93, 94}) {
			t.Error("what is behind an argument was changed", inputs[:n+4])
		}
	}
}
