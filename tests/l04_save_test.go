package tests

import (
	"math"
	"math/rand"
	"slices"
	"strings"
	"testing"

	"loop.example/g03315/impl"
)

// ticksAround are ticks of which few are those of a peer.
func ticksAround(p impl.Peer) []int {
	list := []int{math.MinInt, math.MinInt + 1, -1, 0, 1, math.MaxInt - 1, math.MaxInt}
	for tick := p.Base.Tick - 2; tick <= p.Now.Tick+2; tick++ {
		list = append(list, tick)
	}
	return list
}

func TestSaveAt(t *testing.T) {
	g := arenaGame(t, 3, 2)
	for base := range 10 {
		for lead := range 9 {
			p := &plainPeer{game: g, me: 2, ahead: 8, base: base, now: base + lead, known: []int{base + 3, base + 2, base + 9}}
			q := p.peer()
			list := p.saved()
			for _, tick := range ticksAround(q) {
				got, ok := impl.SaveAt(q, tick)
				want := impl.World{}
				saved := tick >= base && tick < base+lead
				if saved {
					want = list[tick-base]
				}
				if ok != saved || !plainSame(got, want) || !memoryIsApart(got, q) {
					t.Fatalf("SaveAt %d from %d to %d = %v, %v; want %v", tick, base, base+lead, got, ok, want)
				}
			}
		}
	}
}

// TestSavesThatCannotBeRead looks at what the deltas up to each save give.
func TestSavesThatCannotBeRead(t *testing.T) {
	good := halfway(t)
	six, _ := impl.SaveAt(good, 6)
	seven, _ := impl.SaveAt(good, 7)
	eight, _ := impl.SaveAt(good, 8)
	other := deepCopy(seven)
	other.Seed, other.Scores[2] = 11, 1000000
	two := twoOf(seven)
	texts := func(second string) []string {
		return []string{impl.WorldBytes(six), second, impl.WorldBytes(eight)}
	}
	for name, c := range map[string]struct {
		second string
		want   impl.World
	}{
		"the world that was there": {impl.WorldBytes(seven), seven},
		"another world":            {impl.WorldBytes(other), other},
		"a world before":           {impl.WorldBytes(six), impl.World{}},
		"a world behind":           {impl.WorldBytes(eight), impl.World{}},
		"a world of two":           {impl.WorldBytes(two), impl.World{}},
		"no world":                 {"no world", impl.World{}},
		"nothing":                  {"", impl.World{}},
		"a byte more":              {impl.WorldBytes(seven) + "\x00", impl.World{}},
		"a byte less":              {impl.WorldBytes(seven)[:20], impl.World{}},
		"a world without bodies":   {impl.PackInts([]int{7, 1, 3, 0, 0, 0}), impl.World{}},
		"the longest text":         {strings.Repeat("x", 20000), impl.World{}},
	} {
		q := copiedPeer(good)
		q.Saves = savesOfTexts(q.Base, texts(c.second)...)
		got, ok := impl.SaveAt(q, 7)
		if ok != (c.want.Tick == 7) || !plainSame(got, c.want) {
			t.Errorf("SaveAt of %s = %v, %v; want %v", name, got, ok, c.want)
		}
		for tick, want := range map[int]impl.World{6: six, 8: eight} {
			if got, ok := impl.SaveAt(q, tick); !ok || !plainSame(got, want) {
				t.Errorf("SaveAt %d with %s beside = %v, %v", tick, name, got, ok)
			}
		}
		checkRolls(t, "RollTo with "+name, q)
	}
}

// TestDeltasThatCannotBeApplied spoil their save and all later ones.
func TestDeltasThatCannotBeApplied(t *testing.T) {
	good := halfway(t)
	tooLong := impl.EncodeVarint(20001) + impl.PackZeros(strings.Repeat("x", 20001))
	for k := range 3 {
		for _, delta := range []string{"", "\x80", "\x05", "\x00\x00", "\x05\x05\x00\x00", good.Saves[k].Delta + "\x00", "\x80\x00", tooLong} {
			q := copiedPeer(good)
			q.Saves[k].Delta = delta
			for tick := 6; tick < 9; tick++ {
				want, _ := impl.SaveAt(good, tick)
				if tick >= 6+k {
					want = impl.World{}
				}
				if got, ok := impl.SaveAt(q, tick); ok != (tick < 6+k) || !plainSame(got, want) {
					t.Errorf("SaveAt %d with a delta %.20q for %d = %v, %v", tick, delta, 6+k, got, ok)
				}
			}
			checkRolls(t, "RollTo with a delta that is none", q)
		}
	}
}

// checkRolls compares RollTo for all ticks with what SaveAt tells.
func checkRolls(t *testing.T, what string, q impl.Peer) {
	t.Helper()
	for _, tick := range ticksAround(q) {
		want := copiedPeer(q)
		w, saved := impl.SaveAt(q, tick)
		if saved {
			kept := tick - q.Base.Tick
			want.Now, want.Used, want.Saves = w, want.Used[:kept], want.Saves[:kept]
		}
		got, ok := impl.RollTo(q, tick)
		wantPeer(t, what+" to "+impl.FormatInt(tick), got, ok, want, saved)
		if !impl.PeerOk(got) {
			t.Fatalf("%s to %d gives a peer that is not valid", what, tick)
		}
	}
}

func TestRollTo(t *testing.T) {
	g := arenaGame(t, 2, 1)
	for _, base := range []int{0, 3, 392} {
		for lead := range 9 {
			p := &plainPeer{game: g, me: 1, ahead: 8, base: base, now: base + lead, known: []int{base + 2, min(base+9, 400)}, rolls: 3, again: 5}
			checkRolls(t, "RollTo", p.peer())
			for tick := base; tick < base+lead; tick++ {
				back := *p
				back.now = tick
				got, ok := impl.RollTo(p.peer(), tick)
				wantPeer(t, "RollTo", got, ok, back.peer(), true)
			}
		}
	}
}

// TestRollToWithoutEarlierSaves goes back to a save that is behind one that cannot be read.
func TestRollToWithoutEarlierSaves(t *testing.T) {
	q := halfway(t)
	eight, _ := impl.SaveAt(q, 8)
	q.Saves = savesOfTexts(q.Base, "no world", "", impl.WorldBytes(eight))
	want := copiedPeer(q)
	want.Now, want.Used, want.Saves = eight, want.Used[:2], want.Saves[:2]
	got, ok := impl.RollTo(q, 8)
	wantPeer(t, "RollTo", got, ok, want, true)
	if moved, ok := impl.Advance(got); ok || !samePeer(moved, got) {
		t.Error("Advance over a save that cannot be read")
	}
}

// TestSavesOfManyWorlds saves worlds that change much from tick to tick.
func TestSavesOfManyWorlds(t *testing.T) {
	r := rand.New(rand.NewSource(402))
	for range 300 {
		w := crowdedWorld(r)
		w.Tick = r.Intn(392)
		players := len(w.Scores)
		inputs := slices.Repeat([]impl.Track{{Inputs: randomInputs(r, 400)}}, players)
		p := impl.Peer{Me: r.Intn(players), Ahead: 8, Tracks: inputs, Base: w, Now: w, Sums: make([]int, w.Tick+1)}
		list := []impl.World{w}
		for range 8 {
			next, ok := impl.Advance(p)
			row, known := impl.RowAt(inputs, p.Now.Tick)
			if !ok || !known || !plainSame(next.Now, plainStep(p.Now, row)) || !slices.Equal(next.Used[len(next.Used)-1], row) {
				t.Fatalf("Advance of %v = %v, %v", p, next, ok)
			}
			p = next
			list = append(list, p.Now)
		}
		if !slices.Equal(p.Saves, savesOf(w, list[:8])) {
			t.Fatalf("the saves of %v are %v", list, p.Saves)
		}
		for k, want := range list[:8] {
			if got, ok := impl.SaveAt(p, w.Tick+k); !ok || !plainSame(got, want) {
				t.Fatalf("SaveAt %d = %v, %v; want %v", w.Tick+k, got, ok, want)
			}
		}
	}
}
