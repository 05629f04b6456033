package tests

import (
	"slices"
	"testing"

	"loop.example/g03315/impl"
)

// turnGame is a game in which player 0 runs to the right, and to the left from a tick on.
func turnGame(t *testing.T, turn int) *game {
	inputs := [][]int{slices.Repeat([]int{impl.PressRight}, 400), slices.Repeat([]int{impl.PressLeft, impl.PressFire}, 200)}
	for tick := turn; tick < 400; tick++ {
		inputs[0][tick] = impl.PressLeft
	}
	return gameOf(levelOf(t, arena), 9, 0, impl.Fault{}, inputs)
}

// corrected is a peer that has played as p, and knows now what p did not know then.
func (p *plainPeer) corrected(known ...int) impl.Peer {
	q := p.peer()
	for k, n := range known {
		q.Tracks[k].Inputs = slices.Clone(p.game.inputs[k][:n])
	}
	return q
}

func TestFirstWrong(t *testing.T) {
	for turn := 4; turn < 20; turn++ {
		p := &plainPeer{game: turnGame(t, turn), me: 1, ahead: 8, base: 6, now: 14, known: []int{6, 14}}
		for known := 6; known < 20; known++ {
			// The last known input is foreseen to be held until more is known.
			want := -1
			if turn >= 6 && turn < min(known, 14) {
				want = turn
			}
			if got := impl.FirstWrong(p.corrected(known, 14)); got != want {
				t.Errorf("FirstWrong with a turn at %d, known up to %d = %d; want %d", turn, known, got, want)
			}
		}
	}
	good := halfway(t)
	if got := impl.FirstWrong(good); got != -1 {
		t.Errorf("FirstWrong of right rows = %d", got)
	}
	for k := range 3 {
		for player := range 3 {
			q := copiedPeer(good)
			q.Used[k][player] ^= 4
			if got := impl.FirstWrong(q); got != 6+k {
				t.Errorf("FirstWrong with player %d wrong at %d = %d", player, 6+k, got)
			}
			q.Used[2][0] ^= 1
			if got := impl.FirstWrong(q); got != 6+k {
				t.Errorf("FirstWrong with player %d wrong at %d and another at 8 = %d", player, 6+k, got)
			}
		}
	}
}

func TestRepair(t *testing.T) {
	for turn := 4; turn < 17; turn++ {
		g := turnGame(t, turn)
		for now := 6; now <= 14; now++ {
			p := plainPeer{game: g, me: 1, ahead: 8, base: 6, now: now, known: []int{6, 15}, rolls: 2, again: 30}
			q := p.corrected(15, 15)
			want := p
			want.known = []int{15, 15}
			if turn >= 6 && turn < now {
				want.rolls++
				want.again += now - turn
			}
			got, ok := impl.Repair(q)
			wantPeer(t, "Repair of "+impl.FormatInt(now-turn)+" ticks", got, ok, want.peer(), true)
			if !memoryIsApart(got, q) || impl.FirstWrong(got) != -1 {
				t.Fatal("Repair shares memory, or leaves something wrong")
			}
			twice, ok := impl.Repair(got)
			wantPeer(t, "Repair of what is right", twice, ok, got, true)
		}
	}
}

func TestRepairCountsUpToTheLimit(t *testing.T) {
	for _, c := range []struct{ rolls, again, wantRolls, wantAgain int }{
		{0, 0, 1, 4}, {999998, 999995, 999999, 999999}, {999999, 999996, 1000000, 1000000}, {1000000, 999997, 1000000, 1000000}, {1000000, 1000000, 1000000, 1000000},
	} {
		p := plainPeer{game: turnGame(t, 10), me: 1, ahead: 8, base: 6, now: 14, known: []int{6, 15}, rolls: c.rolls, again: c.again}
		got, ok := impl.Repair(p.corrected(15, 15))
		if !ok || got.Rolls != c.wantRolls || got.Again != c.wantAgain || !impl.PeerOk(got) {
			t.Errorf("Repair with %d and %d gives %d and %d, %v", c.rolls, c.again, got.Rolls, got.Again, ok)
		}
	}
}

// TestRepairWithAFault reaches the tick of the fault once more.
func TestRepairWithAFault(t *testing.T) {
	for tick := 5; tick < 16; tick++ {
		g := turnGame(t, 9)
		g = gameOf(g.level, g.seed, 0, impl.Fault{Tick: tick, Player: 0, Add: 7}, g.inputs)
		p := plainPeer{game: g, me: 1, ahead: 8, base: 6, now: 14, known: []int{6, 15}}
		want := p
		want.known, want.rolls, want.again = []int{15, 15}, 1, 5
		got, ok := impl.Repair(p.corrected(15, 15))
		wantPeer(t, "Repair with a fault at "+impl.FormatInt(tick), got, ok, want.peer(), true)
	}
}

// TestRepairWithoutSaves has one save that cannot be read: the wrong tick needs its own one and the
// one before it, and none else.
func TestRepairWithoutSaves(t *testing.T) {
	for turn := 6; turn < 12; turn++ {
		p := plainPeer{game: turnGame(t, turn), me: 1, ahead: 8, base: 6, now: 12, known: []int{6, 15}}
		var texts []string
		for _, w := range p.saved()[:6] {
			texts = append(texts, impl.WorldBytes(w))
		}
		for lost := 6; lost < 12; lost++ {
			q := p.corrected(15, 15)
			spoiled := slices.Clone(texts)
			spoiled[lost-6] = "no world"
			q.Saves = savesOfTexts(q.Base, spoiled...)
			got, ok := impl.Repair(q)
			if lost == turn || lost == turn-1 {
				wantPeer(t, "Repair without a save that it needs", got, ok, q, false)
				continue
			}
			want := p
			want.known, want.rolls, want.again = []int{15, 15}, 1, 12-turn
			expected := want.peer()
			if lost < turn {
				for tick := turn; tick < 12; tick++ {
					spoiled[tick-6] = impl.WorldBytes(want.saved()[tick-6])
				}
				expected.Saves = savesOfTexts(q.Base, spoiled...)
			}
			wantPeer(t, "Repair without a save that it does not need", got, ok, expected, true)
		}
	}
	q := halfway(t)
	q.Saves = []impl.Save{{Tick: 6}, {Tick: 7}, {Tick: 8}}
	got, ok := impl.Repair(q)
	wantPeer(t, "Repair of what is right without saves", got, ok, q, true)
}

// confirmedTo is a peer whose Base has moved to a tick; list has its worlds from that of Base on.
func confirmedTo(q impl.Peer, list []impl.World, tick int) impl.Peer {
	n := tick - q.Base.Tick
	q = copiedPeer(q)
	for _, w := range list[1 : n+1] {
		q.Sums = append(q.Sums, impl.WorldSum(w))
	}
	q.Base, q.Used = deepCopy(list[n]), q.Used[n:]
	q.Saves = savesOf(q.Base, list[n:len(list)-1])
	return q
}

func TestConfirm(t *testing.T) {
	g := arenaGame(t, 3, 0)
	for _, base := range []int{0, 5, 392} {
		for lead := range 9 {
			for known := base; known <= min(base+10, 400); known++ {
				for k := range 3 {
					p := plainPeer{game: g, me: 1, ahead: 8, base: base, now: base + lead, known: slices.Repeat([]int{400}, 3), rolls: 2, again: 3}
					p.known[k] = known
					if p.known[1] < p.now {
						continue
					}
					q := p.peer()
					p.confirm()
					got := impl.Confirm(q)
					wantPeer(t, "Confirm", got, true, p.peer(), true)
					if !impl.PeerOk(got) || !memoryIsApart(got, q) {
						t.Fatal("Confirm gives a peer that is not valid, or shares memory")
					}
					wantPeer(t, "Confirm twice", impl.Confirm(got), true, got, true)
				}
			}
		}
	}
}

// TestConfirmUpToWhatIsWrong stops before the first wrong row, and leaves it as it is.
func TestConfirmUpToWhatIsWrong(t *testing.T) {
	for turn := 6; turn < 16; turn++ {
		g := turnGame(t, turn)
		for known := 6; known < 16; known++ {
			p := plainPeer{game: g, me: 1, ahead: 8, base: 6, now: 14, known: []int{6, 15}}
			q := p.corrected(known, 15)
			want := confirmedTo(q, p.saved(), min(turn, known, 14))
			wantPeer(t, "Confirm with a turn at "+impl.FormatInt(turn), impl.Confirm(q), true, want, true)
		}
	}
}

// TestConfirmUpToWhatCannotBeRead needs each save but the first one, until Now is the next world.
func TestConfirmUpToWhatCannotBeRead(t *testing.T) {
	g := arenaGame(t, 2, 0)
	for lead := 1; lead <= 8; lead++ {
		p := plainPeer{game: g, me: 1, ahead: 8, base: 6, now: 6 + lead, known: []int{20, 20}}
		list := p.saved()
		for lost := range lead {
			texts := []string{}
			for _, w := range list[:lead] {
				texts = append(texts, impl.WorldBytes(w))
			}
			texts[lost] = "no world"
			q := p.peer()
			q.Saves = savesOfTexts(q.Base, texts...)
			want := confirmedTo(q, list, 6+lead)
			if lost > 0 {
				want = confirmedTo(q, list, 6+lost-1)
				want.Saves = savesOfTexts(want.Base, append([]string{impl.WorldBytes(want.Base)}, texts[lost:]...)...)
			}
			if lost == 1 {
				want = q
			}
			wantPeer(t, "Confirm with a save that is lost", impl.Confirm(q), true, want, true)
		}
	}
}

// TestConfirmTakesWhatWasSaved has a next world that does not follow from Base.
func TestConfirmTakesWhatWasSaved(t *testing.T) {
	q := halfway(t)
	list := []impl.World{q.Base, {}, {}, q.Now}
	for k := 1; k < 3; k++ {
		list[k], _ = impl.SaveAt(q, 6+k)
	}
	list[0].Seed, list[1].Seed, list[3].Seed = 1, 2, 3
	q.Base, q.Now = list[0], list[3]
	q.Saves = savesOf(q.Base, list[:3])
	wantPeer(t, "Confirm of other worlds", impl.Confirm(q), true, confirmedTo(q, list, 9), true)
}
