package tests

import (
	"reflect"
	"testing"

	"loop.example/g03315/impl"
)

// peerCalls are all functions that take a peer, with arguments that do something and others that
// do not. Each gives its results.
func peerCalls() map[string]func(p impl.Peer) any {
	calls := map[string]func(p impl.Peer) any{
		"PeerOk":      func(p impl.Peer) any { return impl.PeerOk(p) },
		"CanAdvance":  func(p impl.Peer) any { return impl.CanAdvance(p) },
		"Advance":     func(p impl.Peer) any { q, _ := impl.Advance(p); return q },
		"FirstWrong":  func(p impl.Peer) any { return impl.FirstWrong(p) },
		"Repair":      func(p impl.Peer) any { q, _ := impl.Repair(p); return q },
		"Confirm":     func(p impl.Peer) any { return impl.Confirm(p) },
		"LeadOf":      func(p impl.Peer) any { return impl.LeadOf(p) },
		"Press":       func(p impl.Peer) any { q, _ := impl.PressInput(p, 7); return q },
		"Press no 16": func(p impl.Peer) any { q, _ := impl.PressInput(p, 16); return q },
	}
	for tick := range 14 {
		name := " " + impl.FormatInt(tick)
		calls["SaveAt"+name] = func(p impl.Peer) any { w, _ := impl.SaveAt(p, tick); return w }
		calls["RollTo"+name] = func(p impl.Peer) any { q, _ := impl.RollTo(p, tick); return q }
		calls["Tell"+name] = func(p impl.Peer) any { x, _ := impl.Tell(p, tick); return x }
		calls["Replayed"+name] = func(p impl.Peer) any { w, _ := impl.Replayed(p, tick); return w }
	}
	return calls
}

// memoryPeers are peers that can do much, and some that are wrong or not valid.
func memoryPeers(t *testing.T) []impl.Peer {
	p := plainPeer{game: turnGame(t, 8), me: 1, ahead: 8, base: 6, now: 12, known: []int{6, 12}}
	q := plainPeer{game: arenaGame(t, 2, 3), ahead: 8, base: 0, now: 0, known: []int{3, 3}}
	list := []impl.Peer{p.peer(), p.corrected(20, 13), p.corrected(9, 12), q.peer(), halfway(t)}
	for _, how := range []func(p *impl.Peer){
		func(p *impl.Peer) { p.Saves[2].Delta = "\x05" }, func(p *impl.Peer) { p.Saves[5].Delta = "\x05" }, func(p *impl.Peer) { p.Ahead = 5 },
		func(p *impl.Peer) { p.Tracks[0].Inputs[0] = 16 },
	} {
		list = append(list, changedPeer(p.corrected(20, 13), how))
	}
	return list
}

// TestPeersKeepTheirMemory also looks at what is behind the ends of the lists.
func TestPeersKeepTheirMemory(t *testing.T) {
	for k, p := range memoryPeers(t) {
		for name, call := range peerCalls() {
			spare := sparePeer(p)
			before := written(reflect.ValueOf(spare))
			result := call(spare)
			if written(reflect.ValueOf(spare)) != before {
				t.Errorf("%s of peer %d changes its argument", name, k)
			}
			if !memoryIsApart(result, spare) {
				t.Errorf("%s of peer %d gives shared memory", name, k)
			}
			if again := call(p); !sameWritten(again, result) || !sameWritten(call(spare), result) {
				t.Errorf("%s of peer %d gives %v and then %v", name, k, result, again)
			}
		}
	}
}

// sameWritten compares two values without what is behind the ends of their lists.
func sameWritten(a any, b any) bool {
	switch a := a.(type) {
	case impl.Peer:
		return samePeer(a, b.(impl.Peer))
	case impl.World:
		return plainSame(a, b.(impl.World))
	case impl.Packet:
		return plainPacketSame(a, b.(impl.Packet))
	}
	return a == b
}

func TestLearnKeepsItsMemory(t *testing.T) {
	for k, p := range memoryPeers(t) {
		for _, x := range []impl.Packet{
			{First: 6, Inputs: []int{2, 2, 1, 1}, Acks: []int{1, 2}}, {First: 3, Inputs: []int{2, 2}, Acks: []int{1, 2}}, {First: 9, Acks: []int{1, 2}},
			{First: 6, Inputs: []int{2, 16}, Acks: []int{1, 2}}, {From: 1, First: 3, Inputs: []int{5, 6}, Acks: []int{1, 2}}, {},
		} {
			x.Inputs, x.Acks = spareInts(x.Inputs), spareInts(x.Acks)
			spare := sparePeer(p)
			before := written(reflect.ValueOf(spare)) + written(reflect.ValueOf(x))
			q, _ := impl.Learn(spare, x)
			if written(reflect.ValueOf(spare))+written(reflect.ValueOf(x)) != before {
				t.Errorf("Learn of %v by peer %d changes its arguments", x, k)
			}
			if !memoryIsApart(q, spare, x) {
				t.Errorf("Learn of %v by peer %d gives shared memory", x, k)
			}
		}
	}
}
