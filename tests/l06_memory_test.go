package tests

import (
	"reflect"
	"slices"
	"testing"

	"loop.example/g03315/impl"
)

// checkMemory sees that a call does not write into its arguments, that its result is memory of its
// own, and that it gives the same one again. The arguments have more behind the ends of their lists.
func checkMemory(t *testing.T, name string, call func() any, arguments ...any) {
	t.Helper()
	look := func() string {
		text := ""
		for _, a := range arguments {
			text += written(reflect.ValueOf(a)) + "|"
		}
		return text
	}
	before := look()
	result := call()
	if look() != before {
		t.Errorf("%s changes an argument", name)
	}
	if !memoryIsApart(append(slices.Clone(arguments), result)...) {
		t.Errorf("%s gives shared memory", name)
	}
	if again := call(); !reflect.DeepEqual(again, result) || !memoryIsApart(again, result) {
		t.Errorf("%s gives %v and then %v", name, result, again)
	}
}

func TestHuntsKeepTheirMemory(t *testing.T) {
	for _, at := range []int{0, 1, 5, 8, 9} {
		a, b := partingLists(9, 8, at)
		a, b = spareInts(a), spareInts(b)
		checkMemory(t, "SumsAgree", func() any { return impl.SumsAgree(a, b, 8) }, a, b)
		checkMemory(t, "FirstDifference", func() any { return impl.FirstDifference(a, b) }, a, b)
		checkMemory(t, "StartHunt", func() any { h, _ := impl.StartHunt(a, b); return h }, a, b)
		checkMemory(t, "RunHunt", func() any { k, steps := impl.RunHunt(a, b); return [2]int{k, steps} }, a, b)
		// What is behind the ends of the lists is the same in both, and no difference.
		if h, ok := impl.StartHunt(a[:8], b[:8]); at >= 8 && (ok || h != impl.Hunt{}) {
			t.Errorf("StartHunt = %v where nothing differs", h)
		}
		lists := append([][]int{a, b, spareInts(a)}, b)[:3]
		checkMemory(t, "Blame", func() any { return impl.Blame(lists, 7) }, lists)
	}
}

func TestPartsKeepTheirMemory(t *testing.T) {
	worlds := []impl.World{busyWorld(t), worldOf(t, arena, 3, 5), {}, badWorlds(t)[2]}
	for _, v := range worlds {
		for _, w := range worlds {
			v, w = spareWorld(deepCopy(v)), spareWorld(deepCopy(w))
			checkMemory(t, "DifferOf", func() any { return impl.DifferOf(v, w) }, v, w)
			checkMemory(t, "PartsOf", func() any { return impl.PartsOf(v) }, v)
			for _, name := range []string{"seed", "score 0", "body 1", "body 9"} {
				checkMemory(t, "PartSum of "+name, func() any { return impl.PartSum(v, name) }, v)
			}
		}
	}
}

func TestAlarmsKeepTheirMemory(t *testing.T) {
	for _, a := range alarmTexts() {
		a.Parts = append(slices.Clone(a.Parts), "spare", "more", "and more")[:len(a.Parts)]
		checkMemory(t, "FormatAlarm", func() any { return impl.FormatAlarm(a) }, a)
	}
	for text := range alarmTexts() {
		checkMemory(t, "ParseAlarm", func() any { a, _ := impl.ParseAlarm(text); return a })
	}
}

func TestAlarmedPeersKeepTheirMemory(t *testing.T) {
	right, wrong := faultyPair(t, impl.Fault{Tick: 3, Player: 2, Add: 4}, 6, 7)
	peers := []impl.Peer{right, wrong, halfway(t), badPeers(t)["an input 16"], {}}
	for _, p := range peers {
		for _, q := range peers {
			p, q = sparePeer(p), sparePeer(q)
			checkMemory(t, "Diagnose", func() any { a, _ := impl.Diagnose(p, q); return a }, p, q)
			checkMemory(t, "CleanUpTo", func() any { return impl.CleanUpTo(p, q) }, p, q)
		}
		for _, x := range append(goodPackets(), badPackets()[:9]...) {
			x.Inputs, x.Acks = spareInts(x.Inputs), spareInts(x.Acks)
			checkMemory(t, "Suspects", func() any { return impl.Suspects(p, x) }, p, x)
		}
	}
}
