package tests

import (
	"math"
	"slices"
	"testing"

	"loop.example/g03315/impl"
)

// This file has what the tests of chapter 6 share: lists of sums, worlds that are not valid, and a
// second reading of the chapter's rules.

// shortLists are all lists of up to so many elements 0 and 1.
func shortLists(length int) [][]int {
	lists := [][]int{nil}
	for begin := 0; len(lists[begin]) < length; begin++ {
		for n := range 2 {
			lists = append(lists, append(slices.Clone(lists[begin]), n))
		}
	}
	return lists
}

// eachPair calls something with each two of some lists.
func eachPair(lists [][]int, do func(a []int, b []int)) {
	for _, a := range lists {
		for _, b := range lists {
			do(a, b)
		}
	}
}

// partingLists have n and m elements, and agree before an index only.
func partingLists(n int, m int, at int) ([]int, []int) {
	a, b := make([]int, n), make([]int, m)
	for k := range a {
		a[k] = 3*k + 1
	}
	for k := range b {
		b[k] = 3*k + 1
		if k >= at {
			b[k]++
		}
	}
	return a, b
}

// plainAgree looks for an index among those that both lists have.
func plainAgree(a []int, b []int, k int) bool {
	for i := 0; i < len(a) && i < len(b); i++ {
		if i == k {
			return a[i] == b[i]
		}
	}
	return false
}

func plainFirst(a []int, b []int) int {
	for k := 0; k < len(a) && k < len(b); k++ {
		if !plainAgree(a, b, k) {
			return k
		}
	}
	return -1
}

// plainHunt returns what a hunt finds in lists of which the shorter one has no more than 1000001
// elements.
func plainHunt(a []int, b []int) (int, int) {
	high := min(len(a), len(b)) - 1
	if high < 1 || a[0] != b[0] || a[high] == b[high] {
		return -1, 0
	}
	low, steps := 0, 2
	for high-low > 1 {
		if middle := low + (high-low)/2; plainAgree(a, b, middle) {
			low = middle
		} else {
			high = middle
		}
		steps++
	}
	return high, steps
}

// plainPart is what one part of a world holds.
type plainPart struct {
	name    string
	numbers []int
}

// plainParts are the parts of a valid world.
func plainParts(w impl.World) []plainPart {
	list := []plainPart{{"seed", []int{w.Seed}}}
	for k := range w.Scores {
		list = append(list, plainPart{"score " + string(rune('0'+k)), []int{w.Scores[k]}})
	}
	for k, b := range w.Bodies {
		name := "body "
		if k >= 10 {
			name += string(rune('0' + k/10))
		}
		numbers := []int{b.Kind, b.Owner, b.X, b.Y, b.VX, b.VY, b.Aim, b.Life, b.Timer}
		list = append(list, plainPart{name + string(rune('0'+k%10)), numbers})
	}
	return list
}

// plainSum is the number for a part.
func plainSum(p plainPart) int {
	if len(p.numbers) == 1 {
		return p.numbers[0]
	}
	return plainChecksum(impl.PackInts(p.numbers))
}

// plainDiffer returns what only one world has, or both have otherwise.
func plainDiffer(a impl.World, b impl.World) []string {
	inA, inB := map[string][]int{}, map[string][]int{}
	for _, p := range plainParts(a) {
		inA[p.name] = p.numbers
	}
	var names []string
	for _, p := range plainParts(b) {
		inB[p.name] = p.numbers
		if inA[p.name] == nil {
			names = append(names, p.name)
		}
	}
	var first []string
	for _, p := range plainParts(a) {
		if !slices.Equal(p.numbers, inB[p.name]) {
			first = append(first, p.name)
		}
	}
	return append(first, names...)
}

// plainBlame asks of each list whether all others are equal and it is not.
func plainBlame(lists [][]int, tick int) int {
	for k := range lists {
		var others []int
		for i, list := range lists {
			if tick < 0 || tick >= len(list) {
				return -1
			}
			if i != k {
				others = append(others, list[tick])
			}
		}
		if len(others) >= 2 && slices.Min(others) == slices.Max(others) && lists[k][tick] != others[0] {
			return k
		}
	}
	return -1
}

func sameAlarm(a impl.Alarm, b impl.Alarm) bool {
	return a.Tick == b.Tick && slices.Equal(a.Parts, b.Parts)
}

// busyWorld is a valid world of two players, an item and two shots.
func busyWorld(t *testing.T) impl.World {
	t.Helper()
	w := duel(t)
	w.Scores = []int{0, 7}
	w.Bodies = append(w.Bodies, impl.Body{Kind: 2, X: 40, Y: 20}, impl.Body{Kind: 1, Owner: 1, X: 70, Y: 20, Timer: 9}, impl.Body{Kind: 1, X: 20, Y: 20, VX: -6, Timer: 25})
	return w
}

// changedWorld is a world of which one thing is changed.
func changedWorld(w impl.World, how func(w *impl.World)) impl.World {
	w = deepCopy(w)
	how(&w)
	return w
}

// badWorlds are worlds of which one thing is not valid.
func badWorlds(t *testing.T) []impl.World {
	list := []impl.World{{}}
	change := func(how func(w *impl.World)) { list = append(list, changedWorld(busyWorld(t), how)) }
	for _, n := range outside(0, 100000) {
		change(func(w *impl.World) { w.Tick = n })
	}
	for _, n := range outside(0, 65535) {
		change(func(w *impl.World) { w.Seed = n })
	}
	for _, n := range outside(0, 1000000) {
		change(func(w *impl.World) { w.Scores[1] = n })
	}
	for _, n := range []int{math.MinInt, 16, math.MaxInt} {
		change(func(w *impl.World) { w.Bodies[4].VY = n })
	}
	for _, l := range []impl.Level{{}, boxOf(2, 8), boxOf(3, 3), withTile(busyWorld(t).Level, 0, 0, '.'), withTile(busyWorld(t).Level, 2, 2, '#')} {
		change(func(w *impl.World) { w.Level = l })
	}
	change(func(w *impl.World) { w.Scores = nil })
	change(func(w *impl.World) { w.Scores = w.Scores[:1] })
	change(func(w *impl.World) { w.Scores = append(w.Scores, 0) })
	change(func(w *impl.World) { w.Bodies = nil })
	change(func(w *impl.World) { w.Bodies = w.Bodies[:1] })
	change(func(w *impl.World) { w.Bodies[0], w.Bodies[1] = w.Bodies[1], w.Bodies[0] })
	change(func(w *impl.World) { w.Bodies = append(w.Bodies, slices.Repeat(w.Bodies[2:3], 20)...) })
	change(func(w *impl.World) { w.Bodies[2].Kind = 3 })
	return list
}

func TestBadWorldsAreBad(t *testing.T) {
	if !impl.WorldOk(busyWorld(t)) {
		t.Error("WorldOk of the world without a change is false")
	}
	for k, bad := range badWorlds(t) {
		if impl.WorldOk(bad) {
			t.Errorf("WorldOk of the world %d is true: %v", k, bad)
		}
	}
}

// confirmedPeer is a valid peer of the arena for two players that has confirmed some ticks, and has
// these sums.
func confirmedPeer(t *testing.T, sums []int) impl.Peer {
	t.Helper()
	at := len(sums) - 1
	p := (&plainPeer{game: arenaGame(t, 2, 0), ahead: 8, base: at, now: at, known: []int{at, at}}).peer()
	p.Sums = slices.Clone(sums)
	if !impl.PeerOk(p) {
		t.Fatalf("PeerOk is false with the sums %v", sums)
	}
	return p
}
