package tests

import (
	"math/rand"
	"reflect"
	"slices"
	"strconv"
	"strings"
	"testing"

	"loop.example/g03315/impl"
)

// This file has what the tests of chapter 4 share: games whose lockstep worlds are known, peers that
// follow from what is known alone, and a look at the memory of arguments and results.

const arena = "############/#1.o....o.2#/#.##..o.##.#/#3..o..o..4#/############"

// game is what a fault and all inputs, 400 of each player, give in lockstep.
type game struct {
	level  impl.Level
	seed   int
	delay  int
	inputs [][]int
	fault  impl.Fault
	worlds []impl.World
	sums   []int
}

// plainFaulty is a step with a fault that is valid.
func plainFaulty(w impl.World, row []int, f impl.Fault) impl.World {
	next := plainStep(w, row)
	if f.Tick == next.Tick {
		next.Scores[f.Player] = min(next.Scores[f.Player]+f.Add, 1000000)
	}
	return next
}

func gameOf(l impl.Level, seed int, delay int, f impl.Fault, inputs [][]int) *game {
	g := &game{level: l, seed: seed, delay: delay, fault: f, inputs: inputs}
	w := impl.World{Level: l, Seed: seed, Scores: make([]int, len(inputs))}
	for k := range inputs {
		w.Bodies = append(w.Bodies, plainPlayer(l, k))
	}
	g.worlds = []impl.World{w}
	for tick := range 400 {
		row := make([]int, len(inputs))
		for k := range row {
			row[k] = inputs[k][tick]
		}
		w = plainFaulty(w, row, f)
		g.worlds = append(g.worlds, w)
	}
	for _, w := range g.worlds {
		g.sums = append(g.sums, impl.WorldSum(w))
	}
	return g
}

func newGame(r *rand.Rand, l impl.Level, players int, delay int, f impl.Fault) *game {
	var inputs [][]int
	for range players {
		inputs = append(inputs, append(make([]int, delay), randomInputs(r, 400-delay)...))
	}
	return gameOf(l, r.Intn(65536), delay, f, inputs)
}

// arenaGame is a game of some players without a fault.
func arenaGame(t *testing.T, players int, delay int) *game {
	t.Helper()
	return newGame(rand.New(rand.NewSource(400)), levelOf(t, arena), players, delay, impl.Fault{})
}

// packet tells some inputs of a player, whoever is told.
func (g *game) packet(from int, first int, end int) impl.Packet {
	return impl.Packet{From: from, First: first, Inputs: slices.Clone(g.inputs[from][first:end]), Acks: make([]int, len(g.inputs))}
}

// plainPeer is all that a peer follows from.
type plainPeer struct {
	game  *game
	me    int
	ahead int
	known []int
	base  int
	now   int
	rolls int
	again int
}

func newPlainPeer(g *game, me int, ahead int) *plainPeer {
	p := &plainPeer{game: g, me: me, ahead: ahead}
	for range g.inputs {
		p.known = append(p.known, g.delay)
	}
	return p
}

// row is what is known and predicted for a tick.
func (p *plainPeer) row(tick int) []int {
	row := make([]int, len(p.known))
	for k, known := range p.known {
		row[k] = plainPredict(p.game.inputs[k][:known], tick)
	}
	return row
}

// saved are the worlds from the confirmed one to the present one, both included.
func (p *plainPeer) saved() []impl.World {
	w := p.game.worlds[p.base]
	list := []impl.World{w}
	for tick := p.base; tick < p.now; tick++ {
		w = plainFaulty(w, p.row(tick), p.game.fault)
		list = append(list, w)
	}
	return list
}

// peer is the peer itself, in memory of its own.
func (p *plainPeer) peer() impl.Peer {
	list := p.saved()
	q := impl.Peer{
		Me: p.me, Delay: p.game.delay, Ahead: p.ahead, Seed: p.game.seed, Fault: p.game.fault, Rolls: p.rolls, Again: p.again,
		Base: deepCopy(list[0]), Now: deepCopy(list[len(list)-1]),
	}
	for k, known := range p.known {
		q.Tracks = append(q.Tracks, trackOf(slices.Clone(p.game.inputs[k][:known])...))
	}
	for tick := p.base; tick < p.now; tick++ {
		q.Used = append(q.Used, p.row(tick))
	}
	q.Saves = savesOf(list[0], list[:len(list)-1])
	q.Sums = slices.Clone(p.game.sums[:p.base+1])
	return q
}

// savesOf tells worlds for the ticks from that of the confirmed one on.
func savesOf(base impl.World, list []impl.World) []impl.Save {
	var texts []string
	for _, w := range list {
		texts = append(texts, impl.WorldBytes(w))
	}
	return savesOfTexts(base, texts...)
}

func savesOfTexts(base impl.World, texts ...string) []impl.Save {
	var saves []impl.Save
	before := impl.WorldBytes(base)
	for k, text := range texts {
		saves = append(saves, impl.Save{Tick: base.Tick + k, Delta: impl.DeltaText(before, text)})
		before = text
	}
	return saves
}

// press makes one more input known of the player that the peer has.
func (p *plainPeer) press() bool {
	if p.known[p.me] != p.now+p.game.delay || p.known[p.me] == 400 {
		return false
	}
	p.known[p.me]++
	return true
}

func (p *plainPeer) advance() bool {
	if p.now-p.base >= p.ahead || p.now >= p.known[p.me] {
		return false
	}
	p.now++
	return true
}

func (p *plainPeer) confirm() { p.base = max(p.base, min(p.now, slices.Min(p.known))) }

// learn makes inputs known up to an end, and counts the ticks for which they were not foreseen.
func (p *plainPeer) learn(from int, first int, end int) bool {
	if from == p.me || first > p.known[from] {
		return false
	}
	old := *p
	old.known = slices.Clone(p.known)
	p.known[from] = max(p.known[from], end)
	for tick := p.base; tick < p.now; tick++ {
		if !slices.Equal(old.row(tick), p.row(tick)) {
			p.rolls = min(p.rolls+1, 1000000)
			p.again = min(p.again+p.now-tick, 1000000)
			break
		}
	}
	p.confirm()
	return true
}

// halfway is a peer of player 1 of three: worlds are confirmed up to 6, it has reached 9, and all
// inputs are known up to 12 at least.
func halfway(t *testing.T) impl.Peer {
	t.Helper()
	p := &plainPeer{game: arenaGame(t, 3, 2), me: 1, ahead: 5, known: []int{12, 13, 14}, base: 6, now: 9, rolls: 4, again: 7}
	return p.peer()
}

// copiedPeer shares no memory with a peer.
func copiedPeer(p impl.Peer) impl.Peer {
	p.Tracks, p.Base, p.Now = copiedTracks(p.Tracks), deepCopy(p.Base), deepCopy(p.Now)
	p.Used, p.Saves, p.Sums = slices.Clone(p.Used), slices.Clone(p.Saves), slices.Clone(p.Sums)
	for k := range p.Used {
		p.Used[k] = slices.Clone(p.Used[k])
	}
	return p
}

// samePeer compares two peers without the package.
func samePeer(p impl.Peer, q impl.Peer) bool {
	numbers := func(x impl.Peer) [6]int { return [6]int{x.Me, x.Delay, x.Ahead, x.Seed, x.Rolls, x.Again} }
	return numbers(p) == numbers(q) && p.Fault == q.Fault && plainTracksSame(p.Tracks, q.Tracks) && plainSame(p.Base, q.Base) && plainSame(p.Now, q.Now) &&
		slices.EqualFunc(p.Used, q.Used, slices.Equal[[]int]) && slices.Equal(p.Saves, q.Saves) && slices.Equal(p.Sums, q.Sums)
}

// wantPeer sees that a call gives a peer and says whether it did anything.
func wantPeer(t *testing.T, what string, got impl.Peer, ok bool, want impl.Peer, wantOk bool) {
	t.Helper()
	if ok != wantOk || !samePeer(got, want) {
		t.Fatalf("%s gives %v and\n%v; want %v and\n%v", what, ok, got, wantOk, want)
	}
}

// sparePeer is the same peer with more behind the end of each list.
func sparePeer(p impl.Peer) impl.Peer {
	p = copiedPeer(p)
	p.Tracks, p.Sums = spareTracks(p.Tracks), spareInts(p.Sums)
	p.Base, p.Now = spareWorld(p.Base), spareWorld(p.Now)
	for k := range p.Used {
		p.Used[k] = spareInts(p.Used[k])
	}
	p.Used = append(p.Used, []int{97}, []int{98})[:len(p.Used)]
	p.Saves = append(p.Saves, impl.Save{Tick: 99, Delta: "spare"}, impl.Save{Delta: "more"})[:len(p.Saves)]
	return p
}

func spareWorld(w impl.World) impl.World {
	w.Level.Rows = append(w.Level.Rows, "spare", "more")[:len(w.Level.Rows)]
	w.Scores = spareInts(w.Scores)
	w.Bodies = append(w.Bodies, impl.Body{Kind: 7}, impl.Body{Kind: 8}, impl.Body{Kind: 9})[:len(w.Bodies)]
	return w
}

// written is all that a value has, with what is behind the end of each list.
func written(v reflect.Value) string {
	var out strings.Builder
	switch v.Kind() {
	case reflect.Struct:
		for i := range v.NumField() {
			out.WriteString(written(v.Field(i)) + ";")
		}
	case reflect.Slice:
		whole := v.Slice(0, v.Cap())
		out.WriteString(strconv.Itoa(v.Len()) + "[")
		for i := range whole.Len() {
			out.WriteString(written(whole.Index(i)) + ",")
		}
		out.WriteString("]")
	case reflect.String:
		out.WriteString(strconv.Quote(v.String()))
	case reflect.Int:
		out.WriteString(strconv.FormatInt(v.Int(), 10))
	case reflect.Bool:
		out.WriteString(strconv.FormatBool(v.Bool()))
	default:
		panic("a kind that no type of the package has: " + v.Kind().String())
	}
	return out.String()
}

// place is the memory of a list, from its beginning up to what is behind it.
type place struct{ begin, end uintptr }

// placesOf are the places of all lists in a value.
func placesOf(v reflect.Value) []place {
	var list []place
	switch v.Kind() {
	case reflect.Struct:
		for i := range v.NumField() {
			list = append(list, placesOf(v.Field(i))...)
		}
	case reflect.Slice:
		if v.Cap() > 0 {
			list = append(list, place{v.Pointer(), v.Pointer() + uintptr(v.Cap())*v.Type().Elem().Size()})
		}
		for i := range v.Len() {
			list = append(list, placesOf(v.Index(i))...)
		}
	}
	return list
}

// memoryIsApart reports whether no two lists of the values have a place in common.
func memoryIsApart(values ...any) bool {
	var list []place
	for _, v := range values {
		list = append(list, placesOf(reflect.ValueOf(v))...)
	}
	slices.SortFunc(list, func(a place, b place) int { return int(int64(a.begin) - int64(b.begin)) })
	for i := 1; i < len(list); i++ {
		if list[i].begin < list[i-1].end {
			return false
		}
	}
	return true
}
