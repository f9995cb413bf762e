package tests

import (
	"slices"
	"sync"
	"testing"

	"loop.example/feedswarm/impl"
)

// worldCall is a call of a function that returns a run.
type worldCall struct {
	name string
	call func(w impl.World) impl.World
}

// callsFor returns calls of WorldDo with events of all kinds, of WorldPlay with all of these events, and of WorldCalm.
func callsFor(w impl.World) []worldCall {
	events := []impl.Event{evGrow("x"), evGrow(longestText), evGrow(tooLong[0]), {}, evLose(0), evLose(len(w.Net) - 1), evDeliver(len(w.Net))}
	for _, l := range allLinks(min(len(w.Feeds), impl.MaxPeers)) {
		events = append(events, evLink(l.B, l.A), evUnlink(l.A, l.B), evHead(l.A, l.B), evHead(l.B, l.A))
	}
	for place := range w.Net {
		events = append(events, evDeliver(place))
	}
	if plainWorldValid(w) {
		events = append(events, possibleAsks(w)...)
	}
	for peer, asked := range w.Asked {
		for _, a := range asked {
			events = append(events, evAnswer(peer, a.Peer, a.Block, "x"))
		}
	}
	calls := []worldCall{{"WorldCalm", impl.WorldCalm}}
	for _, e := range events {
		calls = append(calls, worldCall{"WorldDo", func(w impl.World) impl.World { return impl.WorldDo(w, e) }})
	}
	for _, part := range [][]impl.Event{nil, events[:2], events[:min(len(events), impl.MaxPlay)], make([]impl.Event, impl.MaxPlay+1)} {
		calls = append(calls, worldCall{"WorldPlay", func(w impl.World) impl.World {
			got, _ := impl.WorldPlay(w, part)
			return got
		}})
	}
	return calls
}

// memoryWorlds returns valid runs of all kinds, and some invalid ones.
func memoryWorlds() []impl.World {
	worlds := baseWorlds()
	for number, w := range worldsMade() {
		if number%6 == 0 {
			worlds = append(worlds, w)
		}
	}
	for number, b := range brokenWorlds() {
		if number%60 == 0 {
			worlds = append(worlds, b.world)
		}
	}
	return worlds
}

// roomyIn returns a list within larger memory, where others lie around it, and the whole of this memory.
func roomyIn[T any](list []T, around T) ([]T, []T) {
	whole := slices.Concat([]T{around}, list, slices.Repeat([]T{around}, 20))
	return whole[1 : 1+len(list)], whole
}

// sameFeedSlices reports whether two feeds have the same memory.
func sameFeedSlices(f impl.Feed, other impl.Feed) bool {
	return sameSlice(f.Blocks, other.Blocks) && sameSlice(f.Have, other.Have)
}

// samePieceSlices reports whether two blocks in transit have the same memory.
func samePieceSlices(p impl.Piece, other impl.Piece) bool {
	return sameSlice(p.Proof, other.Proof)
}

// roomyWorld returns a run of which all parts lie within larger memory, and a function that reports whether all of it is unchanged.
func roomyWorld(w impl.World) (impl.World, func() bool) {
	unchanged := []func() bool{}
	plain := w
	w.Feeds, w.Asked, w.Net = nil, nil, nil
	for _, f := range plain.Feeds {
		roomyOne, same := roomyFeed(f)
		w.Feeds, unchanged = append(w.Feeds, roomyOne), append(unchanged, same)
	}
	for _, list := range plain.Asked {
		roomyOne, same := roomyAsks(list)
		w.Asked, unchanged = append(w.Asked, roomyOne), append(unchanged, same)
	}
	for _, p := range plain.Net {
		proof, whole := roomy(p.Proof)
		before := slices.Clone(whole)
		p.Proof = proof
		w.Net, unchanged = append(w.Net, p), append(unchanged, func() bool { return slices.Equal(whole, before) })
	}
	whole := impl.World{}
	w.Feeds, whole.Feeds = roomyIn(w.Feeds, newFeed(7))
	w.Links, whole.Links = roomyIn(plain.Links, impl.Link{A: 0, B: 1})
	w.Asked, whole.Asked = roomyIn(w.Asked, []impl.Ask{{Peer: 3, Block: 3}})
	w.Net, whole.Net = roomyIn(w.Net, impl.Piece{Length: 1, Text: "around"})
	before := cloneWorld(whole)
	feeds, asked, net := slices.Clone(whole.Feeds), slices.Clone(whole.Asked), slices.Clone(whole.Net)
	return w, func() bool {
		for _, same := range unchanged {
			if !same() {
				return false
			}
		}
		return equalWorlds(whole, before) && slices.EqualFunc(whole.Feeds, feeds, sameFeedSlices) && slices.EqualFunc(whole.Asked, asked, sameSlice[impl.Ask]) && slices.EqualFunc(whole.Net, net, samePieceSlices)
	}
}

// What lies around the parts of a run is neither read nor changed, and neither are the parts changed. This is seen after each call, because a later one could take a change back.
func TestSwarmKeepsItsArguments(t *testing.T) {
	for _, plain := range memoryWorlds() {
		w, unchanged := roomyWorld(plain)
		for _, c := range callsFor(plain) {
			if got, want := c.call(w), c.call(cloneWorld(plain)); !equalWorlds(got, want) {
				t.Fatalf("%s of %+v is %+v or %+v", c.name, plain, got, want)
			}
			if !unchanged() {
				t.Fatalf("%s changes %+v", c.name, plain)
			}
		}
		checkWorldValid(t, w, plainWorldValid(plain))
		checkReach(t, w, plainReach(plain)...)
		if !unchanged() {
			t.Fatalf("WorldValid or WorldReach changes %+v", plain)
		}
	}
}

func TestPlayKeepsItsEvents(t *testing.T) {
	for _, p := range plays() {
		for _, many := range []int{0, 1, 40, impl.MaxPlay} {
			events, whole := roomyIn(p.events[:many], evGrow("around"))
			before := slices.Clone(whole)
			checkPlay(t, p.worlds[0], events, p.worlds[many], true)
			if !slices.Equal(whole, before) {
				t.Fatalf("WorldPlay changes %v", before)
			}
		}
	}
}

// addressesOf returns where the elements of a list lie, up to its capacity.
func addressesOf[T any](list []T) []any {
	list = list[:cap(list)]
	addresses := []any{}
	for place := range list {
		addresses = append(addresses, &list[place])
	}
	return addresses
}

// addressesIn returns where all elements of all parts of a run lie, those that its capacity hides among them.
func addressesIn(w impl.World) []any {
	addresses := slices.Concat(addressesOf(w.Feeds), addressesOf(w.Links), addressesOf(w.Asked), addressesOf(w.Net))
	for _, f := range w.Feeds[:cap(w.Feeds)] {
		addresses = slices.Concat(addresses, addressesOf(f.Blocks), addressesOf(f.Have))
	}
	for _, list := range w.Asked[:cap(w.Asked)] {
		addresses = append(addresses, addressesOf(list)...)
	}
	for _, p := range w.Net[:cap(w.Net)] {
		addresses = append(addresses, addressesOf(p.Proof)...)
	}
	return addresses
}

// apart reports whether no two of the addresses are equal.
func apart(lists ...[]any) bool {
	there := map[any]bool{}
	for _, list := range lists {
		for _, address := range list {
			if there[address] {
				return false
			}
			there[address] = true
		}
	}
	return true
}

// Neither do two results share memory, nor a result and the arguments, nor two parts of one result.
func TestSwarmResultsShareNoMemory(t *testing.T) {
	for _, plain := range memoryWorlds() {
		w := cloneWorld(plain)
		own := addressesIn(w)
		for _, c := range callsFor(plain) {
			first, second := c.call(w), c.call(w)
			if !apart(own, addressesIn(first), addressesIn(second)) {
				t.Fatalf("results of %s of %+v share memory", c.name, plain)
			}
			if !equalWorlds(first, second) {
				t.Fatalf("%s of %+v is %+v or %+v", c.name, plain, first, second)
			}
		}
		first, second := impl.WorldReach(w), impl.WorldReach(w)
		if !apart(own, addressesOf(first), addressesOf(second)) {
			t.Fatalf("results of WorldReach of %+v share memory", plain)
		}
		checkOwnMemory(t, "WorldReach", func() []int { return impl.WorldReach(w) }, -9)
	}
}

// Also where the run lies within larger memory, nothing of it is in a result.
func TestSwarmResultsShareNoLargerMemory(t *testing.T) {
	for number, plain := range memoryWorlds() {
		if number%4 > 0 {
			continue
		}
		w, _ := roomyWorld(plain)
		// The parts that lie around share memory with each other, so only the results are looked at one by one.
		own := map[any]bool{}
		for _, address := range addressesIn(w) {
			own[address] = true
		}
		for _, c := range callsFor(plain) {
			for _, address := range addressesIn(c.call(w)) {
				if own[address] {
					t.Fatalf("the result of %s of %+v shares memory with it", c.name, plain)
				}
			}
		}
	}
}

func TestNewWorldsShareNoMemory(t *testing.T) {
	for peers := 1; peers <= impl.MaxPeers; peers++ {
		first, _ := impl.WorldNew(7, peers, -1)
		second, _ := impl.WorldNew(7, peers, -1)
		if !apart(addressesIn(first), addressesIn(second)) {
			t.Errorf("two results of WorldNew of %d peers share memory", peers)
		}
	}
}

// The results of a first step are the arguments of further ones, which must not share them.
func TestSwarmOfTwoBranchesSharesNoMemory(t *testing.T) {
	for number, plain := range memoryWorlds() {
		if number%3 > 0 {
			continue
		}
		for _, c := range callsFor(plain) {
			trunk := c.call(plain)
			before := cloneWorld(trunk)
			branches := [][]any{addressesIn(trunk)}
			for _, e := range []impl.Event{evGrow("x"), evGrow("y"), evLink(0, 1), evUnlink(0, 1), evHead(0, 1), evDeliver(0), evLose(0)} {
				branch := impl.WorldDo(trunk, e)
				if want := plainDo(before, e); !equalWorlds(branch, want) {
					t.Fatalf("%+v branches with %+v into %+v, not %+v", before, e, branch, want)
				}
				branches = append(branches, addressesIn(branch))
			}
			if !apart(branches...) || !equalWorlds(trunk, before) {
				t.Fatalf("%+v shares memory with its branches", before)
			}
		}
	}
}

// sharedWorld returns a run of which many parts are the same memory, with room behind them.
func sharedWorld() impl.World {
	texts := feedTexts(6)
	have := append(make([]bool, 0, 40), true, false, true, false, true, false)
	w := withLinks(worldOf(7, 3, texts, have, have, have, nil), 0, 1, 0, 2, 1, 2, 2, 3)
	reader := feedOf(7, texts, have)
	reader.Blocks = append(make([]string, 0, 40), reader.Blocks...)
	reader.Have = have
	asked := append(make([]impl.Ask, 0, 40), impl.Ask{Peer: 0, Block: 1}, impl.Ask{Peer: 3, Block: 3})
	for peer := 1; peer <= 3; peer++ {
		w.Feeds[peer], w.Asked[peer] = reader, asked
	}
	p := pieceIn(w, 0, 1, 6, 1, texts[1])
	w.Net = append(make([]impl.Piece, 0, 40), p, p, p)
	w.Net[1].To, w.Net[2].To = 2, 3
	return w
}

// Parts of an argument may be the same memory. They are parts of their own in a result, so that a change of one is no change of others.
func TestSwarmOfSharedParts(t *testing.T) {
	w := sharedWorld()
	before := cloneWorld(w)
	checkWorldValid(t, w, true)
	for _, c := range callsFor(before) {
		got := c.call(w)
		if want := c.call(cloneWorld(before)); !equalWorlds(got, want) {
			t.Fatalf("%s of %+v is %+v, not %+v", c.name, before, got, want)
		}
		if !apart(addressesIn(got)) {
			t.Fatalf("two parts of the result of %s of %+v share memory", c.name, before)
		}
		if !equalWorlds(w, before) {
			t.Fatalf("%s changes %+v", c.name, before)
		}
	}
	one := impl.WorldDo(w, evDeliver(0))
	if !hasBlockIn(one, 1, 1) || hasBlockIn(one, 2, 1) || hasBlockIn(one, 3, 1) || len(one.Asked[1]) != 1 || len(one.Asked[2]) != 2 {
		t.Errorf("the run is %+v", one)
	}
}

// A later change of a run must not be seen in a result, and a change of a result not in the run.
func TestSwarmResultsKeepNoArguments(t *testing.T) {
	for _, plain := range baseWorlds() {
		for _, c := range callsFor(plain) {
			w := cloneWorld(plain)
			got := c.call(w)
			want := cloneWorld(got)
			spoilWorld(w)
			if !equalWorlds(got, want) {
				t.Fatalf("the result of %s keeps its argument %+v", c.name, plain)
			}
			w = cloneWorld(plain)
			spoilWorld(c.call(w))
			if !equalWorlds(w, plain) {
				t.Fatalf("the argument %+v is in the result of %s", plain, c.name)
			}
		}
	}
}

// spoilWorld writes into all memory of a run.
func spoilWorld(w impl.World) {
	for peer := range w.Feeds {
		spoil(w.Feeds[peer])
		w.Feeds[peer].Public = -9
	}
	for _, list := range w.Asked {
		clear(list[:cap(list)])
	}
	for place := range w.Net {
		clear(w.Net[place].Proof)
	}
	clear(w.Links[:cap(w.Links)])
	clear(w.Asked[:cap(w.Asked)])
	clear(w.Net[:cap(w.Net)])
	clear(w.Feeds[:cap(w.Feeds)])
}

// withInsteadOfNone returns a copy of a run with others for its empty slices.
func withInsteadOfNone(w impl.World, empty impl.World) impl.World {
	w = cloneWorld(w)
	for peer, f := range w.Feeds {
		if len(f.Blocks) == 0 {
			w.Feeds[peer].Blocks = empty.Feeds[0].Blocks[:0]
		}
		if len(f.Have) == 0 {
			w.Feeds[peer].Have = empty.Feeds[0].Have[:0]
		}
	}
	for peer, list := range w.Asked {
		if len(list) == 0 {
			w.Asked[peer] = empty.Asked[0][:0]
		}
	}
	for place, p := range w.Net {
		if len(p.Proof) == 0 {
			w.Net[place].Proof = empty.Net[0].Proof[:0]
		}
	}
	if len(w.Links) == 0 {
		w.Links = empty.Links[:0]
	}
	if len(w.Net) == 0 {
		w.Net = empty.Net[:0]
	}
	if len(w.Asked) == 0 {
		w.Asked = empty.Asked[:0]
	}
	if len(w.Feeds) == 0 {
		w.Feeds = empty.Feeds[:0]
	}
	return w
}

func TestSwarmOfNilAndEmptyIsEqual(t *testing.T) {
	none := impl.World{Feeds: []impl.Feed{{}}, Asked: [][]impl.Ask{nil}, Net: []impl.Piece{{}}}
	full := cloneWorld(wholeWorld())
	worlds := append(memoryWorlds(), impl.World{}, impl.World{Secret: 7, Bad: -1})
	for _, w := range worlds {
		withNone, withRoom := withInsteadOfNone(w, none), withInsteadOfNone(w, full)
		for _, c := range callsFor(w) {
			want := c.call(w)
			if !equalWorlds(c.call(withNone), want) || !equalWorlds(c.call(withRoom), want) {
				t.Fatalf("%s of %+v depends on nil", c.name, w)
			}
		}
		for _, other := range []impl.World{withNone, withRoom} {
			checkWorldValid(t, other, plainWorldValid(w))
			checkReach(t, other, plainReach(w)...)
		}
	}
	if !equalWorlds(full, wholeWorld()) {
		t.Errorf("what lies behind an empty slice is changed to %+v", full)
	}
}

// No state is kept between calls: the answers are the same after those for other runs, valid and invalid ones.
func TestSwarmAnswersAreTheSameLater(t *testing.T) {
	worlds := memoryWorlds()
	answers := [][]impl.World{}
	for _, w := range worlds {
		list := []impl.World{}
		for _, c := range callsFor(w) {
			list = append(list, c.call(w))
		}
		answers = append(answers, list)
	}
	for number, w := range slices.Backward(worlds) {
		for place, c := range callsFor(w) {
			if got := c.call(w); !equalWorlds(got, answers[number][place]) {
				t.Fatalf("%s of %+v is %+v, and %+v later", c.name, w, answers[number][place], got)
			}
		}
	}
}

// Calls at the same time, of the same run, give the same results.
func TestSwarmAtTheSameTime(t *testing.T) {
	for _, p := range plays()[:30] {
		var players sync.WaitGroup
		results := make([]impl.World, 8)
		for player := range results {
			players.Add(1)
			go func() {
				defer players.Done()
				results[player], _ = impl.WorldPlay(p.worlds[0], p.events)
				impl.WorldCalm(p.worlds[0])
			}()
		}
		players.Wait()
		for _, got := range results {
			if !equalWorlds(got, p.worlds[impl.MaxPlay]) {
				t.Fatalf("WorldPlay of %+v at the same time is %+v", p.worlds[0], got)
			}
		}
	}
}
