package tests

import (
	"math"
	"math/rand"
	"slices"
	"strings"
	"sync"
	"testing"

	"loop.example/feedswarm/impl"
)

func evGrow(text string) impl.Event { return impl.Event{Kind: impl.EvGrow, Text: text} }

func evLink(a int, b int) impl.Event { return impl.Event{Kind: impl.EvLink, A: a, B: b} }

func evUnlink(a int, b int) impl.Event { return impl.Event{Kind: impl.EvUnlink, A: a, B: b} }

func evHead(a int, b int) impl.Event { return impl.Event{Kind: impl.EvHead, A: a, B: b} }

func evAsk(a int, b int, c int) impl.Event { return impl.Event{Kind: impl.EvAsk, A: a, B: b, C: c} }

func evAnswer(a int, b int, c int, text string) impl.Event {
	return impl.Event{Kind: impl.EvAnswer, A: a, B: b, C: c, Text: text}
}

func evDeliver(place int) impl.Event { return impl.Event{Kind: impl.EvDeliver, A: place} }

func evLose(place int) impl.Event { return impl.Event{Kind: impl.EvLose, A: place} }

// evGrows returns the events that append texts.
func evGrows(texts []string) []impl.Event {
	events := []impl.Event{}
	for _, text := range texts {
		events = append(events, evGrow(text))
	}
	return events
}

// cloneWorld returns a copy of a run that shares no memory with it.
func cloneWorld(w impl.World) impl.World {
	next := impl.World{Secret: w.Secret, Bad: w.Bad, Links: append([]impl.Link{}, w.Links...)}
	for _, f := range w.Feeds {
		next.Feeds = append(next.Feeds, cloneFeed(f))
	}
	for _, list := range w.Asked {
		next.Asked = append(next.Asked, append([]impl.Ask{}, list...))
	}
	for _, p := range w.Net {
		p.Proof = append([]int{}, p.Proof...)
		next.Net = append(next.Net, p)
	}
	return next
}

// equalPieces reports whether two blocks in transit are equal.
func equalPieces(p impl.Piece, other impl.Piece) bool {
	return p.From == other.From && p.To == other.To && p.Length == other.Length && p.Index == other.Index && p.Text == other.Text && slices.Equal(p.Proof, other.Proof)
}

// equalWorlds reports whether two runs are equal, where nil and empty slices are.
func equalWorlds(w impl.World, other impl.World) bool {
	return w.Secret == other.Secret && w.Bad == other.Bad && slices.EqualFunc(w.Feeds, other.Feeds, equalFeeds) && slices.Equal(w.Links, other.Links) &&
		slices.EqualFunc(w.Asked, other.Asked, slices.Equal[[]impl.Ask]) && slices.EqualFunc(w.Net, other.Net, equalPieces)
}

// newWorld returns a run without blocks and connections by the document's rule.
func newWorld(secret int, peers int, bad int) impl.World {
	w := impl.World{Secret: secret, Bad: bad, Asked: make([][]impl.Ask, peers)}
	for range peers {
		w.Feeds = append(w.Feeds, newFeed(secret))
	}
	return w
}

// worldOf returns a run of a writer with texts, and of a reader for each list of bits: its head has as many blocks as there are bits, and it has those that are set.
func worldOf(secret int, bad int, texts []string, parts ...[]bool) impl.World {
	w := newWorld(secret, 1+len(parts), bad)
	if len(texts) > 0 {
		w.Feeds[0] = wholeFeed(secret, texts)
	}
	for place, have := range parts {
		if len(have) > 0 {
			w.Feeds[1+place] = feedOf(secret, texts[:len(have)], have)
		}
	}
	return w
}

// linksOf returns connections, two numbers each.
func linksOf(peers ...int) []impl.Link {
	links := []impl.Link{}
	for place := 0; place < len(peers); place += 2 {
		links = append(links, impl.Link{A: peers[place], B: peers[place+1]})
	}
	return links
}

// allLinks returns the connections of each peer with each other.
func allLinks(peers int) []impl.Link {
	links := []impl.Link{}
	for a := range peers {
		for b := a + 1; b < peers; b++ {
			links = append(links, impl.Link{A: a, B: b})
		}
	}
	return links
}

// withLinks returns a copy of a run with these connections, two numbers each.
func withLinks(w impl.World, peers ...int) impl.World {
	w = cloneWorld(w)
	w.Links = linksOf(peers...)
	return w
}

// withAsked returns a copy of a run with these requests of a peer.
func withAsked(w impl.World, peer int, asks ...impl.Ask) impl.World {
	w = cloneWorld(w)
	w.Asked[peer] = slices.Clone(asks)
	return w
}

// withNet returns a copy of a run with these blocks in transit.
func withNet(w impl.World, pieces ...impl.Piece) impl.World {
	w = cloneWorld(w)
	w.Net = slices.Clone(pieces)
	return cloneWorld(w)
}

// withFeed returns a copy of a run with this feed of a peer.
func withFeed(w impl.World, peer int, f impl.Feed) impl.World {
	w = cloneWorld(w)
	w.Feeds[peer] = cloneFeed(f)
	return w
}

// proofIn returns the proof of a block by the document's rule, for so many first blocks of the writer.
func proofIn(w impl.World, length int, index int) []int {
	return plainRoots(leavesOf(w.Feeds[0].Blocks[:length]), plainProofSpans(length, index))
}

// pieceIn returns a block in transit with the proof for so many first blocks of the writer, whatever the text is.
func pieceIn(w impl.World, from int, to int, length int, index int, text string) impl.Piece {
	return impl.Piece{From: from, To: to, Length: length, Index: index, Text: text, Proof: proofIn(w, length, index)}
}

// twinOf returns another text of two bytes that has the same digest.
func twinOf(text string) string {
	for number := range 1 << 16 {
		twin := string([]byte{byte(number >> 8), byte(number)})
		if twin != text && impl.DigestText(twin) == impl.DigestText(text) {
			return twin
		}
	}
	return text
}

// lackingOf returns the indexes of the blocks that a feed lacks.
func lackingOf(f impl.Feed) []int {
	lacking := []int{}
	for i, there := range f.Have {
		if !there {
			lacking = append(lacking, i)
		}
	}
	return lacking
}

// areConnected reports whether two peers are connected, in either order.
func areConnected(w impl.World, a int, b int) bool {
	return slices.Contains(w.Links, impl.Link{A: a, B: b}) || slices.Contains(w.Links, impl.Link{A: b, B: a})
}

// hasRequest reports whether a peer that exists has a request.
func hasRequest(w impl.World, peer int, a impl.Ask) bool {
	return peer >= 0 && peer < len(w.Asked) && slices.Contains(w.Asked[peer], a)
}

// hasBlockIn reports whether a peer that exists has a block.
func hasBlockIn(w impl.World, peer int, index int) bool {
	return peer >= 0 && peer < len(w.Feeds) && index >= 0 && index < len(w.Feeds[peer].Have) && w.Feeds[peer].Have[index]
}

// worldTexts are texts of all lengths, some of them with the digest of another one.
var worldTexts = []string{"", "a", "b", "\x00", "ab", "wrong", longestText, "12345678", twinOf(""), twinOf("a"), twinOf("ab")}

// randomText returns a text, in most cases one of a few.
func randomText(random *rand.Rand) string {
	if random.Intn(3) > 0 {
		return worldTexts[random.Intn(len(worldTexts))]
	}
	text := make([]byte, random.Intn(impl.MaxText+1))
	random.Read(text)
	return string(text)
}

// sentText returns what a bad peer may send for a block: the text, another one with the same digest or another digest, or one that is too long.
func sentText(random *rand.Rand, text string) string {
	switch random.Intn(8) {
	case 0, 1, 2:
		return text
	case 3:
		return twinOf(text)
	case 4:
		return tooLong[random.Intn(len(tooLong))]
	}
	return randomText(random)
}

// randomRequests returns valid requests, most of them for few blocks.
func randomRequests(random *rand.Rand, peers int, blocks int) []impl.Ask {
	list := []impl.Ask{}
	for range random.Intn(20) {
		a := impl.Ask{Peer: random.Intn(peers), Block: random.Intn(max(1, blocks))}
		if random.Intn(10) == 0 {
			a = impl.Ask{Peer: random.Intn(impl.MaxPeers), Block: random.Intn(impl.MaxBlocks)}
		}
		if longer := append(slices.Clone(list), a); plainWindowValid(longer) {
			list = longer
		}
	}
	return list
}

// randomPiece returns a block in transit of a run whose writer has blocks. In most cases it is requested and has the length of its receiver.
func randomPiece(random *rand.Rand, w impl.World) impl.Piece {
	most, to := len(w.Feeds[0].Blocks), random.Intn(len(w.Feeds))
	from, length := random.Intn(len(w.Feeds)), 1+random.Intn(most)
	if most := w.Feeds[to].Head.Length; most > 0 && random.Intn(4) > 0 {
		length = most
	}
	index := random.Intn(length)
	if asked := w.Asked[to]; len(asked) > 0 && random.Intn(4) > 0 {
		if a := asked[random.Intn(len(asked))]; a.Block < length && a.Peer < len(w.Feeds) {
			from, index = a.Peer, a.Block
		}
	}
	text := sentText(random, w.Feeds[0].Blocks[index])
	return pieceIn(w, from, to, length, index, text[:min(len(text), impl.MaxText)])
}

// randomBitsFor returns bits of blocks, of which none, some, most or all are set.
func randomBitsFor(random *rand.Rand, many int) []bool {
	have, share := make([]bool, many), random.Intn(4)
	for i := range have {
		have[i] = random.Intn(3) < share
	}
	return have
}

// randomWorld returns any valid run whose heads without blocks are not signed, also such as no events lead to.
func randomWorld(random *rand.Rand) impl.World {
	peers, bad := 1+random.Intn(impl.MaxPeers), -1
	if peers > 1 && random.Intn(2) == 0 {
		bad = 1 + random.Intn(peers-1)
	}
	texts := []string{}
	for range []int{random.Intn(4), random.Intn(impl.MaxBlocks + 1), impl.MaxBlocks}[random.Intn(3)] {
		texts = append(texts, randomText(random))
	}
	parts := [][]bool{}
	for range peers - 1 {
		length := len(texts)
		if random.Intn(3) == 0 {
			length = random.Intn(len(texts) + 1)
		}
		parts = append(parts, randomBitsFor(random, length))
	}
	w := worldOf(headSecrets[random.Intn(len(headSecrets))], bad, texts, parts...)
	for peer, f := range w.Feeds {
		for i, there := range f.Have {
			// A peer may have got another text with the right digest.
			if there && peer > 0 && random.Intn(9) == 0 {
				w.Feeds[peer].Blocks[i] = twinOf(f.Blocks[i])
			}
		}
		w.Asked[peer] = randomRequests(random, peers, len(texts))
	}
	for _, l := range allLinks(peers) {
		if random.Intn(2) == 0 {
			w.Links = append(w.Links, l)
		}
	}
	if len(texts) > 0 {
		for range []int{0, random.Intn(impl.MaxNet + 1), impl.MaxNet}[random.Intn(3)] {
			w.Net = append(w.Net, randomPiece(random, w))
		}
	}
	return w
}

// oddNumber returns a number that is a peer, a block or a place in transit in some cases.
func oddNumber(random *rand.Rand) int {
	if random.Intn(4) == 0 {
		return notPeers[random.Intn(len(notPeers))]
	}
	return random.Intn(impl.MaxPeers+2) - 1
}

// notKinds are kinds of events that there are not.
var notKinds = []int{-1, -2, -8, 0, 9, 10, 16, 17, 256 + impl.EvGrow, 1 << 32, 1<<32 + impl.EvLose, math.MinInt, math.MaxInt}

// oddEvent returns any event.
func oddEvent(random *rand.Rand) impl.Event {
	e := impl.Event{Kind: 1 + random.Intn(8), A: oddNumber(random), B: oddNumber(random), C: oddNumber(random), Text: randomText(random)}
	if random.Intn(4) == 0 {
		e.Kind = notKinds[random.Intn(len(notKinds))]
	}
	if random.Intn(4) == 0 {
		e.Text = tooLong[random.Intn(len(tooLong))]
	}
	return e
}

// connectedPairs returns all pairs of connected peers, in both orders.
func connectedPairs(w impl.World) [][2]int {
	pairs := [][2]int{}
	for _, l := range w.Links {
		pairs = append(pairs, [2]int{l.A, l.B}, [2]int{l.B, l.A})
	}
	return pairs
}

// possibleHeads returns the events that give a longer head.
func possibleHeads(w impl.World) []impl.Event {
	events := []impl.Event{}
	for _, pair := range connectedPairs(w) {
		if w.Feeds[pair[0]].Head.Length > w.Feeds[pair[1]].Head.Length {
			events = append(events, evHead(pair[0], pair[1]))
		}
	}
	return events
}

// possibleAsks returns the events that request a block that one peer has and another one with the same head lacks.
func possibleAsks(w impl.World) []impl.Event {
	events := []impl.Event{}
	for _, pair := range connectedPairs(w) {
		if w.Feeds[pair[0]].Head != w.Feeds[pair[1]].Head {
			continue
		}
		for _, c := range lackingOf(w.Feeds[pair[0]]) {
			if hasBlockIn(w, pair[1], c) {
				events = append(events, evAsk(pair[0], pair[1], c))
			}
		}
	}
	return events
}

// possibleAnswers returns the events that answer a request, with what a bad peer may send.
func possibleAnswers(random *rand.Rand, w impl.World) []impl.Event {
	events := []impl.Event{}
	for _, pair := range connectedPairs(w) {
		for _, a := range w.Asked[pair[0]] {
			if a.Peer == pair[1] && hasBlockIn(w, pair[1], a.Block) {
				events = append(events, evAnswer(pair[0], pair[1], a.Block, sentText(random, w.Feeds[0].Blocks[a.Block])))
			}
		}
	}
	return events
}

// oneOf returns one of the events, or another one if there are none.
func oneOf(random *rand.Rand, w impl.World, events []impl.Event) impl.Event {
	if len(events) > 0 {
		return events[random.Intn(len(events))]
	}
	if random.Intn(2) == 0 {
		return oddEvent(random)
	}
	return evLink(random.Intn(len(w.Feeds)), random.Intn(len(w.Feeds)))
}

// likelyEvent returns an event of a valid run that in most cases is possible.
func likelyEvent(random *rand.Rand, w impl.World) impl.Event {
	a, b, place := random.Intn(len(w.Feeds)), random.Intn(len(w.Feeds)), random.Intn(len(w.Net)+1)
	switch roll := random.Intn(40); {
	case roll < 2:
		return evGrow(randomText(random))
	case roll < 6:
		return evLink(a, b)
	case roll < 7:
		return evUnlink(a, b)
	case roll < 14:
		return oneOf(random, w, possibleHeads(w))
	case roll < 23:
		return oneOf(random, w, possibleAsks(w))
	case roll < 30:
		return oneOf(random, w, possibleAnswers(random, w))
	case roll < 37:
		return evDeliver(place)
	case roll < 38:
		return evLose(place)
	}
	return oddEvent(random)
}

// play is a valid run, the first one of its worlds, with events, and the runs after each number of them by the document's rules.
type play struct {
	events []impl.Event
	worlds []impl.World
}

// playFrom returns a play of MaxPlay events.
func playFrom(random *rand.Rand, w impl.World) play {
	made := play{worlds: []impl.World{w}}
	for range impl.MaxPlay {
		e := likelyEvent(random, w)
		w = plainDo(w, e)
		made.events, made.worlds = append(made.events, e), append(made.worlds, w)
	}
	return made
}

// plays returns plays of new runs with every number of peers and every bad peer, and of other valid runs. Nobody changes them.
var plays = sync.OnceValue(func() []play {
	random := rand.New(rand.NewSource(70))
	list := []play{}
	for number := range 4 * impl.MaxPeers * impl.MaxPeers {
		peers, bad := 1+number%impl.MaxPeers, number/impl.MaxPeers%impl.MaxPeers
		if bad == 0 {
			bad = -1
		}
		if bad < peers {
			list = append(list, playFrom(random, newWorld(headSecrets[len(list)%len(headSecrets)], peers, bad)))
		}
	}
	for range 40 {
		list = append(list, playFrom(random, randomWorld(random)))
	}
	return list
})

// worldsMade returns valid runs: some of those of all plays, and others. Nobody changes them.
var worldsMade = sync.OnceValue(func() []impl.World {
	random := rand.New(rand.NewSource(71))
	worlds := []impl.World{}
	for _, p := range plays() {
		for place := random.Intn(15); place < len(p.worlds); place += 15 {
			worlds = append(worlds, p.worlds[place])
		}
	}
	for range 300 {
		worlds = append(worlds, randomWorld(random))
	}
	return worlds
})

// fewWorlds returns some of the valid runs, for tests that do more with each one.
func fewWorlds() []impl.World {
	few := []impl.World{}
	for number, w := range worldsMade() {
		if number%8 == 0 {
			few = append(few, w)
		}
	}
	return few
}

// eventsOf returns events of a kind for a run: all that can change it, and others.
func eventsOf(random *rand.Rand, w impl.World, kind int) []impl.Event {
	events := []impl.Event{}
	switch kind {
	case impl.EvGrow:
		events = evGrows(append(slices.Clone(tooLong[:2]), "", "ab", longestText, randomText(random)))
	case impl.EvLink, impl.EvUnlink, impl.EvHead:
		for a := -1; a <= len(w.Feeds); a++ {
			for b := -1; b <= len(w.Feeds); b++ {
				events = append(events, impl.Event{Kind: kind, A: a, B: b})
			}
		}
	case impl.EvAsk:
		for _, l := range w.Links {
			for _, c := range append(lackingOf(w.Feeds[l.B]), -1, random.Intn(impl.MaxBlocks), impl.MaxBlocks) {
				events = append(events, evAsk(l.B, l.A, c))
			}
			for _, c := range append(lackingOf(w.Feeds[l.A]), random.Intn(impl.MaxBlocks)) {
				events = append(events, evAsk(l.A, l.B, c))
			}
		}
	case impl.EvAnswer:
		for peer, asked := range w.Asked {
			for _, a := range asked {
				for _, text := range append(slices.Clone(tooLong[:1]), sentText(random, strings.Repeat("x", random.Intn(3))), sentText(random, "a")) {
					events = append(events, evAnswer(peer, a.Peer, a.Block, text))
				}
			}
		}
	case impl.EvDeliver, impl.EvLose:
		for place := -1; place <= len(w.Net); place++ {
			events = append(events, impl.Event{Kind: kind, A: place, B: oddNumber(random), C: oddNumber(random)})
		}
	}
	for range 6 {
		e := oddEvent(random)
		e.Kind = kind
		events = append(events, e)
	}
	return events
}

// allKinds are the kinds of events that there are.
var allKinds = []int{impl.EvGrow, impl.EvLink, impl.EvUnlink, impl.EvHead, impl.EvAsk, impl.EvAnswer, impl.EvDeliver, impl.EvLose}

// eachDo calls a function with valid runs, events of some kinds, and the runs afterwards. It returns how many events changed a run.
func eachDo(kinds []int, call func(w impl.World, e impl.Event, got impl.World)) int {
	random := rand.New(rand.NewSource(72))
	changed := 0
	for _, w := range worldsMade() {
		for _, kind := range kinds {
			for _, e := range eventsOf(random, w, kind) {
				got := impl.WorldDo(w, e)
				call(w, e, got)
				if !equalWorlds(got, w) {
					changed++
				}
			}
		}
	}
	return changed
}

// eachPlayed calls a function with the runs after events of valid runs, of no events up to MaxPlay. It returns the number of runs.
func eachPlayed(t *testing.T, call func(start impl.World, w impl.World)) int {
	t.Helper()
	count := 0
	for _, p := range plays() {
		for _, many := range []int{0, 1, 7, 20, 33, 47, 60, 73, impl.MaxPlay - 1, impl.MaxPlay} {
			w, ok := impl.WorldPlay(p.worlds[0], p.events[:many])
			if !ok {
				t.Fatalf("WorldPlay of %+v and %d events fails", p.worlds[0], many)
			}
			call(p.worlds[0], w)
			count++
		}
	}
	return count
}

// mustPlay returns the run after events, any number of them.
func mustPlay(t *testing.T, w impl.World, events ...impl.Event) impl.World {
	t.Helper()
	for part := range slices.Chunk(events, impl.MaxPlay) {
		next, ok := impl.WorldPlay(w, part)
		if !ok {
			t.Fatalf("WorldPlay of %+v and %v fails", w, part)
		}
		w = next
	}
	return w
}

// checkWorldValid fails the test if WorldValid does not return this result.
func checkWorldValid(t *testing.T, w impl.World, want bool) {
	t.Helper()
	if got := impl.WorldValid(w); got != want {
		t.Fatalf("WorldValid of %+v is %v, not %v", w, got, want)
	}
}

// checkDo fails the test if WorldDo does not return this run.
func checkDo(t *testing.T, w impl.World, e impl.Event, want impl.World) {
	t.Helper()
	if got := impl.WorldDo(w, e); !equalWorlds(got, want) {
		t.Fatalf("WorldDo of %+v and %+v is\n%+v, not\n%+v", w, e, got, want)
	}
}

// checkNoChange fails the test if WorldDo of one of the events changes the run.
func checkNoChange(t *testing.T, w impl.World, events ...impl.Event) {
	t.Helper()
	for _, e := range events {
		checkDo(t, w, e, w)
	}
}

// checkPlay fails the test if WorldPlay does not return this run and this result.
func checkPlay(t *testing.T, w impl.World, events []impl.Event, want impl.World, wantOk bool) {
	t.Helper()
	if got, ok := impl.WorldPlay(w, events); ok != wantOk || !equalWorlds(got, want) {
		t.Fatalf("WorldPlay of %+v and %v is\n%+v, %v, not\n%+v, %v", w, events, got, ok, want, wantOk)
	}
}

// checkReach fails the test if WorldReach does not return these peers.
func checkReach(t *testing.T, w impl.World, want ...int) {
	t.Helper()
	if got := impl.WorldReach(w); !slices.Equal(got, want) {
		t.Fatalf("WorldReach of %+v is %v, not %v", w, got, want)
	}
}

// checkCalm fails the test if WorldCalm does not return this run.
func checkCalm(t *testing.T, w impl.World, want impl.World) {
	t.Helper()
	if got := impl.WorldCalm(w); !equalWorlds(got, want) {
		t.Fatalf("WorldCalm of %+v is\n%+v, not\n%+v", w, got, want)
	}
}
