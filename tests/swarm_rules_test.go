package tests

import (
	"math/rand"
	"slices"
	"testing"

	"loop.example/feedswarm/impl"
)

// plainLinksValid judges connections by the document's rule: all that there can be are gone through in order.
func plainLinksValid(w impl.World) bool {
	rest := w.Links
	for _, l := range allLinks(len(w.Feeds)) {
		if len(rest) > 0 && rest[0] == l {
			rest = rest[1:]
		}
	}
	return len(rest) == 0
}

// plainHeadOf returns the head of so many first blocks of the writer by the document's rule.
func plainHeadOf(w impl.World, length int) impl.Head {
	leaves := leavesOf(w.Feeds[0].Blocks[:length])
	return signedBy(w.Secret, length, plainDigest(plainLeaves(leaves), length))
}

// plainFromWriter judges by the document's rule whether a valid feed has what the writer has.
func plainFromWriter(w impl.World, f impl.Feed) bool {
	if f.Head.Length > len(w.Feeds[0].Blocks) || f.Head.Length > 0 && f.Head != plainHeadOf(w, f.Head.Length) {
		return false
	}
	for i, text := range f.Blocks {
		if f.Have[i] && impl.DigestText(text) != impl.DigestText(w.Feeds[0].Blocks[i]) {
			return false
		}
	}
	return true
}

// plainPieceValid judges a block in transit by the document's rule.
func plainPieceValid(w impl.World, p impl.Piece) bool {
	n := len(w.Feeds)
	if p.From < 0 || p.From >= n || p.To < 0 || p.To >= n || len(p.Text) > 8 {
		return false
	}
	return p.Length >= 1 && p.Length <= w.Feeds[0].Head.Length && p.Index >= 0 && p.Index < p.Length && slices.Equal(p.Proof, proofIn(w, p.Length, p.Index))
}

// plainWorldValid judges a run by the document's rule.
func plainWorldValid(w impl.World) bool {
	n := len(w.Feeds)
	if w.Secret < 1 || w.Secret > 996 || n < 1 || n > 6 || w.Bad < -1 || w.Bad == 0 || w.Bad >= n || len(w.Asked) != n || len(w.Net) > 12 {
		return false
	}
	for _, f := range w.Feeds {
		if !plainFeedValid(f) || f.Public != w.Secret*5%997 {
			return false
		}
	}
	if plainCount(w.Feeds[0].Have) != w.Feeds[0].Head.Length {
		return false
	}
	for peer, f := range w.Feeds {
		if !plainFromWriter(w, f) || !plainWindowValid(w.Asked[peer]) {
			return false
		}
	}
	for _, p := range w.Net {
		if !plainPieceValid(w, p) {
			return false
		}
	}
	return plainLinksValid(w)
}

// plainGrow lets the writer append a block by the document's rule.
func plainGrow(w impl.World, text string) impl.World {
	f := w.Feeds[0]
	if len(text) > 8 || len(f.Blocks) >= 16 {
		return w
	}
	w.Feeds[0].Blocks, w.Feeds[0].Have = append(f.Blocks, text), append(f.Have, true)
	w.Feeds[0].Head = plainHeadOf(w, len(f.Blocks)+1)
	return w
}

// plainLink connects or disconnects two peers by the document's rule: of all connections, those are kept that are to be there.
func plainLink(w impl.World, a int, b int, there bool) impl.World {
	changed := impl.Link{A: min(a, b), B: max(a, b)}
	links := []impl.Link{}
	for _, l := range allLinks(len(w.Feeds)) {
		if l == changed && there || l != changed && slices.Contains(w.Links, l) {
			links = append(links, l)
		}
	}
	w.Links = links
	return w
}

// plainGiveHead gives a head by the document's rule.
func plainGiveHead(w impl.World, a int, b int) impl.World {
	if !areConnected(w, a, b) || w.Feeds[a].Head.Length <= w.Feeds[b].Head.Length {
		return w
	}
	m, n := w.Feeds[b].Head.Length, w.Feeds[a].Head.Length
	growth := plainRoots(leavesOf(w.Feeds[0].Blocks[:n]), plainGrowthSpans(n, m))
	w.Feeds[b], _ = plainFeedHead(w.Feeds[b], w.Feeds[a].Head, growth)
	return w
}

// plainRequest requests a block by the document's rule.
func plainRequest(w impl.World, a int, b int, c int) impl.World {
	if !areConnected(w, a, b) || w.Feeds[a].Head.Length != w.Feeds[b].Head.Length || !hasBlockIn(w, b, c) || hasBlockIn(w, a, c) {
		return w
	}
	w.Asked[a], _ = plainAsk(w.Asked[a], impl.Ask{Peer: b, Block: c}, len(lackingOf(w.Feeds[a])) <= 2)
	return w
}

// plainAnswer answers a request by the document's rule.
func plainAnswer(w impl.World, a int, b int, c int, text string) impl.World {
	if !areConnected(w, a, b) || !hasRequest(w, a, impl.Ask{Peer: b, Block: c}) || !hasBlockIn(w, b, c) || len(w.Net) >= 12 {
		return w
	}
	if b != w.Bad {
		text = w.Feeds[b].Blocks[c]
	}
	if len(text) <= 8 {
		w.Net = append(w.Net, pieceIn(w, b, a, w.Feeds[b].Head.Length, c, text))
	}
	return w
}

// plainDeliver delivers a block in transit by the document's rule.
func plainDeliver(w impl.World, place int) impl.World {
	if place < 0 || place >= len(w.Net) {
		return w
	}
	p := w.Net[place]
	w = plainLose(w, place)
	request := impl.Ask{Peer: p.From, Block: p.Index}
	if !hasRequest(w, p.To, request) || w.Feeds[p.To].Head.Length != p.Length {
		return w
	}
	feed, ok := plainFeedPut(w.Feeds[p.To], p.Index, p.Text, p.Proof)
	if ok {
		w.Feeds[p.To] = feed
		w.Asked[p.To], _ = plainGot(w.Asked[p.To], request)
	} else {
		w.Asked[p.To], _ = plainDrop(w.Asked[p.To], p.From)
	}
	return w
}

// plainLose loses a block in transit by the document's rule.
func plainLose(w impl.World, place int) impl.World {
	if place >= 0 && place < len(w.Net) {
		w.Net = slices.Concat(w.Net[:place], w.Net[place+1:])
	}
	return w
}

// plainDo applies an event by the document's rule.
func plainDo(w impl.World, e impl.Event) impl.World {
	if !plainWorldValid(w) {
		return impl.World{}
	}
	w = cloneWorld(w)
	n := len(w.Feeds)
	switch e.Kind {
	case 1:
		w = plainGrow(w, e.Text)
	case 2, 3:
		if e.A >= 0 && e.A < n && e.B >= 0 && e.B < n && e.A != e.B {
			w = plainLink(w, e.A, e.B, e.Kind == 2)
		}
	case 4:
		w = plainGiveHead(w, e.A, e.B)
	case 5:
		w = plainRequest(w, e.A, e.B, e.C)
	case 6:
		w = plainAnswer(w, e.A, e.B, e.C, e.Text)
	case 7:
		w = plainDeliver(w, e.A)
	case 8:
		w = plainLose(w, e.A)
	}
	return cloneWorld(w)
}

// plainPlay applies events by the document's rule.
func plainPlay(w impl.World, events []impl.Event) (impl.World, bool) {
	if !plainWorldValid(w) || len(events) > 80 {
		return impl.World{}, false
	}
	for _, e := range events {
		w = plainDo(w, e)
	}
	return w, true
}

// plainReach returns the reached peers by the document's rule: in each round, connections lead one step further.
func plainReach(w impl.World) []int {
	if !plainWorldValid(w) {
		return nil
	}
	reached := map[int]bool{0: true}
	for range w.Feeds {
		for _, l := range w.Links {
			if reached[l.A] && l.A != w.Bad || reached[l.B] && l.B != w.Bad {
				reached[l.A], reached[l.B] = true, true
			}
		}
	}
	peers := []int{}
	for peer := range w.Feeds {
		if reached[peer] {
			peers = append(peers, peer)
		}
	}
	return peers
}

// plainGiveAll lets a peer give all that it has by the document's rule.
func plainGiveAll(w impl.World, a int, b int) impl.World {
	if a == w.Bad {
		return w
	}
	w = plainGiveHead(w, a, b)
	if w.Feeds[a].Head.Length != w.Feeds[b].Head.Length {
		return w
	}
	for i, text := range w.Feeds[a].Blocks {
		if w.Feeds[a].Have[i] && !w.Feeds[b].Have[i] {
			w.Feeds[b], _ = plainFeedPut(w.Feeds[b], i, text, proofIn(w, w.Feeds[b].Head.Length, i))
		}
	}
	return w
}

// plainCalm lets all peers exchange what they have by the document's rule.
func plainCalm(w impl.World) impl.World {
	if !plainWorldValid(w) {
		return impl.World{}
	}
	w = cloneWorld(w)
	w.Net, w.Asked = nil, make([][]impl.Ask, len(w.Feeds))
	for range w.Feeds {
		for _, l := range w.Links {
			w = plainGiveAll(w, l.A, l.B)
			w = plainGiveAll(w, l.B, l.A)
		}
	}
	return w
}

// checkWorldRules fails the test if a function does not follow the document's rules for these arguments.
func checkWorldRules(t *testing.T, w impl.World, events []impl.Event) {
	t.Helper()
	checkWorldValid(t, w, plainWorldValid(w))
	checkReach(t, w, plainReach(w)...)
	checkCalm(t, w, plainCalm(w))
	for _, e := range events {
		checkDo(t, w, e, plainDo(w, e))
	}
	want, ok := plainPlay(w, events)
	checkPlay(t, w, events, want, ok)
}

// The runs of plays were made by the document's rules, so each event and each number of events has to lead to the same runs.
func TestPlaysFollowTheirRules(t *testing.T) {
	changes := map[int]int{}
	for _, p := range plays() {
		for place, e := range p.events {
			w, next := p.worlds[place], p.worlds[place+1]
			checkDo(t, w, e, next)
			if !equalWorlds(w, next) {
				changes[e.Kind]++
			}
		}
		for _, first := range []int{0, 1, 30, impl.MaxPlay - 1, impl.MaxPlay} {
			for _, last := range []int{first, first + 1, 57, impl.MaxPlay} {
				if first <= last && last <= impl.MaxPlay {
					checkPlay(t, p.worlds[first], p.events[first:last], p.worlds[last], true)
				}
			}
		}
	}
	for _, kind := range allKinds {
		if changes[kind] < 20 {
			t.Errorf("only %d events of the kind %d change a run", changes[kind], kind)
		}
	}
}

func TestWorldsFollowTheirRules(t *testing.T) {
	random := rand.New(rand.NewSource(73))
	for _, w := range worldsMade() {
		events := []impl.Event{}
		for range 6 {
			events = append(events, likelyEvent(random, w), oddEvent(random))
		}
		checkWorldRules(t, w, events)
	}
}

// All events of each kind are tried, each for the same runs.
func TestEventsFollowTheirRules(t *testing.T) {
	random := rand.New(rand.NewSource(74))
	for _, w := range fewWorlds() {
		for _, kind := range append(slices.Clone(allKinds), notKinds...) {
			for _, e := range eventsOf(random, w, kind) {
				checkDo(t, w, e, plainDo(w, e))
			}
		}
	}
}

// mixedWorld returns a run with one part that may be invalid.
func mixedWorld(random *rand.Rand) impl.World {
	w := randomWorld(random)
	peer, number := random.Intn(len(w.Feeds)), oddNumber(random)
	switch random.Intn(12) {
	case 0:
		w.Secret = 1 + random.Intn(996)
	case 1:
		w.Bad = number
	case 2:
		w.Feeds = append(w.Feeds, cloneFeed(w.Feeds[peer]))
	case 3:
		w.Asked = append(w.Asked, nil)
	case 4:
		w.Feeds[peer].Head = plainHeadOf(w, random.Intn(len(w.Feeds[0].Blocks)+1))
	case 5:
		if have := w.Feeds[peer].Have; len(have) > 0 {
			place := random.Intn(len(have))
			have[place], w.Feeds[peer].Blocks[place] = !have[place], randomText(random)
		}
	case 6:
		w.Links = append(w.Links, impl.Link{A: number, B: oddNumber(random)})
	case 7:
		w.Links = slices.Insert(w.Links, random.Intn(len(w.Links)+1), impl.Link{A: peer, B: random.Intn(impl.MaxPeers)})
	case 8:
		w.Asked[peer] = append(w.Asked[peer], impl.Ask{Peer: random.Intn(2), Block: oddNumber(random)})
	case 9:
		if len(w.Feeds[0].Blocks) > 0 {
			w.Net = append(w.Net, randomPiece(random, w))
		}
	case 10:
		if many := len(w.Net); many > 0 {
			p := &w.Net[random.Intn(many)]
			*[]*int{&p.From, &p.To, &p.Length, &p.Index}[random.Intn(4)] = number
		}
	}
	return w
}

func TestMixedWorldsFollowTheirRules(t *testing.T) {
	random := rand.New(rand.NewSource(75))
	valid, rounds := 0, 2500
	for range rounds {
		w := mixedWorld(random)
		events := []impl.Event{oddEvent(random), oddEvent(random)}
		if plainWorldValid(w) {
			events = append(events, likelyEvent(random, w), likelyEvent(random, w), likelyEvent(random, w))
			valid++
		}
		checkWorldRules(t, w, events)
	}
	if valid < rounds/4 || valid > rounds*3/4 {
		t.Errorf("%d of %d runs are valid", valid, rounds)
	}
}
