package tests

import (
	"slices"
	"strings"
	"testing"

	"loop.example/feedswarm/impl"
)

// The values of this test are computed from the document's rules outside of the program.
func TestSwarmValues(t *testing.T) {
	w, ok := impl.WorldNew(7, 3, 2)
	if !ok {
		t.Fatal("WorldNew fails")
	}
	w = mustPlay(t, w, evGrow("a"), evGrow("b"), evLink(2, 1), evLink(1, 0), evHead(0, 1), evAsk(1, 0, 1), evAsk(1, 0, 0), evAnswer(1, 0, 1, "ignored"))
	two := impl.Head{Length: 2, Digest: 913, Sign: 83}
	writer := impl.Feed{Public: 35, Head: two, Blocks: []string{"a", "b"}, Have: []bool{true, true}}
	reader := impl.Feed{Public: 35, Head: two, Blocks: []string{"", ""}, Have: []bool{false, false}}
	want := impl.World{
		Secret: 7, Bad: 2,
		Feeds: []impl.Feed{writer, reader, {Public: 35}},
		Links: []impl.Link{{A: 0, B: 1}, {A: 1, B: 2}},
		Asked: [][]impl.Ask{{}, {{Peer: 0, Block: 1}, {Peer: 0, Block: 0}}, {}},
		Net:   []impl.Piece{{From: 0, To: 1, Length: 2, Index: 1, Text: "b", Proof: []int{943}}},
	}
	if !equalWorlds(w, want) {
		t.Fatalf("the run is\n%+v, not\n%+v", w, want)
	}
	w = mustPlay(t, w, evGrow(""), evHead(0, 1), evAnswer(1, 0, 0, ""), evDeliver(0))
	three := impl.Head{Length: 3, Digest: 717, Sign: 778}
	want.Feeds[0] = impl.Feed{Public: 35, Head: three, Blocks: []string{"a", "b", ""}, Have: []bool{true, true, true}}
	want.Feeds[1] = impl.Feed{Public: 35, Head: three, Blocks: []string{"", "", ""}, Have: []bool{false, false, false}}
	want.Net = []impl.Piece{{From: 0, To: 1, Length: 3, Index: 0, Text: "a", Proof: []int{944, 11}}}
	if !equalWorlds(w, want) {
		t.Fatalf("the run is\n%+v, not\n%+v", w, want)
	}
	w = mustPlay(t, w, evDeliver(0), evHead(1, 2), evAsk(2, 1, 0), evAnswer(2, 1, 0, ""), evLose(0))
	want.Feeds[1] = impl.Feed{Public: 35, Head: three, Blocks: []string{"a", "", ""}, Have: []bool{true, false, false}}
	want.Feeds[2] = impl.Feed{Public: 35, Head: three, Blocks: []string{"", "", ""}, Have: []bool{false, false, false}}
	want.Asked = [][]impl.Ask{{}, {{Peer: 0, Block: 1}}, {{Peer: 1, Block: 0}}}
	want.Net = nil
	if !equalWorlds(w, want) {
		t.Fatalf("the run is\n%+v, not\n%+v", w, want)
	}
	checkReach(t, w, 0, 1, 2)
	whole := want.Feeds[0]
	calm := impl.World{Secret: 7, Bad: 2, Feeds: []impl.Feed{whole, whole, whole}, Links: want.Links, Asked: make([][]impl.Ask, 3)}
	checkCalm(t, w, calm)
}

// The texts "ff" and "fe" have the digests of "b" and "a", computed outside of the program.
func TestAnswersOfTheBadPeer(t *testing.T) {
	w := withLinks(worldOf(7, 1, []string{"a", "b"}, []bool{true, true}, []bool{false, false}), 0, 1, 0, 2, 1, 2)
	w = withAsked(w, 2, impl.Ask{Peer: 1, Block: 1}, impl.Ask{Peer: 1, Block: 0}, impl.Ask{Peer: 0, Block: 1})
	for _, text := range []string{"b", "ff", "", "a", "fe", "x", longestText, "\x00"} {
		sent := withNet(w, impl.Piece{From: 1, To: 2, Length: 2, Index: 1, Text: text, Proof: []int{943}})
		checkDo(t, w, evAnswer(2, 1, 1, text), sent)
		if text == "b" || text == "ff" {
			// What has the right digest is stored, and both requests for the block are gone.
			stored := withAsked(withFeed(w, 2, withText(w.Feeds[2], 1, text)), 2, impl.Ask{Peer: 1, Block: 0})
			checkDo(t, sent, evDeliver(0), stored)
			continue
		}
		// What has another one is not, and both requests to the bad peer are gone.
		checkDo(t, sent, evDeliver(0), withAsked(w, 2, impl.Ask{Peer: 0, Block: 1}))
	}
	for _, text := range tooLong {
		checkNoChange(t, w, evAnswer(2, 1, 1, text), evAnswer(2, 1, 0, text))
		// The text of the event is not what another peer sends, so it may be too long.
		checkDo(t, w, evAnswer(2, 0, 1, text), withNet(w, impl.Piece{From: 0, To: 2, Length: 2, Index: 1, Text: "b", Proof: []int{943}}))
	}
	// A bad peer cannot answer for a block that it lacks, or that nobody requests of it.
	lacking := withFeed(w, 1, withoutBlock(w.Feeds[1], 1))
	checkNoChange(t, lacking, evAnswer(2, 1, 1, "b"), evAnswer(2, 1, 1, "ff"), evAnswer(2, 1, 1, "x"))
	checkNoChange(t, withAsked(w, 2), evAnswer(2, 1, 1, "b"), evAnswer(2, 1, 0, "a"))
	// It sends the text of the event also if it could send the block.
	checkDo(t, lacking, evAnswer(2, 1, 0, ""), withNet(lacking, impl.Piece{From: 1, To: 2, Length: 2, Index: 0, Text: "", Proof: []int{944}}))
	// Without a bad peer, the block is sent.
	good := cloneWorld(w)
	good.Bad = -1
	checkDo(t, good, evAnswer(2, 1, 1, "x"), withNet(good, impl.Piece{From: 1, To: 2, Length: 2, Index: 1, Text: "b", Proof: []int{943}}))
	good.Bad = 2
	checkDo(t, good, evAnswer(2, 1, 1, "x"), withNet(good, impl.Piece{From: 1, To: 2, Length: 2, Index: 1, Text: "b", Proof: []int{943}}))
}

// A peer that got another text with the right digest gives this text.
func TestAnswersOfAPeerWithAnotherText(t *testing.T) {
	w := withLinks(worldOf(7, -1, []string{"a", "b"}, []bool{false, true}, []bool{false, false}), 1, 2)
	w = withFeed(w, 1, withText(w.Feeds[1], 1, "ff"))
	checkWorldValid(t, w, true)
	w = mustPlay(t, w, evAsk(2, 1, 1), evAnswer(2, 1, 1, ""), evDeliver(0))
	if !hasBlockIn(w, 2, 1) || w.Feeds[2].Blocks[1] != "ff" {
		t.Errorf("the run is %+v", w)
	}
	checkWorldValid(t, w, true)
}

func TestSmallestAndLargestWorlds(t *testing.T) {
	for _, secret := range []int{1, 996} {
		for _, peers := range []int{1, 2, impl.MaxPeers} {
			for _, bad := range []int{-1, 1, peers - 1} {
				if bad == 0 || bad >= peers {
					continue
				}
				w, ok := impl.WorldNew(secret, peers, bad)
				if want := newWorld(secret, peers, bad); !ok || !equalWorlds(w, want) {
					t.Fatalf("WorldNew of %d, %d and %d is %+v", secret, peers, bad, w)
				}
				for _, l := range allLinks(peers) {
					w = impl.WorldDo(w, evLink(l.B, l.A))
				}
				if !slices.Equal(w.Links, allLinks(peers)) {
					t.Fatalf("the connections are %v", w.Links)
				}
				w = mustPlay(t, w, evGrows(feedTexts(impl.MaxBlocks))...)
				want := withLinks(worldOf(secret, bad, feedTexts(impl.MaxBlocks), slices.Repeat([][]bool{slices.Repeat([]bool{true}, impl.MaxBlocks)}, peers-1)...))
				want.Links = allLinks(peers)
				checkCalm(t, w, want)
			}
		}
	}
}

// With one peer, the only event that can change anything is that the feed grows.
func TestWorldOfTheWriterOnly(t *testing.T) {
	w := newWorld(7, 1, -1)
	for range impl.MaxBlocks + 1 {
		checkNoChange(t, w, evLink(0, 0), evUnlink(0, 0), evHead(0, 0), evAsk(0, 0, 0), evAnswer(0, 0, 0, "a"), evDeliver(0), evLose(0), evLink(0, 1), evHead(0, 1))
		checkReach(t, w, 0)
		checkCalm(t, w, w)
		w = impl.WorldDo(w, evGrow("a"))
	}
}

func TestGrowFromNoBlockToMaxBlocks(t *testing.T) {
	texts := append(feedTexts(impl.MaxBlocks-3), "", longestText, "\x00")
	w := newWorld(7, 2, -1)
	for many, text := range texts {
		for _, long := range tooLong {
			checkNoChange(t, w, evGrow(long))
		}
		want := worldOf(7, -1, texts[:many+1], nil)
		checkDo(t, w, evGrow(text), want)
		// The numbers of the event have no effect.
		checkDo(t, w, impl.Event{Kind: impl.EvGrow, A: -1, B: 99, C: 7, Text: text}, want)
		w = want
	}
	checkNoChange(t, w, evGrow(""), evGrow("a"), evGrow(longestText), evGrow(tooLong[0]))
}

// Readers, requests and blocks in transit stay as they are when the feed grows.
func TestGrowLeavesTheOthers(t *testing.T) {
	for _, w := range baseWorlds() {
		got := impl.WorldDo(w, evGrow("x"))
		if got.Feeds[0].Head.Length != min(w.Feeds[0].Head.Length+1, impl.MaxBlocks) {
			t.Fatalf("WorldDo of %+v is %+v", w, got)
		}
		checkWorldValid(t, got, true)
		if !equalWorlds(withFeed(got, 0, w.Feeds[0]), w) {
			t.Fatalf("WorldDo of %+v is %+v", w, got)
		}
	}
}

func TestConnections(t *testing.T) {
	w := newWorld(7, 4, -1)
	checkDo(t, w, evLink(1, 3), withLinks(w, 1, 3))
	checkDo(t, w, evLink(3, 1), withLinks(w, 1, 3))
	w = withLinks(w, 1, 3)
	checkNoChange(t, w, evLink(1, 3), evLink(3, 1), evLink(1, 1), evLink(0, 0), evUnlink(1, 1), evUnlink(0, 1), evUnlink(3, 0), evUnlink(2, 3))
	checkDo(t, w, evLink(0, 2), withLinks(w, 0, 2, 1, 3))
	checkDo(t, w, evLink(0, 3), withLinks(w, 0, 3, 1, 3))
	checkDo(t, w, evLink(2, 1), withLinks(w, 1, 2, 1, 3))
	checkDo(t, w, evLink(3, 2), withLinks(w, 1, 3, 2, 3))
	checkDo(t, w, evUnlink(1, 3), newWorld(7, 4, -1))
	checkDo(t, w, evUnlink(3, 1), newWorld(7, 4, -1))
	w = withLinks(w, 0, 1, 0, 3, 1, 2, 2, 3)
	checkDo(t, w, evUnlink(1, 0), withLinks(w, 0, 3, 1, 2, 2, 3))
	checkDo(t, w, evUnlink(2, 1), withLinks(w, 0, 1, 0, 3, 2, 3))
	checkDo(t, w, evUnlink(2, 3), withLinks(w, 0, 1, 0, 3, 1, 2))
	checkNoChange(t, w, evLink(-1, 0), evLink(0, -1), evLink(0, 4), evLink(4, 0), evLink(-2, -1), evLink(4, 5), evUnlink(-1, 0), evUnlink(0, 4))
}

// Requests and blocks in transit stay when a connection ends.
func TestUnlinkLeavesRequestsAndBlocksInTransit(t *testing.T) {
	w := wholeWorld()
	checkDo(t, w, evUnlink(1, 0), withLinks(w, 0, 2, 1, 2, 2, 3))
	checkDo(t, w, evUnlink(2, 1), withLinks(w, 0, 1, 0, 2, 2, 3))
}

// headsWorld returns a run of a writer with four blocks and readers with heads of four, two, two and no blocks, all of them connected.
func headsWorld() impl.World {
	w := worldOf(7, 2, feedTexts(4), []bool{true, false, true, false}, []bool{false, true}, []bool{true, true}, nil)
	w.Links = allLinks(5)
	return w
}

func TestHeads(t *testing.T) {
	w := headsWorld()
	texts := feedTexts(4)
	// To a peer with a shorter head, by the writer, by a reader and by a bad peer; blocks that are there are kept.
	checkDo(t, w, evHead(0, 3), withFeed(w, 3, feedOf(7, texts, []bool{true, true, false, false})))
	checkDo(t, w, evHead(1, 3), withFeed(w, 3, feedOf(7, texts, []bool{true, true, false, false})))
	checkDo(t, w, evHead(1, 2), withFeed(w, 2, feedOf(7, texts, []bool{false, true, false, false})))
	checkDo(t, w, evHead(2, 4), withFeed(w, 4, emptyFeed(7, texts[:2])))
	checkDo(t, w, evHead(0, 4), withFeed(w, 4, emptyFeed(7, texts)))
	// To a peer with the same head, with a longer one, to the writer, to itself, and by a peer without one.
	checkNoChange(t, w, evHead(0, 1), evHead(2, 3), evHead(3, 2), evHead(2, 1), evHead(3, 0), evHead(1, 0), evHead(0, 0), evHead(3, 3))
	checkNoChange(t, w, evHead(4, 0), evHead(4, 1), evHead(4, 2), evHead(4, 4))
	// To a peer that is not connected, or does not exist.
	w.Links = linksOf(0, 1, 2, 3)
	checkNoChange(t, w, evHead(0, 3), evHead(0, 4), evHead(1, 2), evHead(-1, 2), evHead(0, -1), evHead(0, 5), evHead(5, 0))
	// Both have no head.
	checkNoChange(t, withLinks(newWorld(7, 2, -1), 0, 1), evHead(0, 1), evHead(1, 0))
}

// Heads of all lengths are given to readers with shorter ones.
func TestHeadsOfAllLengths(t *testing.T) {
	texts := feedTexts(impl.MaxBlocks)
	for many := range impl.MaxBlocks + 1 {
		for from := range many + 1 {
			for to := range many + 1 {
				w := withLinks(worldOf(7, -1, texts[:many], make([]bool, from), make([]bool, to)), 1, 2)
				want := w
				if from > to {
					want = withFeed(w, 2, emptyFeed(7, texts[:from]))
				}
				checkDo(t, w, evHead(1, 2), want)
			}
		}
	}
}

// The heads without blocks may be signed ones, which are no longer than others without blocks.
func TestSignedHeadsWithoutBlocks(t *testing.T) {
	signed := impl.Feed{Public: 35, Head: signedBy(7, 0, 5)}
	for _, w := range []impl.World{withFeed(newWorld(7, 2, -1), 0, signed), withFeed(newWorld(7, 2, -1), 1, signed), withFeed(withFeed(newWorld(7, 2, -1), 0, emptyFeed(7, nil)), 1, signed)} {
		w = withLinks(w, 0, 1)
		checkWorldValid(t, w, true)
		checkNoChange(t, w, evHead(0, 1), evHead(1, 0), evAsk(0, 1, 0), evAsk(1, 0, 0))
		checkCalm(t, w, w)
		grown := withFeed(w, 0, wholeFeed(7, []string{"a"}))
		checkDo(t, w, evGrow("a"), grown)
		checkDo(t, grown, evHead(0, 1), withFeed(grown, 1, emptyFeed(7, []string{"a"})))
		checkCalm(t, grown, withFeed(grown, 1, wholeFeed(7, []string{"a"})))
	}
}

func TestRequests(t *testing.T) {
	texts := feedTexts(6)
	w := worldOf(7, 3, texts, make([]bool, 6), []bool{true, false, true, true, true, true}, slices.Repeat([]bool{true}, 6), make([]bool, 5))
	w.Links = allLinks(5)
	ask := func(peer int, block int) impl.Ask { return impl.Ask{Peer: peer, Block: block} }
	checkDo(t, w, evAsk(1, 0, 5), withAsked(w, 1, ask(0, 5)))
	checkDo(t, w, evAsk(1, 2, 0), withAsked(w, 1, ask(2, 0)))
	checkDo(t, w, evAsk(1, 3, 1), withAsked(w, 1, ask(3, 1)))
	// The asked peer lacks the block, the asking one has it, or the heads differ.
	checkNoChange(t, w, evAsk(1, 2, 1), evAsk(2, 1, 1), evAsk(2, 0, 0), evAsk(3, 0, 0), evAsk(0, 3, 0), evAsk(4, 0, 0), evAsk(1, 4, 0), evAsk(4, 3, 2))
	// There is no such block, no such peer, or the peer is itself.
	checkNoChange(t, w, evAsk(1, 0, -1), evAsk(1, 0, 6), evAsk(1, 0, 15), evAsk(1, 0, 16), evAsk(1, 5, 0), evAsk(5, 1, 0), evAsk(-1, 0, 0), evAsk(1, -1, 0), evAsk(1, 1, 0))
	// A second time, to another peer before the end, and of more blocks than MaxAsked to one peer.
	w = withAsked(w, 1, ask(0, 5), ask(0, 4), ask(3, 1))
	checkNoChange(t, w, evAsk(1, 0, 5), evAsk(1, 3, 1), evAsk(1, 3, 5), evAsk(1, 2, 4), evAsk(1, 0, 1))
	checkDo(t, w, evAsk(1, 0, 0), withAsked(w, 1, ask(0, 5), ask(0, 4), ask(3, 1), ask(0, 0)))
	w = withAsked(w, 1, ask(0, 5), ask(0, 4), ask(3, 1), ask(0, 0))
	checkNoChange(t, w, evAsk(1, 0, 2), evAsk(1, 0, 3))
	checkDo(t, w, evAsk(1, 3, 2), withAsked(w, 1, ask(0, 5), ask(0, 4), ask(3, 1), ask(0, 0), ask(3, 2)))
	// Not connected, although everything else fits.
	w.Links = linksOf(0, 3, 1, 2)
	checkNoChange(t, w, evAsk(1, 3, 2), evAsk(2, 0, 1))
}

// The end begins when a peer lacks at most MaxTwice blocks. Then a block is requested of two peers, but not of a third one.
func TestRequestsAtTheEnd(t *testing.T) {
	for many := 1; many <= impl.MaxBlocks; many++ {
		all := slices.Repeat([]bool{true}, many)
		for lacking := 1; lacking <= min(many, 5); lacking++ {
			have := slices.Clone(all)
			for i := range lacking {
				have[i*(many-1)/max(1, lacking-1)] = false
			}
			lacked := many - plainCount(have)
			w := worldOf(7, -1, feedTexts(many), all, all, have)
			w.Links = allLinks(4)
			c := slices.Index(have, false)
			once := withAsked(w, 3, impl.Ask{Peer: 1, Block: c})
			checkDo(t, w, evAsk(3, 1, c), once)
			if lacked > impl.MaxTwice {
				checkNoChange(t, once, evAsk(3, 0, c), evAsk(3, 2, c), evAsk(3, 1, c))
				continue
			}
			twice := withAsked(w, 3, impl.Ask{Peer: 1, Block: c}, impl.Ask{Peer: 0, Block: c})
			checkDo(t, once, evAsk(3, 0, c), twice)
			checkNoChange(t, once, evAsk(3, 1, c))
			checkNoChange(t, twice, evAsk(3, 2, c), evAsk(3, 0, c), evAsk(3, 1, c))
		}
	}
}

// What the peer lacks of its own head counts, not what it lacks of that of the writer.
func TestEndOfAShorterHead(t *testing.T) {
	w := worldOf(7, -1, feedTexts(9), []bool{true, false, false}, []bool{true, true, true}, []bool{true, true, true})
	w.Links = allLinks(4)
	w = withAsked(w, 1, impl.Ask{Peer: 2, Block: 1})
	checkDo(t, w, evAsk(1, 3, 1), withAsked(w, 1, impl.Ask{Peer: 2, Block: 1}, impl.Ask{Peer: 3, Block: 1}))
}

// answersWorld returns a run in which peer 1 has requested blocks of the writer, of peer 2, which lacks one of them and has a longer head, and of peer 3, which is not connected any more.
func answersWorld() impl.World {
	w := withLinks(worldOf(7, 4, feedTexts(5), make([]bool, 3), []bool{true, false, true, true, true}, []bool{true, true, true}, nil), 0, 1, 0, 3, 1, 2)
	return withAsked(w, 1, impl.Ask{Peer: 0, Block: 1}, impl.Ask{Peer: 2, Block: 1}, impl.Ask{Peer: 2, Block: 2}, impl.Ask{Peer: 3, Block: 2}, impl.Ask{Peer: 2, Block: 4})
}

func TestAnswers(t *testing.T) {
	w := answersWorld()
	texts := feedTexts(5)
	checkWorldValid(t, w, true)
	// The proof is for the head of the sender, also where the receiver has a shorter one.
	checkDo(t, w, evAnswer(1, 0, 1, ""), withNet(w, pieceIn(w, 0, 1, 5, 1, texts[1])))
	checkDo(t, w, evAnswer(1, 2, 2, "x"), withNet(w, pieceIn(w, 2, 1, 5, 2, texts[2])))
	checkDo(t, w, evAnswer(1, 2, 4, "x"), withNet(w, pieceIn(w, 2, 1, 5, 4, texts[4])))
	// Without a request, of a block that the peer lacks, and of a peer that is not connected any more.
	checkNoChange(t, w, evAnswer(1, 0, 0, ""), evAnswer(1, 0, 2, ""), evAnswer(1, 2, 0, ""), evAnswer(0, 1, 1, ""), evAnswer(2, 1, 2, ""), evAnswer(1, 2, 1, ""), evAnswer(1, 3, 2, ""))
	checkNoChange(t, w, evAnswer(1, 1, 1, ""), evAnswer(-1, 0, 1, ""), evAnswer(1, -1, 1, ""), evAnswer(5, 0, 1, ""), evAnswer(1, 5, 1, ""), evAnswer(1, 0, -1, ""), evAnswer(1, 0, 16, ""))
	// The same answer can be sent again and again, as long as there is room.
	sent := pieceIn(w, 0, 1, 5, 1, texts[1])
	for many := range impl.MaxNet {
		before := withNet(w, slices.Repeat([]impl.Piece{sent}, many)...)
		checkDo(t, before, evAnswer(1, 0, 1, "y"), withNet(w, slices.Repeat([]impl.Piece{sent}, many+1)...))
	}
	full := withNet(w, slices.Repeat([]impl.Piece{sent}, impl.MaxNet)...)
	checkNoChange(t, full, evAnswer(1, 0, 1, ""), evAnswer(1, 2, 2, ""))
	// After one is lost, there is room again, at the end.
	room := impl.WorldDo(full, evLose(3))
	checkDo(t, room, evAnswer(1, 2, 2, ""), withNet(w, append(slices.Repeat([]impl.Piece{sent}, impl.MaxNet-1), pieceIn(w, 2, 1, 5, 2, texts[2]))...))
	// After the connection has ended, although the request is still there.
	checkNoChange(t, withLinks(w, 0, 3, 1, 2), evAnswer(1, 0, 1, ""))
}

// deliverWorld returns a run in which a block that peer 2 has requested of two peers is in transit from one of them.
func deliverWorld() impl.World {
	w := withLinks(worldOf(7, -1, feedTexts(4), []bool{true, true, true, true}, []bool{true, false, true, false}), 0, 1, 0, 2, 1, 2)
	w = withAsked(w, 2, impl.Ask{Peer: 1, Block: 3}, impl.Ask{Peer: 0, Block: 1}, impl.Ask{Peer: 1, Block: 1}, impl.Ask{Peer: 0, Block: 3})
	return withNet(w, pieceIn(w, 1, 2, 4, 1, feedTexts(4)[1]))
}

func TestDelivered(t *testing.T) {
	w := deliverWorld()
	p := w.Net[0]
	stored := withNet(withFeed(withAsked(w, 2, impl.Ask{Peer: 1, Block: 3}, impl.Ask{Peer: 0, Block: 3}), 2, withText(w.Feeds[2], 1, p.Text)))
	checkDo(t, w, evDeliver(0), stored)
	// After the connection has ended.
	checkDo(t, withLinks(w), evDeliver(0), withLinks(stored))
	// After the head of the receiver has grown: nothing is stored, and the request stays.
	grown := mustPlay(t, w, evGrow("x"), evHead(0, 2))
	checkDo(t, grown, evDeliver(0), withNet(grown))
	// After the head of the others has grown.
	others := mustPlay(t, w, evGrow("x"), evHead(0, 1))
	checkDo(t, others, evDeliver(0), withNet(withFeed(withFeed(stored, 0, others.Feeds[0]), 1, others.Feeds[1])))
	// After its request is gone.
	gone := withAsked(w, 2, impl.Ask{Peer: 0, Block: 1}, impl.Ask{Peer: 1, Block: 3})
	checkDo(t, gone, evDeliver(0), withNet(gone))
	checkDo(t, withAsked(w, 2), evDeliver(0), withNet(withAsked(w, 2)))
	// The request of another peer does not count.
	other := withAsked(withAsked(w, 2), 1, w.Asked[2]...)
	checkDo(t, other, evDeliver(0), withNet(other))
	// The head of the receiver has another length, although everything else fits.
	for length := 2; length < 4; length++ {
		earlier := withNet(w, pieceIn(w, 1, 2, length, 1, p.Text))
		checkDo(t, earlier, evDeliver(0), withNet(w))
	}
	// The index of the block alone tells which one it is.
	checkDo(t, w, impl.Event{Kind: impl.EvDeliver, A: 0, B: 77, C: -5, Text: tooLong[0]}, stored)
}

// Twice sent and twice delivered: the second one finds no request. A request that is there all the same, which no events lead to, is given up.
func TestDeliveredTwice(t *testing.T) {
	w := deliverWorld()
	p := w.Net[0]
	twice := mustPlay(t, w, evAnswer(2, 1, 1, ""), evAnswer(2, 0, 1, ""))
	if len(twice.Net) != 3 || !equalPieces(twice.Net[0], twice.Net[1]) {
		t.Fatalf("the run is %+v", twice)
	}
	for _, place := range []int{0, 1, 2} {
		once := impl.WorldDo(twice, evDeliver(place))
		if !hasBlockIn(once, 2, 1) || len(once.Net) != 2 {
			t.Fatalf("the run is %+v", once)
		}
		for _, again := range []int{0, 1} {
			checkDo(t, once, evDeliver(again), withNet(once, once.Net[1-again]))
		}
	}
	strange := withFeed(w, 2, withText(w.Feeds[2], 1, p.Text))
	checkWorldValid(t, strange, true)
	checkDo(t, strange, evDeliver(0), withNet(withAsked(strange, 2, impl.Ask{Peer: 0, Block: 1}, impl.Ask{Peer: 0, Block: 3})))
}

func TestWrongBlockDelivered(t *testing.T) {
	w := deliverWorld()
	for _, text := range []string{"wrong", "", "b", longestText, feedTexts(4)[2]} {
		wrong := withNet(w, pieceIn(w, 1, 2, 4, 1, text), pieceIn(w, 0, 2, 4, 3, feedTexts(4)[3]))
		want := withNet(withAsked(w, 2, impl.Ask{Peer: 0, Block: 1}, impl.Ask{Peer: 0, Block: 3}), wrong.Net[1])
		checkDo(t, wrong, evDeliver(0), want)
		// A wrong block that nobody requests changes no requests.
		checkDo(t, withAsked(wrong, 2, impl.Ask{Peer: 1, Block: 3}), evDeliver(0), withNet(withAsked(w, 2, impl.Ask{Peer: 1, Block: 3}), wrong.Net[1]))
	}
}

// A block may be sent to the writer, or to its sender, which no events lead to.
func TestStrangeBlocksInTransit(t *testing.T) {
	w := withLinks(worldOf(7, -1, feedTexts(3), []bool{true, false, true}), 0, 1)
	w = withAsked(withAsked(w, 0, impl.Ask{Peer: 1, Block: 2}, impl.Ask{Peer: 0, Block: 1}), 1, impl.Ask{Peer: 1, Block: 1}, impl.Ask{Peer: 1, Block: 0})
	texts := feedTexts(3)
	toWriter := withNet(w, pieceIn(w, 1, 0, 3, 2, texts[2]))
	checkDo(t, toWriter, evDeliver(0), withAsked(w, 0, impl.Ask{Peer: 0, Block: 1}))
	toItself := withNet(w, pieceIn(w, 1, 1, 3, 1, texts[1]))
	checkWorldValid(t, toItself, true)
	checkDo(t, toItself, evDeliver(0), withAsked(withFeed(w, 1, withText(w.Feeds[1], 1, texts[1])), 1, impl.Ask{Peer: 1, Block: 0}))
	checkDo(t, withNet(w, pieceIn(w, 1, 1, 3, 0, texts[0])), evDeliver(0), withAsked(w, 1))
	checkDo(t, w, evAnswer(0, 1, 2, "x"), toWriter)
	checkNoChange(t, w, evAnswer(0, 0, 1, ""), evAnswer(1, 1, 0, ""))
}

func TestLost(t *testing.T) {
	w := fullWorld()
	for place := range impl.MaxNet {
		want := withNet(w, slices.Concat(w.Net[:place], w.Net[place+1:])...)
		checkDo(t, w, evLose(place), want)
		checkDo(t, w, impl.Event{Kind: impl.EvLose, A: place, B: -1, C: 99, Text: tooLong[0]}, want)
	}
	// A lost block can be sent again.
	w = deliverWorld()
	lost := impl.WorldDo(w, evLose(0))
	checkDo(t, lost, evAnswer(2, 1, 1, ""), w)
}

func TestPlacesInTransit(t *testing.T) {
	for _, w := range baseWorlds() {
		for many := range len(w.Net) + 1 {
			part := withNet(w, w.Net[:many]...)
			for _, place := range append([]int{-1, many, many + 1}, notPeers...) {
				if place < 0 || place >= many {
					checkNoChange(t, part, evDeliver(place), evLose(place))
				}
			}
		}
	}
}

func TestKindsThatThereAreNot(t *testing.T) {
	for _, w := range baseWorlds() {
		for _, kind := range notKinds {
			for _, text := range []string{"", "a", tooLong[0]} {
				checkNoChange(t, w, impl.Event{Kind: kind, Text: text}, impl.Event{Kind: kind, A: 1, Text: text}, impl.Event{Kind: kind, B: 1, Text: text}, impl.Event{Kind: kind, A: 1, B: 2, C: 1, Text: text})
			}
		}
		checkNoChange(t, w, impl.Event{})
	}
}

func TestPlayOfMaxPlayEvents(t *testing.T) {
	w := withLinks(newWorld(7, 2, -1), 0, 1)
	linked := slices.Repeat([]impl.Event{evUnlink(0, 1), evLink(1, 0)}, impl.MaxPlay)
	for many := range impl.MaxPlay + 1 {
		want := w
		if many%2 == 1 {
			want = withLinks(w)
		}
		checkPlay(t, w, linked[:many], want, true)
	}
	for _, many := range []int{impl.MaxPlay + 1, impl.MaxPlay + 2, 2 * impl.MaxPlay} {
		checkPlay(t, w, linked[:many], impl.World{}, false)
		checkPlay(t, w, make([]impl.Event, many), impl.World{}, false)
	}
	// Events that change nothing count, too; the last one has its effect.
	nothing := make([]impl.Event, impl.MaxPlay)
	checkPlay(t, w, nothing, w, true)
	nothing[impl.MaxPlay-1] = evGrow("a")
	checkPlay(t, w, nothing, withLinks(worldOf(7, -1, []string{"a"}, nil), 0, 1), true)
	checkPlay(t, w, nil, w, true)
	checkPlay(t, w, []impl.Event{}, w, true)
}

func TestReachOverBadPeers(t *testing.T) {
	row := []int{0, 1, 1, 2, 2, 3, 3, 4, 4, 5}
	for bad, want := range [][]int{{}, {0, 1}, {0, 1, 2}, {0, 1, 2, 3}, {0, 1, 2, 3, 4}, {0, 1, 2, 3, 4, 5}} {
		if bad > 0 {
			checkReach(t, withLinks(newWorld(7, 6, bad), row...), want...)
		}
	}
	checkReach(t, withLinks(newWorld(7, 6, -1), row...), 0, 1, 2, 3, 4, 5)
	checkReach(t, newWorld(7, 6, -1), 0)
	checkReach(t, newWorld(7, 6, 3), 0)
	// Around the bad peer.
	checkReach(t, withLinks(newWorld(7, 4, 1), 0, 1, 0, 3, 1, 2, 2, 3), 0, 1, 2, 3)
	checkReach(t, withLinks(newWorld(7, 5, 4), 0, 4, 1, 4, 2, 4, 3, 4), 0, 4)
	checkReach(t, withLinks(newWorld(7, 5, -1), 0, 4, 1, 4, 2, 4, 3, 4), 0, 1, 2, 3, 4)
	checkReach(t, withLinks(newWorld(7, 5, 2), 0, 4, 1, 3, 3, 4), 0, 1, 3, 4)
	checkReach(t, withLinks(newWorld(7, 5, 2), 1, 2, 1, 3, 3, 4), 0)
}

// calmWorld returns a run of five peers with different parts of the feed: of two blocks, of four, of all seven, and none.
func calmWorld() impl.World {
	return worldOf(7, -1, feedTexts(7), []bool{true, false}, []bool{false, false, true, false}, []bool{false, false, false, false, true, false, true}, nil)
}

// wholeAfter returns the run with all blocks at some peers.
func wholeAfter(w impl.World, peers ...int) impl.World {
	for _, peer := range peers {
		w = withFeed(w, peer, wholeFeed(w.Secret, w.Feeds[0].Blocks))
	}
	return w
}

func TestCalmOfReadersWithDifferentParts(t *testing.T) {
	w := calmWorld()
	for _, links := range [][]int{{0, 1, 1, 2, 2, 3, 3, 4}, {0, 4, 1, 2, 1, 3, 3, 4}, {0, 2, 1, 2, 1, 4, 3, 4}, {0, 1, 0, 2, 0, 3, 0, 4}, {0, 3, 1, 2, 2, 3, 2, 4}} {
		all := withLinks(w, links...)
		checkCalm(t, all, wholeAfter(all, 1, 2, 3, 4))
		checkCalm(t, wholeAfter(all, 1, 2, 3, 4), wholeAfter(all, 1, 2, 3, 4))
	}
	// Without connections nothing is given.
	checkCalm(t, w, w)
	some := withLinks(w, 0, 2, 2, 4)
	checkCalm(t, some, wholeAfter(some, 2, 4))
}

// The rounds are as many as there are peers: in a row against the order of the connections, one step is made in each.
func TestCalmOfALongRow(t *testing.T) {
	for _, links := range [][]int{{0, 5, 1, 2, 2, 3, 3, 4, 4, 5}, {0, 1, 1, 2, 2, 3, 3, 4, 4, 5}, {0, 3, 1, 4, 1, 5, 2, 3, 2, 5}, {0, 4, 1, 3, 1, 5, 2, 4, 2, 5}} {
		w := withLinks(worldOf(7, -1, feedTexts(impl.MaxBlocks), make([][]bool, 5)...), links...)
		checkReach(t, w, 0, 1, 2, 3, 4, 5)
		checkCalm(t, w, wholeAfter(w, 1, 2, 3, 4, 5))
	}
}

// Peers that nobody reaches give each other what they have: the longest head and the blocks, as far as they are there.
func TestCalmOfPeersThatNobodyReaches(t *testing.T) {
	texts := feedTexts(5)
	w := withLinks(worldOf(7, -1, texts, []bool{true, false, false}, []bool{false, true, false, false, true}, []bool{false, false, false, true}), 1, 2, 2, 3)
	w.Bad = -1
	want := cloneWorld(w)
	for peer := 1; peer <= 3; peer++ {
		want = withFeed(want, peer, feedOf(7, texts, []bool{true, true, false, true, true}))
	}
	checkReach(t, w, 0)
	checkCalm(t, w, want)
	// If one is bad, it gives nothing: neither its head nor its blocks, nor those of others.
	w.Bad = 2
	want = withFeed(w, 2, feedOf(7, texts, []bool{false, true, false, false, true}))
	checkCalm(t, w, want)
	w.Bad = 3
	want = withFeed(withFeed(w, 1, feedOf(7, texts, []bool{true, true, false, false, true})), 2, feedOf(7, texts, []bool{true, true, false, false, true}))
	checkCalm(t, w, withFeed(want, 3, feedOf(7, texts, []bool{true, true, false, true, true})))
}

// A bad peer between the writer and others gets everything and gives nothing.
func TestCalmWithABadPeerBetween(t *testing.T) {
	texts := feedTexts(4)
	for _, links := range [][]int{{0, 1, 1, 2, 1, 3}, {0, 1, 1, 2, 2, 3}} {
		w := withLinks(worldOf(7, 1, texts, nil, []bool{true, false}, nil), links...)
		want := wholeAfter(w, 1)
		if links[4] == 2 {
			want = withFeed(want, 3, feedOf(7, texts[:2], []bool{true, false}))
		}
		checkReach(t, w, 0, 1)
		checkCalm(t, w, want)
		w.Bad = -1
		checkCalm(t, w, wholeAfter(w, 1, 2, 3))
	}
	// It has the same head as the others, and still gives no block.
	w := withLinks(worldOf(7, 1, texts, slices.Repeat([]bool{true}, 4), make([]bool, 4)), 1, 2)
	checkCalm(t, w, w)
	w.Bad = 2
	checkCalm(t, w, wholeAfter(w, 2))
}

// The text "f" has the digest of the pair of "f" and "h", computed outside of the program, so the proof of the first block for three blocks is one for four, too. Still the lengths of the heads differ.
func TestProofForAnotherLength(t *testing.T) {
	texts := []string{"a", "b", "f", "h"}
	w := withLinks(worldOf(7, 2, texts, []bool{true, false, false}, make([]bool, 4)), 1, 2)
	p := pieceIn(w, 1, 2, 3, 0, "a")
	if head := w.Feeds[2].Head; !impl.TreeCheck(head.Digest, 4, 0, impl.DigestText("a"), p.Proof) {
		t.Fatalf("the proof %v is not accepted for %+v", p.Proof, head)
	}
	checkCalm(t, w, w)
	checkNoChange(t, w, evAsk(2, 1, 0))
	requested := withAsked(w, 2, impl.Ask{Peer: 1, Block: 0})
	checkDo(t, requested, evAnswer(2, 1, 0, ""), withNet(requested, p))
	checkDo(t, withNet(requested, p), evDeliver(0), requested)
}

func TestCalmRemovesRequestsAndBlocksInTransit(t *testing.T) {
	for _, w := range baseWorlds() {
		bare := withNet(w)
		for peer := range bare.Asked {
			bare.Asked[peer] = nil
		}
		want := plainCalm(bare)
		checkCalm(t, w, want)
		checkCalm(t, want, want)
	}
	w := deliverWorld()
	want := wholeAfter(withNet(withAsked(w, 2)), 2)
	checkCalm(t, w, want)
	// A wrong block in transit is never stored.
	checkCalm(t, withNet(w, pieceIn(w, 1, 2, 4, 1, "wrong")), want)
}

// A text that a bad peer has got through is given on by others, since it has the right digest.
func TestCalmGivesTextsWithTheRightDigest(t *testing.T) {
	w := withLinks(worldOf(7, -1, []string{"a", "b"}, []bool{true, true}, []bool{false, false}), 1, 2)
	w.Feeds[1].Blocks[1] = "ff"
	want := withFeed(w, 2, w.Feeds[1])
	checkCalm(t, w, want)
}

// Runs with the largest and the smallest numbers are valid.
func TestWorldsAtTheirLimits(t *testing.T) {
	w := fullWorld()
	checkWorldValid(t, w, true)
	// Blocks in transit of all lengths and indexes.
	for length := 1; length <= impl.MaxBlocks; length++ {
		for index := range length {
			one := withNet(w, pieceIn(w, 0, 5, length, index, strings.Repeat("z", index%(impl.MaxText+1))))
			checkWorldValid(t, one, true)
			checkDo(t, one, evLose(0), withNet(w))
		}
	}
	// Heads of all lengths, with none, some and all of their blocks.
	texts := feedTexts(impl.MaxBlocks)
	for length := range impl.MaxBlocks + 1 {
		for _, have := range haveLists(length) {
			checkWorldValid(t, worldOf(7, -1, texts, have, nil), true)
		}
	}
	// Any valid requests, whatever the peers have and whether they exist.
	for _, asked := range fullWindows() {
		for peer := range 2 {
			checkWorldValid(t, withAsked(newWorld(7, 2, -1), peer, asked...), true)
		}
	}
	// Any connections.
	for number := range 1 << 15 {
		if number%41 > 0 {
			continue
		}
		linked := newWorld(7, impl.MaxPeers, -1)
		for place, l := range allLinks(impl.MaxPeers) {
			if number>>place&1 == 1 {
				linked.Links = append(linked.Links, l)
			}
		}
		checkWorldValid(t, linked, true)
	}
}
