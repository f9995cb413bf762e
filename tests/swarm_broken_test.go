package tests

import (
	"math"
	"slices"
	"testing"

	"loop.example/feedswarm/impl"
)

// brokenWorld is a run that breaks a single condition, and which one.
type brokenWorld struct {
	why   string
	world impl.World
}

// wholeWorld returns a valid run of four peers with blocks, connections, requests and blocks in transit of several kinds. Peer 1 has the head of the writer, peer 2 a shorter one, and peer 3 none.
func wholeWorld() impl.World {
	w := worldOf(7, 2, []string{"a", "", "c", "12345678", "e", "f", "g"},
		[]bool{true, true, false, false, true, false, true}, []bool{false, true, false, true, false}, nil)
	w = withLinks(w, 0, 1, 0, 2, 1, 2, 2, 3)
	w = withAsked(w, 1, impl.Ask{Peer: 0, Block: 2}, impl.Ask{Peer: 0, Block: 3}, impl.Ask{Peer: 2, Block: 3}, impl.Ask{Peer: 0, Block: 5})
	w = withAsked(w, 2, impl.Ask{Peer: 5, Block: 15}, impl.Ask{Peer: 2, Block: 0}, impl.Ask{Peer: 1, Block: 4})
	return withNet(w, pieceIn(w, 0, 1, 7, 2, "c"), pieceIn(w, 2, 1, 5, 3, "wrong"), pieceIn(w, 1, 2, 7, 4, longestText), pieceIn(w, 3, 3, 1, 0, ""))
}

// smallWorld returns a valid run of two peers whose writer has one block, which is in transit with an empty proof.
func smallWorld() impl.World {
	w := withLinks(worldOf(996, 1, []string{""}, []bool{false}), 0, 1)
	w = withAsked(w, 1, impl.Ask{Peer: 0, Block: 0})
	return withNet(w, pieceIn(w, 0, 1, 1, 0, ""))
}

// fullWorld returns a valid run with as many peers, blocks, connections, requests and blocks in transit as there can be.
func fullWorld() impl.World {
	texts := slices.Repeat([]string{longestText}, impl.MaxBlocks)
	w := worldOf(1, 5, texts, slices.Repeat([][]bool{make([]bool, impl.MaxBlocks)}, impl.MaxPeers-1)...)
	w.Links = allLinks(impl.MaxPeers)
	for peer := range w.Asked {
		w.Asked[peer] = fullWindows()[peer]
	}
	for index := range impl.MaxNet {
		w.Net = append(w.Net, pieceIn(w, 5, index%5, impl.MaxBlocks, index, longestText))
	}
	return w
}

// baseWorlds are the valid runs that are broken.
func baseWorlds() []impl.World {
	return []impl.World{newWorld(7, 1, -1), newWorld(7, 3, 1), smallWorld(), wholeWorld(), fullWorld()}
}

// brokenNumbersOf returns runs with an invalid secret or an invalid bad peer.
func brokenNumbersOf(w impl.World) []brokenWorld {
	list := []brokenWorld{}
	for _, secret := range []int{w.Secret + impl.Keys, w.Secret - impl.Keys, w.Secret + 5*impl.Keys} {
		// All keys and signatures are still right.
		b := brokenWorld{"the secret is out of its range", cloneWorld(w)}
		b.world.Secret = secret
		list = append(list, b)
	}
	for _, bad := range []int{-2, -3, 0, len(w.Feeds), len(w.Feeds) + 1, impl.MaxPeers, 1 << 32, math.MinInt, math.MaxInt} {
		b := brokenWorld{"the bad peer is out of its range", cloneWorld(w)}
		b.world.Bad = bad
		list = append(list, b)
	}
	return list
}

// brokenSecrets returns runs without blocks of which the secret is invalid.
func brokenSecrets() []brokenWorld {
	list := []brokenWorld{}
	for _, secret := range []int{0, -1, -7, impl.Keys, 2 * impl.Keys, math.MinInt, math.MaxInt} {
		b := brokenWorld{"there is no such secret", newWorld(7, 2, -1)}
		b.world.Secret = secret
		for peer := range b.world.Feeds {
			b.world.Feeds[peer].Public = impl.HeadPublic(secret)
		}
		list = append(list, b)
	}
	return list
}

// brokenManyPeers returns runs of no peers and of too many.
func brokenManyPeers() []brokenWorld {
	list := []brokenWorld{{"there are no peers", impl.World{Secret: 7, Bad: -1}}, {"there is nothing", impl.World{}}}
	for _, many := range []int{impl.MaxPeers + 1, impl.MaxPeers + 2, 100} {
		list = append(list, brokenWorld{"there are too many peers", newWorld(7, many, -1)}, brokenWorld{"there are too many peers", newWorld(7, many, 2)})
	}
	w := fullWorld()
	w.Feeds, w.Asked = append(w.Feeds, cloneFeed(w.Feeds[3])), append(w.Asked, nil)
	return append(list, brokenWorld{"there is one peer too many", w})
}

// brokenFeedsOf returns runs with an invalid feed of each peer.
func brokenFeedsOf(w impl.World) []brokenWorld {
	list := []brokenWorld{}
	add := func(why string, peer int, change func(f *impl.Feed)) {
		f := cloneFeed(w.Feeds[peer])
		change(&f)
		list = append(list, brokenWorld{why, withFeed(w, peer, f)})
	}
	for peer, f := range w.Feeds {
		add("a feed has a text too many", peer, func(f *impl.Feed) { f.Blocks = append(f.Blocks, "") })
		add("a feed has a bit too many", peer, func(f *impl.Feed) { f.Have = append(f.Have, false) })
		add("a feed has a set bit too many", peer, func(f *impl.Feed) { f.Have = append(f.Have, true) })
		add("a feed has a block too many", peer, func(f *impl.Feed) { f.Blocks, f.Have = append(f.Blocks, "x"), append(f.Have, true) })
		if peer > 0 {
			add("a feed is of another writer", peer, func(f *impl.Feed) { *f = newFeed(8) })
			add("a feed has no public key", peer, func(f *impl.Feed) { f.Public = 0 })
			add("a public key is out of its range", peer, func(f *impl.Feed) { f.Public += impl.Keys })
		}
		if f.Head == (impl.Head{}) {
			add("a head without blocks is not signed", peer, func(f *impl.Feed) { f.Head.Digest = 5 })
			continue
		}
		many := len(f.Have)
		add("a feed has a text too few", peer, func(f *impl.Feed) { f.Blocks = f.Blocks[:many-1] })
		add("a feed has a bit too few", peer, func(f *impl.Feed) { f.Have = f.Have[:many-1] })
		add("a head is not signed", peer, func(f *impl.Feed) { f.Head.Sign = f.Head.Sign%996 + 1 })
		add("a signature is out of its range", peer, func(f *impl.Feed) { f.Head.Sign += impl.Keys })
		for _, i := range lackingOf(f) {
			add("a block that is not there has a text", peer, func(f *impl.Feed) { f.Blocks[i] = w.Feeds[0].Blocks[i] + "x" })
		}
	}
	return list
}

// brokenOwners returns runs without blocks of which one feed is of another writer.
func brokenOwners() []brokenWorld {
	list := []brokenWorld{}
	for peer := range 4 {
		list = append(list, brokenWorld{"a feed is of another writer", withFeed(newWorld(7, 4, -1), peer, newFeed(8))})
	}
	return list
}

// brokenWriters returns runs whose writer lacks blocks. The blocks that it lacks are empty ones, so that its head is that of its texts all the same.
func brokenWriters() []brokenWorld {
	list := []brokenWorld{}
	for many := 1; many <= impl.MaxBlocks; many++ {
		for _, place := range []int{0, many / 2, many - 1} {
			w := worldOf(7, -1, slices.Repeat([]string{""}, many), make([]bool, many))
			w.Feeds[0].Have[place] = false
			list = append(list, brokenWorld{"the writer lacks a block", w})
		}
		w := worldOf(7, -1, slices.Repeat([]string{""}, many), make([]bool, many))
		w.Feeds[0] = cloneFeed(w.Feeds[1])
		list = append(list, brokenWorld{"the writer has no blocks", w})
	}
	return list
}

// brokenHeads returns runs in which a reader has a signed head that is not one of the first blocks of the writer, and no blocks.
func brokenHeads() []brokenWorld {
	list := []brokenWorld{}
	for many := range impl.MaxBlocks + 1 {
		texts := feedTexts(many)
		for length := 1; length <= many; length++ {
			f := emptyFeed(7, texts[:length])
			for _, digest := range []int{(f.Head.Digest + 1) % impl.Digests, (f.Head.Digest + 990) % impl.Digests} {
				f.Head = signedBy(7, length, digest)
				list = append(list, brokenWorld{"a head is of other blocks", withFeed(worldOf(7, -1, texts, nil), 1, f)})
			}
			if length > 1 {
				// The last blocks of the writer are not the first ones.
				list = append(list, brokenWorld{"a head is of other blocks of the writer", withFeed(worldOf(7, -1, texts, nil, nil), 2, emptyFeed(7, append(slices.Clone(texts[1:length]), texts[0])))})
			}
		}
		for length := many + 1; length <= impl.MaxBlocks; length++ {
			list = append(list, brokenWorld{"a head is longer than that of the writer", withFeed(worldOf(7, -1, texts, nil), 1, emptyFeed(7, feedTexts(length)))})
		}
	}
	return list
}

// brokenBlocks returns runs in which a reader has a block with another digest than that of the writer. It lacks another block, so that its feed is valid.
func brokenBlocks() []brokenWorld {
	list := []brokenWorld{}
	for many := 2; many <= impl.MaxBlocks; many++ {
		texts := feedTexts(many)
		for length := 2; length <= many; length++ {
			for place := range length {
				w := worldOf(7, -1, texts, nil, slices.Repeat([]bool{true}, length))
				f := withoutBlock(w.Feeds[2], (place+1)%length)
				for _, text := range []string{"wrong", texts[(place+1)%length]} {
					list = append(list, brokenWorld{"a block is another one than that of the writer", withFeed(w, 2, withText(f, place, text))})
				}
			}
		}
	}
	return list
}

// brokenWhole returns a run in which a reader has all blocks, and two of them other ones than the writer. They give the same digest of the feed, as small digests permit.
func brokenWhole(t *testing.T) brokenWorld {
	t.Helper()
	w := worldOf(7, -1, []string{"a", "b"}, []bool{true, true})
	for number := range 1 << 16 {
		f := withText(withText(w.Feeds[1], 0, string([]byte{byte(number >> 8)})), 1, string([]byte{byte(number)}))
		if f.Blocks[0] != "a" && plainFeedValid(f) {
			return brokenWorld{"two blocks are other ones than those of the writer", withFeed(w, 1, f)}
		}
	}
	t.Fatal("no such blocks are found")
	return brokenWorld{}
}

// brokenLinksOf returns runs with connections that are not ascending, or not between two different existing peers.
func brokenLinksOf(w impl.World) []brokenWorld {
	list := []brokenWorld{}
	with := func(why string, links []impl.Link) {
		b := brokenWorld{why, cloneWorld(w)}
		b.world.Links = links
		list = append(list, b)
	}
	many := len(w.Feeds)
	for peer := range w.Feeds {
		with("a peer is connected with itself", linksOf(peer, peer))
		for _, other := range append([]int{many, many + 1}, notPeers...) {
			if other < 0 || other >= many {
				with("a connection leads to a peer that does not exist", linksOf(min(peer, other), max(peer, other)))
				with("a connection leads to a peer that does not exist, in the wrong order", linksOf(max(peer, other), min(peer, other)))
			}
		}
		for other := range peer {
			with("the greater peer of a connection is the first one", linksOf(peer, other))
			with("a connection is there in both orders", linksOf(other, peer, peer, other))
		}
	}
	with("both peers of a connection do not exist", linksOf(-2, -1))
	with("both peers of a connection do not exist", linksOf(many, many+1))
	for place := range w.Links {
		with("a connection is there twice", slices.Insert(slices.Clone(w.Links), place, w.Links[place]))
		if place > 0 {
			links := slices.Clone(w.Links)
			links[place-1], links[place] = links[place], links[place-1]
			with("two connections are not ascending", links)
		}
	}
	if len(w.Links) > 1 {
		with("the first connection is there again at the end", append(slices.Clone(w.Links), w.Links[0]))
	}
	return list
}

// brokenRequestsOf returns runs with too few and too many lists of requests, and with an invalid list.
func brokenRequestsOf(w impl.World) []brokenWorld {
	list := []brokenWorld{}
	with := func(why string, asked [][]impl.Ask) {
		b := brokenWorld{why, cloneWorld(w)}
		b.world.Asked = asked
		list = append(list, b)
	}
	for fewer := range w.Asked {
		with("there are too few lists of requests", slices.Clone(w.Asked[:fewer]))
	}
	with("there is a list of requests too many", append(slices.Clone(w.Asked), nil))
	with("there are many lists of requests too many", append(slices.Clone(w.Asked), make([][]impl.Ask, 20)...))
	for peer := range w.Asked {
		for _, asked := range [][]impl.Ask{
			{{Peer: -1}}, {{Peer: impl.MaxPeers}}, {{Block: -1}}, {{Block: impl.MaxBlocks}}, {{Peer: 1, Block: 2}, {Peer: 1, Block: 2}},
			asksOf([]int{2}, []int{0, 1, 2, 3}), asksOf([]int{0, 1, 2}, []int{3}), make([]impl.Ask, 30), append(fullWindows()[2], impl.Ask{Block: 15}),
		} {
			changed := slices.Clone(w.Asked)
			changed[peer] = asked
			with("requests are invalid", changed)
		}
	}
	return list
}

// brokenPiecesOf returns runs with an invalid block in transit at each place.
func brokenPiecesOf(w impl.World) []brokenWorld {
	list := []brokenWorld{}
	for place, p := range w.Net {
		with := func(why string, change func(p *impl.Piece)) {
			b := brokenWorld{why, cloneWorld(w)}
			p := &b.world.Net[place]
			change(p)
			list = append(list, b)
		}
		for _, peer := range append([]int{len(w.Feeds)}, notPeers...) {
			with("a block in transit is from a peer that does not exist", func(p *impl.Piece) { p.From = peer })
			with("a block in transit is to a peer that does not exist", func(p *impl.Piece) { p.To = peer })
		}
		for _, length := range []int{0, -1, len(w.Feeds[0].Blocks) + 1, impl.MaxBlocks + 1, math.MinInt, math.MaxInt} {
			with("a block in transit has an impossible length", func(p *impl.Piece) { p.Length = length })
		}
		for _, index := range []int{-1, p.Length, p.Length + 1, impl.MaxBlocks, math.MinInt, math.MaxInt} {
			with("a block in transit has an impossible index", func(p *impl.Piece) { p.Index = index })
		}
		for _, text := range tooLong {
			with("the text of a block in transit is too long", func(p *impl.Piece) { p.Text = text })
		}
		with("a proof has a further digest", func(p *impl.Piece) { p.Proof = append(p.Proof, 0) })
		for member, number := range p.Proof {
			for _, other := range []int{(number + 1) % impl.Digests, -1, number + impl.Digests} {
				with("a digest of a proof is another one", func(p *impl.Piece) { p.Proof[member] = other })
			}
			with("a proof has a digest too few", func(p *impl.Piece) { p.Proof = slices.Delete(p.Proof, member, member+1) })
		}
	}
	return list
}

// brokenNets returns runs with too many blocks in transit, and such with the proof of another block or for another number of blocks.
func brokenNets() []brokenWorld {
	list := []brokenWorld{}
	for _, more := range []int{1, 2, 100} {
		w := fullWorld()
		list = append(list, brokenWorld{"too many blocks are in transit", withNet(w, append(slices.Clone(w.Net), slices.Repeat(w.Net[:1], more)...)...)})
	}
	small := smallWorld()
	list = append(list, brokenWorld{"too many blocks are in transit", withNet(small, slices.Repeat(small.Net, impl.MaxNet+1)...)})
	w := worldOf(7, -1, feedTexts(impl.MaxBlocks), make([]bool, 9))
	for length := 2; length <= impl.MaxBlocks; length++ {
		for index := range length {
			p := pieceIn(w, 0, 1, length, index, "")
			p.Proof = proofIn(w, length, (index+1)%length)
			list = append(list, brokenWorld{"a proof is that of another block", withNet(w, p)})
			p.Proof = proofIn(w, length-1, min(index, length-2))
			list = append(list, brokenWorld{"a proof is for fewer blocks", withNet(w, p)})
		}
	}
	longer := worldOf(7, -1, feedTexts(5), make([]bool, 5))
	list = append(list, brokenWorld{"a block in transit is for more blocks than there are", withNet(worldOf(7, -1, feedTexts(4), make([]bool, 4)), pieceIn(longer, 0, 1, 5, 1, ""))})
	list = append(list, brokenWorld{"a block in transit has no length", withNet(newWorld(7, 2, -1), impl.Piece{})})
	return append(list, brokenWorld{"a block in transit is of no blocks", withNet(newWorld(7, 2, -1), impl.Piece{Length: 1})})
}

// brokenWorlds returns runs that break each single condition.
func brokenWorlds() []brokenWorld {
	list := slices.Concat(brokenSecrets(), brokenManyPeers(), brokenOwners(), brokenWriters(), brokenHeads(), brokenBlocks(), brokenNets())
	for _, w := range baseWorlds() {
		list = slices.Concat(list, brokenNumbersOf(w), brokenFeedsOf(w), brokenLinksOf(w), brokenRequestsOf(w), brokenPiecesOf(w))
	}
	return list
}

// checkWorldRefused fails the test if a function accepts an invalid run, whatever the other arguments are.
func checkWorldRefused(t *testing.T, b brokenWorld) {
	t.Helper()
	if impl.WorldValid(b.world) {
		t.Fatalf("a run is valid, although %s: %+v", b.why, b.world)
	}
	events := []impl.Event{evGrow("a"), evLink(0, 1), evUnlink(0, 1), evHead(0, 1), evAsk(1, 0, 0), evAnswer(1, 0, 0, "a"), evDeliver(0), evLose(0), {}, {Kind: -1}, {Kind: 9}}
	for _, e := range events {
		checkDo(t, b.world, e, impl.World{})
		checkPlay(t, b.world, []impl.Event{e}, impl.World{}, false)
	}
	checkPlay(t, b.world, nil, impl.World{}, false)
	checkPlay(t, b.world, make([]impl.Event, impl.MaxPlay), impl.World{}, false)
	checkPlay(t, b.world, make([]impl.Event, impl.MaxPlay+1), impl.World{}, false)
	checkReach(t, b.world)
	checkCalm(t, b.world, impl.World{})
}

// The runs that are broken are valid, so that what breaks them is the only reason to refuse.
func TestBaseWorldsAreValid(t *testing.T) {
	for _, w := range baseWorlds() {
		checkWorldValid(t, w, true)
		if !plainWorldValid(w) {
			t.Errorf("%+v is not valid by the document's rule", w)
		}
	}
}

func TestBrokenWorldsAreInvalidByTheRules(t *testing.T) {
	reasons := map[string]int{}
	for _, b := range append(brokenWorlds(), brokenWhole(t)) {
		if plainWorldValid(b.world) {
			t.Fatalf("a run is valid by the document's rule, although %s: %+v", b.why, b.world)
		}
		reasons[b.why]++
	}
	if len(reasons) < 40 {
		t.Errorf("there are only %d reasons: %v", len(reasons), reasons)
	}
}

// A reader may have all blocks with the right digest of all, and still other ones than the writer.
func TestWholeFeedOfOtherBlocksIsRefused(t *testing.T) {
	b := brokenWhole(t)
	if !impl.FeedValid(b.world.Feeds[1]) {
		t.Fatalf("the feed %+v is invalid", b.world.Feeds[1])
	}
	checkWorldRefused(t, b)
}
