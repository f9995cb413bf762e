package tests

import (
	"math/rand"
	"slices"
	"testing"

	"loop.example/feedswarm/impl"
)

func TestSwarmConstants(t *testing.T) {
	if impl.MaxNet != 12 || impl.MaxPlay != 80 {
		t.Errorf("MaxNet is %d and MaxPlay is %d", impl.MaxNet, impl.MaxPlay)
	}
	if !slices.Equal(allKinds, []int{1, 2, 3, 4, 5, 6, 7, 8}) {
		t.Errorf("the kinds of events are %v", allKinds)
	}
}

func TestPromise152NewWorld(t *testing.T) {
	for secret := -2; secret <= impl.Keys+2; secret++ {
		for peers := -1; peers <= impl.MaxPeers+1; peers++ {
			for bad := -3; bad <= impl.MaxPeers+1; bad++ {
				w, ok := impl.WorldNew(secret, peers, bad)
				if ok != (secret >= 1 && secret < impl.Keys && peers >= 1 && peers <= impl.MaxPeers && (bad == -1 || bad >= 1 && bad < peers)) {
					t.Fatalf("WorldNew of %d, %d and %d is %+v, %v", secret, peers, bad, w, ok)
				}
				if !ok && !equalWorlds(w, impl.World{}) {
					t.Fatalf("WorldNew of %d, %d and %d fails with %+v", secret, peers, bad, w)
				}
				if !ok {
					continue
				}
				if !impl.WorldValid(w) || w.Secret != secret || w.Bad != bad || len(w.Feeds) != peers || len(w.Links) > 0 || len(w.Net) > 0 {
					t.Fatalf("WorldNew of %d, %d and %d is %+v", secret, peers, bad, w)
				}
				for peer, f := range w.Feeds {
					if !equalFeeds(f, impl.Feed{Public: impl.HeadPublic(secret)}) || len(w.Asked[peer]) > 0 {
						t.Fatalf("WorldNew of %d, %d and %d is %+v", secret, peers, bad, w)
					}
				}
			}
		}
	}
}

func TestPromise152NewWorldOfFarNumbers(t *testing.T) {
	for _, secret := range notKeys() {
		if w, ok := impl.WorldNew(secret, 3, -1); ok || !equalWorlds(w, impl.World{}) {
			t.Fatalf("WorldNew of the secret %d is %+v, %v", secret, w, ok)
		}
	}
	for _, number := range append(slices.Clone(notPeers), 256+2, 1<<32+2) {
		if number == impl.MaxPeers {
			continue
		}
		if w, ok := impl.WorldNew(7, number, -1); ok || !equalWorlds(w, impl.World{}) {
			t.Fatalf("WorldNew of %d peers is %+v, %v", number, w, ok)
		}
		if w, ok := impl.WorldNew(7, 6, number); ok != (number == -1) || !ok && !equalWorlds(w, impl.World{}) {
			t.Fatalf("WorldNew with the bad peer %d is %+v, %v", number, w, ok)
		}
	}
}

func TestPromise153WorldDoIsValid(t *testing.T) {
	changed := eachDo(append(slices.Clone(allKinds), notKinds...), func(w impl.World, e impl.Event, got impl.World) {
		if !impl.WorldValid(got) {
			t.Fatalf("WorldDo of %+v and %+v is %+v", w, e, got)
		}
	})
	if changed < 30000 {
		t.Errorf("only %d events change a run", changed)
	}
}

func TestPromise154InvalidWorlds(t *testing.T) {
	for _, b := range brokenWorlds() {
		checkWorldRefused(t, b)
	}
}

func TestPromise155PlayOfAFurtherEvent(t *testing.T) {
	for _, p := range plays() {
		for many := range p.events {
			before, ok := impl.WorldPlay(p.worlds[0], p.events[:many])
			if !ok {
				t.Fatalf("WorldPlay of %+v and %d events fails", p.worlds[0], many)
			}
			checkPlay(t, p.worlds[0], p.events[:many+1], impl.WorldDo(before, p.events[many]), true)
		}
	}
}

// checkSigned fails the test if a peer has a block with another digest than that of the writer at its index.
func checkSigned(t *testing.T, w impl.World) {
	t.Helper()
	writer := w.Feeds[0]
	for peer, f := range w.Feeds {
		for i, there := range f.Have {
			if there && (i >= len(writer.Blocks) || impl.DigestText(f.Blocks[i]) != impl.DigestText(writer.Blocks[i])) {
				t.Fatalf("peer %d has the block %q with the index %d in %+v", peer, f.Blocks[i], i, w)
			}
		}
	}
}

func TestPromise156SignedOnly(t *testing.T) {
	blocks, others := 0, 0
	count := eachPlayed(t, func(_ impl.World, w impl.World) {
		checkSigned(t, w)
		for _, f := range w.Feeds[1:] {
			blocks += plainCount(f.Have)
			for i, text := range f.Blocks {
				if f.Have[i] && text != w.Feeds[0].Blocks[i] {
					others++
				}
			}
		}
	})
	// Other texts with the right digests are stored, as small digests permit.
	if count < 1000 || blocks < 5000 || others < 100 {
		t.Errorf("%d runs have only %d blocks of readers, %d of them with another text", count, blocks, others)
	}
}

// Whatever the bad peer sends for each of two blocks, only what has the digest of the block is stored.
func TestPromise156WhateverTheBadPeerSends(t *testing.T) {
	w := mustPlay(t, newWorld(7, 3, 1), evGrow("a"), evGrow("b"), evLink(0, 1), evLink(1, 2))
	w = impl.WorldCalm(w)
	w = mustPlay(t, w, evLink(0, 2), evHead(0, 2), evUnlink(0, 2), evAsk(2, 1, 0), evAsk(2, 1, 1))
	if len(w.Asked[2]) != 2 {
		t.Fatalf("there are not two requests in %+v", w)
	}
	stored := 0
	for number := range 1 << 16 {
		text := string([]byte{byte(number >> 8), byte(number)})
		for c := range 2 {
			got := mustPlay(t, w, evAnswer(2, 1, c, text), evDeliver(0))
			checkSigned(t, got)
			if right := impl.DigestText(text) == impl.DigestText(w.Feeds[0].Blocks[c]); got.Feeds[2].Have[c] != right {
				t.Fatalf("the block %d is %q in %+v", c, text, got)
			}
			if got.Feeds[2].Have[c] {
				stored++
			}
		}
		if number > 3000 && stored > 3 {
			return
		}
	}
	t.Errorf("only %d texts are stored", stored)
}

func TestPromise157HeadsAreSignedAndNoLonger(t *testing.T) {
	shorter := 0
	eachPlayed(t, func(_ impl.World, w impl.World) {
		for _, f := range w.Feeds {
			// A feed without blocks has the zero head, which nobody signs.
			if f.Head.Length > w.Feeds[0].Head.Length || f.Head != (impl.Head{}) && !impl.HeadCheck(w.Feeds[0].Public, f.Head) {
				t.Fatalf("the head %+v is in %+v", f.Head, w)
			}
			if f.Head.Length > 0 && f.Head.Length < w.Feeds[0].Head.Length {
				shorter++
			}
			for _, g := range w.Feeds {
				if f.Head.Length == g.Head.Length && f.Head != g.Head {
					t.Fatalf("the heads %+v and %+v are in %+v", f.Head, g.Head, w)
				}
			}
		}
	})
	if shorter < 500 {
		t.Errorf("only %d heads are shorter than that of the writer", shorter)
	}
}

func TestPromise158NoForks(t *testing.T) {
	pairs := 0
	eachPlayed(t, func(_ impl.World, w impl.World) {
		for _, f := range w.Feeds {
			for _, g := range w.Feeds {
				if x, ok := impl.ForkMeet(f, g); ok {
					t.Fatalf("ForkMeet of %+v and %+v is %+v", f, g, x)
				}
				pairs++
			}
		}
	})
	if pairs < 10000 {
		t.Errorf("only %d pairs of feeds meet", pairs)
	}
}

func TestPromise159BlocksAreKept(t *testing.T) {
	kept, grown := 0, 0
	eachDo(append(slices.Clone(allKinds), notKinds...), func(w impl.World, e impl.Event, got impl.World) {
		for peer, f := range w.Feeds {
			g := got.Feeds[peer]
			if g.Head.Length < f.Head.Length || len(g.Have) < len(f.Have) {
				t.Fatalf("WorldDo of %+v and %+v is %+v, where the head of %d is shorter", w, e, got, peer)
			}
			for i, there := range f.Have {
				if there && (!g.Have[i] || g.Blocks[i] != f.Blocks[i]) {
					t.Fatalf("WorldDo of %+v and %+v is %+v, without the block %d of %d", w, e, got, i, peer)
				}
			}
			kept += plainCount(f.Have)
			if g.Head != f.Head {
				grown++
			}
		}
	})
	if kept < 100000 || grown < 5000 {
		t.Errorf("only %d blocks are kept and %d heads grow", kept, grown)
	}
}

func TestPromise160RequestsAreValid(t *testing.T) {
	full, twice := 0, 0
	eachPlayed(t, func(_ impl.World, w impl.World) {
		if len(w.Asked) != len(w.Feeds) {
			t.Fatalf("there are %d lists of requests in %+v", len(w.Asked), w)
		}
		for _, asked := range w.Asked {
			if !impl.WindowValid(asked) || !plainWindowValid(asked) {
				t.Fatalf("the requests %v are in %+v", asked, w)
			}
			for _, a := range asked {
				toPeer, forBlock := countAsks(asked, a.Peer, a.Block)
				if toPeer > impl.MaxAsked || forBlock > impl.MaxTwice {
					t.Fatalf("the requests %v are in %+v", asked, w)
				}
				if toPeer == impl.MaxAsked {
					full++
				}
				if forBlock == impl.MaxTwice {
					twice++
				}
			}
		}
	})
	if full < 500 || twice < 100 {
		t.Errorf("only %d requests are to a peer that has as many as permitted, and %d for a block that has", full, twice)
	}
}

func TestPromise161Grow(t *testing.T) {
	grown, tooLongOnes, noSpace := 0, 0, 0
	eachDo([]int{impl.EvGrow}, func(w impl.World, e impl.Event, got impl.World) {
		many := len(w.Feeds[0].Blocks)
		if len(e.Text) > impl.MaxText || many == impl.MaxBlocks {
			if !equalWorlds(got, w) {
				t.Fatalf("WorldDo of %+v and %+v is %+v", w, e, got)
			}
			if many == impl.MaxBlocks {
				noSpace++
			} else {
				tooLongOnes++
			}
			return
		}
		head, ok := impl.HeadMake(w.Secret, leavesOf(append(slices.Clone(w.Feeds[0].Blocks), e.Text)))
		want := withFeed(w, 0, impl.Feed{
			Public: w.Feeds[0].Public,
			Head:   head,
			Blocks: append(slices.Clone(w.Feeds[0].Blocks), e.Text),
			Have:   append(slices.Clone(w.Feeds[0].Have), true),
		})
		if !ok || !equalWorlds(got, want) {
			t.Fatalf("WorldDo of %+v and %+v is %+v", w, e, got)
		}
		grown++
	})
	if grown < 1000 || tooLongOnes < 1000 || noSpace < 500 {
		t.Errorf("%d texts are appended, %d are too long and for %d there is no space", grown, tooLongOnes, noSpace)
	}
}

func TestPromise162LinkAndUnlink(t *testing.T) {
	connected := 0
	for _, w := range fewWorlds() {
		for a := range w.Feeds {
			for b := range w.Feeds {
				if a == b {
					continue
				}
				linked := impl.WorldDo(w, evLink(a, b))
				if !areConnected(linked, a, b) || !impl.WorldValid(linked) {
					t.Fatalf("WorldDo of %+v connects %d and %d in %+v", w, a, b, linked)
				}
				without := func(l impl.Link) bool { return l == impl.Link{A: min(a, b), B: max(a, b)} }
				want := cloneWorld(w)
				want.Links = slices.DeleteFunc(want.Links, without)
				for _, e := range []impl.Event{evUnlink(a, b), evUnlink(b, a)} {
					checkDo(t, linked, e, want)
					checkDo(t, w, e, want)
				}
				others := cloneWorld(linked)
				others.Links = slices.DeleteFunc(others.Links, without)
				if !equalWorlds(others, want) {
					t.Fatalf("WorldDo of %+v connects %d and %d in %+v", w, a, b, linked)
				}
				checkDo(t, w, evLink(b, a), linked)
				checkNoChange(t, linked, evLink(a, b), evLink(b, a))
				checkNoChange(t, want, evUnlink(a, b), evUnlink(b, a))
				connected++
			}
		}
	}
	if connected < 1000 {
		t.Errorf("only %d pairs are connected", connected)
	}
}

func TestPromise163Head(t *testing.T) {
	given, refused := 0, 0
	eachDo([]int{impl.EvHead}, func(w impl.World, e impl.Event, got impl.World) {
		if !areConnected(w, e.A, e.B) || w.Feeds[e.A].Head.Length <= w.Feeds[e.B].Head.Length {
			if !equalWorlds(got, w) {
				t.Fatalf("WorldDo of %+v and %+v is %+v", w, e, got)
			}
			refused++
			return
		}
		more := w.Feeds[e.A].Head.Length - w.Feeds[e.B].Head.Length
		want := withFeed(w, e.B, impl.Feed{
			Public: w.Feeds[e.B].Public,
			Head:   w.Feeds[e.A].Head,
			Blocks: slices.Concat(w.Feeds[e.B].Blocks, make([]string, more)),
			Have:   slices.Concat(w.Feeds[e.B].Have, make([]bool, more)),
		})
		if !equalWorlds(got, want) {
			t.Fatalf("WorldDo of %+v and %+v is %+v", w, e, got)
		}
		given++
	})
	if given < 1000 || refused < 10000 {
		t.Errorf("%d heads are given and %d are not", given, refused)
	}
}

func TestPromise164Ask(t *testing.T) {
	added, failed := 0, 0
	eachDo([]int{impl.EvAsk}, func(w impl.World, e impl.Event, got impl.World) {
		if equalWorlds(got, w) {
			failed++
			return
		}
		if !areConnected(w, e.A, e.B) || w.Feeds[e.A].Head.Length != w.Feeds[e.B].Head.Length || !hasBlockIn(w, e.B, e.C) || hasBlockIn(w, e.A, e.C) {
			t.Fatalf("WorldDo of %+v and %+v is %+v", w, e, got)
		}
		want := withAsked(w, e.A, append(slices.Clone(w.Asked[e.A]), impl.Ask{Peer: e.B, Block: e.C})...)
		if !equalWorlds(got, want) {
			t.Fatalf("WorldDo of %+v and %+v is %+v", w, e, got)
		}
		added++
	})
	if added < 1000 || failed < 10000 {
		t.Errorf("%d requests are added and %d are not", added, failed)
	}
}

func TestPromise165Answer(t *testing.T) {
	good, bad := 0, 0
	eachDo([]int{impl.EvAnswer}, func(w impl.World, e impl.Event, got impl.World) {
		if equalWorlds(got, w) {
			return
		}
		if len(got.Net) != len(w.Net)+1 || !equalWorlds(withNet(got, got.Net[:len(w.Net)]...), w) {
			t.Fatalf("WorldDo of %+v and %+v is %+v", w, e, got)
		}
		p, sender := got.Net[len(w.Net)], w.Feeds[e.B]
		if p.From != e.B || p.To != e.A || p.Index != e.C || p.Length != sender.Head.Length || !sender.Have[e.C] {
			t.Fatalf("WorldDo of %+v and %+v sends %+v", w, e, p)
		}
		if e.B == w.Bad {
			if p.Text != e.Text {
				t.Fatalf("WorldDo of %+v and %+v sends %+v", w, e, p)
			}
			bad++
			return
		}
		if p.Text != sender.Blocks[e.C] || !impl.TreeCheck(sender.Head.Digest, sender.Head.Length, e.C, impl.DigestText(p.Text), p.Proof) {
			t.Fatalf("WorldDo of %+v and %+v sends %+v", w, e, p)
		}
		good++
	})
	if good < 1000 || bad < 200 {
		t.Errorf("%d answers are of good peers and %d of bad ones", good, bad)
	}
}

// The proof of a bad peer is a right one, too: it is accepted with the digest of the block of the writer.
func TestPromise165ProofsAreRight(t *testing.T) {
	proofs := 0
	eachPlayed(t, func(_ impl.World, w impl.World) {
		for _, p := range w.Net {
			head := plainHeadOf(w, p.Length)
			if !impl.TreeCheck(head.Digest, p.Length, p.Index, impl.DigestText(w.Feeds[0].Blocks[p.Index]), p.Proof) {
				t.Fatalf("%+v is in transit in %+v", p, w)
			}
			proofs++
		}
	})
	if proofs < 1000 {
		t.Errorf("only %d blocks are in transit", proofs)
	}
}

func TestPromise166Deliver(t *testing.T) {
	stored, dropped, nothing := 0, 0, 0
	eachDo([]int{impl.EvDeliver}, func(w impl.World, e impl.Event, got impl.World) {
		if equalWorlds(got, w) {
			return
		}
		p := w.Net[e.A]
		before, after := w.Feeds[p.To], got.Feeds[p.To]
		switch {
		case !equalFeeds(before, after):
			if !equalFeeds(after, withText(before, p.Index, p.Text)) || before.Have[p.Index] {
				t.Fatalf("WorldDo of %+v and %+v is %+v", w, e, got)
			}
			if _, forBlock := countAsks(got.Asked[p.To], 0, p.Index); forBlock != 0 {
				t.Fatalf("WorldDo of %+v and %+v is %+v, with a request for the block", w, e, got)
			}
			stored++
		case !slices.Equal(w.Asked[p.To], got.Asked[p.To]):
			if toPeer, _ := countAsks(got.Asked[p.To], p.From, 0); toPeer != 0 {
				t.Fatalf("WorldDo of %+v and %+v is %+v, with a request to the sender", w, e, got)
			}
			dropped++
		default:
			nothing++
		}
	})
	if stored < 500 || dropped < 500 || nothing < 1000 {
		t.Errorf("%d blocks are stored, %d are refused and %d change nothing else", stored, dropped, nothing)
	}
}

// Requests for other blocks are kept if a block is stored, and those to others if it is refused.
func TestPromise166OtherRequestsAreKept(t *testing.T) {
	kept := 0
	eachDo([]int{impl.EvDeliver}, func(w impl.World, e impl.Event, got impl.World) {
		if equalWorlds(got, w) {
			return
		}
		p := w.Net[e.A]
		stored := !equalFeeds(w.Feeds[p.To], got.Feeds[p.To])
		others := slices.DeleteFunc(slices.Clone(w.Asked[p.To]), func(a impl.Ask) bool {
			return stored && a.Block == p.Index || !stored && a.Peer == p.From
		})
		if !slices.Equal(got.Asked[p.To], others) && !slices.Equal(got.Asked[p.To], w.Asked[p.To]) {
			t.Fatalf("WorldDo of %+v and %+v is %+v", w, e, got)
		}
		kept += len(others)
	})
	if kept < 5000 {
		t.Errorf("only %d requests are kept", kept)
	}
}

func TestPromise167WrongBlocksAreNotStored(t *testing.T) {
	wrong, requested := 0, 0
	eachDo([]int{impl.EvDeliver}, func(w impl.World, e impl.Event, got impl.World) {
		if e.A < 0 || e.A >= len(w.Net) {
			return
		}
		p := w.Net[e.A]
		if impl.DigestText(p.Text) == impl.DigestText(w.Feeds[0].Blocks[p.Index]) {
			return
		}
		if !slices.EqualFunc(got.Feeds, w.Feeds, equalFeeds) {
			t.Fatalf("WorldDo of %+v and %+v is %+v", w, e, got)
		}
		wrong++
		if hasRequest(w, p.To, impl.Ask{Peer: p.From, Block: p.Index}) {
			requested++
		}
	})
	if wrong < 1000 || requested < 500 {
		t.Errorf("only %d wrong blocks are delivered, %d of them requested ones", wrong, requested)
	}
}

func TestPromise168Lose(t *testing.T) {
	lost := 0
	eachDo([]int{impl.EvLose}, func(w impl.World, e impl.Event, got impl.World) {
		want := w
		if e.A >= 0 && e.A < len(w.Net) {
			want = withNet(w, slices.Delete(slices.Clone(w.Net), e.A, e.A+1)...)
			lost++
		}
		if !equalWorlds(got, want) {
			t.Fatalf("WorldDo of %+v and %+v is %+v", w, e, got)
		}
	})
	if lost < 3000 {
		t.Errorf("only %d blocks are lost", lost)
	}
}

func TestPromise169UnknownEvents(t *testing.T) {
	random := rand.New(rand.NewSource(76))
	for _, w := range worldsMade() {
		for _, kind := range notKinds {
			checkNoChange(t, w, impl.Event{Kind: kind}, impl.Event{Kind: kind, A: random.Intn(3), B: random.Intn(3), C: random.Intn(3), Text: "a"})
			checkNoChange(t, w, impl.Event{Kind: kind, A: 0, B: 1}, impl.Event{Kind: kind, A: oddNumber(random), B: oddNumber(random), C: oddNumber(random)})
		}
	}
}

func TestPromise169PeersAndPlacesThatDoNotExist(t *testing.T) {
	for number, w := range worldsMade() {
		many := len(w.Feeds)
		for _, peer := range append([]int{-1, many, many + 1}, notPeers[number%len(notPeers)]) {
			for _, kind := range []int{impl.EvLink, impl.EvUnlink, impl.EvHead, impl.EvAsk, impl.EvAnswer} {
				c := number % impl.MaxBlocks
				for _, other := range []int{number % many, peer} {
					checkNoChange(t, w, impl.Event{Kind: kind, A: peer, B: other, C: c}, impl.Event{Kind: kind, A: other, B: peer, C: c})
				}
			}
		}
		for _, place := range append([]int{-1, -2, len(w.Net), len(w.Net) + 1, impl.MaxNet}, notPeers[number%len(notPeers)]) {
			if place < 0 || place >= len(w.Net) {
				checkNoChange(t, w, evDeliver(place), evLose(place))
			}
		}
	}
}

// The requests of these events name peers that are not in the run, but could be in others.
func TestPromise169RequestsToPeersThatDoNotExist(t *testing.T) {
	w := withLinks(worldOf(7, -1, feedTexts(4), make([]bool, 4), make([]bool, 4)), 0, 1, 0, 2, 1, 2)
	w = withAsked(w, 1, impl.Ask{Peer: 5, Block: 2}, impl.Ask{Peer: 3, Block: 2})
	checkWorldValid(t, w, true)
	checkNoChange(t, w, evAnswer(1, 5, 2, "x"), evAnswer(1, 3, 2, "x"), evAsk(1, 3, 1), evAsk(3, 1, 1))
	// The full number of blocks is no block, and neither is a negative number.
	checkNoChange(t, w, evAsk(1, 0, 4), evAsk(1, 0, -1), evAsk(1, 0, impl.MaxBlocks), evAnswer(1, 0, 4, ""), evAnswer(1, 0, -1, ""))
}

func TestPromise170Reach(t *testing.T) {
	lengths := map[int]int{}
	for _, w := range worldsMade() {
		reached := impl.WorldReach(w)
		if !slices.Contains(reached, 0) || !slices.IsSorted(reached) || len(slices.Compact(slices.Clone(reached))) != len(reached) {
			t.Fatalf("WorldReach of %+v is %v", w, reached)
		}
		for _, peer := range reached {
			if peer < 0 || peer >= len(w.Feeds) {
				t.Fatalf("WorldReach of %+v is %v", w, reached)
			}
			for other := range w.Feeds {
				if peer != w.Bad && areConnected(w, peer, other) && !slices.Contains(reached, other) {
					t.Fatalf("WorldReach of %+v is %v, without %d", w, reached, other)
				}
			}
		}
		lengths[len(reached)]++
	}
	for many := 1; many <= impl.MaxPeers; many++ {
		if lengths[many] < 15 {
			t.Errorf("only %d times, %d peers are reached", lengths[many], many)
		}
	}
}

func TestPromise171ReachedPeersAreConnected(t *testing.T) {
	bad, less := 0, 0
	for _, w := range worldsMade() {
		reached := impl.WorldReach(w)
		for _, peer := range reached {
			if peer == 0 {
				continue
			}
			if !slices.ContainsFunc(reached, func(other int) bool { return other != w.Bad && areConnected(w, peer, other) }) {
				t.Fatalf("WorldReach of %+v is %v, with %d", w, reached, peer)
			}
			if peer == w.Bad {
				bad++
			}
		}
		if w.Bad > 0 && len(reached) < len(w.Feeds) {
			less++
		}
	}
	if bad < 100 || less < 100 {
		t.Errorf("only %d bad peers are reached, and with a bad peer, %d times some are not", bad, less)
	}
}

// The reached peers are those of the document's rule: neither more nor less, also where a circle of peers is not connected with the writer.
func TestPromise171CirclesWithoutTheWriter(t *testing.T) {
	checkReach(t, withLinks(newWorld(7, 5, -1), 1, 2, 1, 3, 2, 3, 3, 4), 0)
	checkReach(t, withLinks(newWorld(7, 5, 3), 0, 3, 1, 2, 1, 3, 2, 3, 3, 4), 0, 3)
	for _, w := range worldsMade() {
		checkReach(t, w, plainReach(w)...)
	}
}

// checkComplete fails the test if a reached peer has another head than the writer or lacks a block.
func checkComplete(t *testing.T, before impl.World, w impl.World) {
	t.Helper()
	for _, peer := range impl.WorldReach(before) {
		f := w.Feeds[peer]
		if f.Head != w.Feeds[0].Head || len(f.Have) != f.Head.Length || slices.Contains(f.Have, false) {
			t.Fatalf("WorldCalm of %+v is %+v, where %d lacks something", before, w, peer)
		}
	}
}

func TestPromise172ComesToIt(t *testing.T) {
	came, behind := 0, 0
	for _, w := range worldsMade() {
		checkComplete(t, w, impl.WorldCalm(w))
		for _, peer := range impl.WorldReach(w) {
			if len(lackingOf(w.Feeds[peer])) > 0 || w.Feeds[peer].Head.Length < w.Feeds[0].Head.Length {
				came++
				if !areConnected(w, 0, peer) {
					behind++
				}
			}
		}
	}
	if came < 1000 || behind < 200 {
		t.Errorf("it comes only to %d peers, %d of them not connected with the writer", came, behind)
	}
}

// Peers in a row are reached one after the other, whatever their order is.
func TestPromise172PeersInARow(t *testing.T) {
	random := rand.New(rand.NewSource(77))
	texts := feedTexts(impl.MaxBlocks)
	for range 200 {
		w := worldOf(1+random.Intn(996), -1, texts, make([][]bool, impl.MaxPeers-1)...)
		row := append([]int{0}, random.Perm(impl.MaxPeers-1)...)
		for place := 1; place < len(row); place++ {
			row[place]++
			w = impl.WorldDo(w, evLink(row[place-1], row[place]))
		}
		if len(w.Links) != impl.MaxPeers-1 || len(impl.WorldReach(w)) != impl.MaxPeers {
			t.Fatalf("the row %v gives %+v", row, w)
		}
		checkComplete(t, w, impl.WorldCalm(w))
	}
}

func TestPromise173CalmIsValidAndSigned(t *testing.T) {
	for _, w := range worldsMade() {
		calm := impl.WorldCalm(w)
		checkWorldValid(t, calm, true)
		checkSigned(t, calm)
	}
}

func TestPromise174CalmKeepsTheWriterAndTheConnections(t *testing.T) {
	requests, pieces := 0, 0
	for _, w := range worldsMade() {
		calm := impl.WorldCalm(w)
		if !equalFeeds(calm.Feeds[0], w.Feeds[0]) || !slices.Equal(calm.Links, w.Links) || calm.Secret != w.Secret || calm.Bad != w.Bad {
			t.Fatalf("WorldCalm of %+v is %+v", w, calm)
		}
		if len(calm.Asked) != len(w.Feeds) || len(slices.Concat(calm.Asked...)) > 0 || len(calm.Net) > 0 {
			t.Fatalf("WorldCalm of %+v is %+v", w, calm)
		}
		requests += len(slices.Concat(w.Asked...))
		pieces += len(w.Net)
	}
	if requests < 5000 || pieces < 3000 {
		t.Errorf("only %d requests and %d blocks in transit are removed", requests, pieces)
	}
}

func TestPromise175CalmTwice(t *testing.T) {
	for _, w := range worldsMade() {
		once := impl.WorldCalm(w)
		twice := impl.WorldCalm(once)
		for _, peer := range impl.WorldReach(w) {
			if !equalFeeds(once.Feeds[peer], twice.Feeds[peer]) {
				t.Fatalf("WorldCalm of %+v is %+v, and %+v the second time", w, once, twice)
			}
		}
	}
}

// Peers that are not reached exchange what they have, too, and after as many rounds as there are peers they have it all.
func TestPromise175CalmTwiceForAll(t *testing.T) {
	for _, w := range worldsMade() {
		once := impl.WorldCalm(w)
		checkCalm(t, once, once)
	}
}

func TestPromise176HeadTwice(t *testing.T) {
	changed := eachDo([]int{impl.EvHead}, func(_ impl.World, e impl.Event, got impl.World) {
		checkDo(t, got, e, got)
	})
	if changed < 1000 {
		t.Errorf("only %d heads are given", changed)
	}
}

func TestPromise177AskTwice(t *testing.T) {
	changed := eachDo([]int{impl.EvAsk}, func(_ impl.World, e impl.Event, got impl.World) {
		checkDo(t, got, e, got)
	})
	if changed < 1000 {
		t.Errorf("only %d requests are added", changed)
	}
}

func TestPromise178DeliverChangesTheReceiverOnly(t *testing.T) {
	changed := eachDo([]int{impl.EvDeliver}, func(w impl.World, e impl.Event, got impl.World) {
		if !slices.Equal(got.Links, w.Links) || got.Secret != w.Secret || got.Bad != w.Bad {
			t.Fatalf("WorldDo of %+v and %+v is %+v", w, e, got)
		}
		for peer, f := range w.Feeds {
			if equalFeeds(got.Feeds[peer], f) && slices.Equal(got.Asked[peer], w.Asked[peer]) {
				continue
			}
			if peer != w.Net[e.A].To {
				t.Fatalf("WorldDo of %+v and %+v is %+v, where %d is changed", w, e, got, peer)
			}
		}
		if e.A < 0 || e.A >= len(w.Net) {
			return
		}
		if !slices.EqualFunc(got.Net, slices.Delete(slices.Clone(w.Net), e.A, e.A+1), equalPieces) {
			t.Fatalf("WorldDo of %+v and %+v is %+v", w, e, got)
		}
	})
	if changed < 3000 {
		t.Errorf("only %d blocks are delivered", changed)
	}
}

func TestPromise179CalmAfterPlay(t *testing.T) {
	complete := 0
	eachPlayed(t, func(_ impl.World, w impl.World) {
		calm := impl.WorldCalm(w)
		checkComplete(t, w, calm)
		checkSigned(t, calm)
		for _, peer := range impl.WorldReach(w) {
			complete += plainCount(calm.Feeds[peer].Have)
			if impl.TreeDigest(leavesOf(calm.Feeds[peer].Blocks)) != impl.TreeDigest(leavesOf(w.Feeds[0].Blocks)) {
				t.Fatalf("WorldCalm of %+v is %+v, where %d has other blocks", w, calm, peer)
			}
		}
	})
	if complete < 10000 {
		t.Errorf("the reached peers have only %d blocks", complete)
	}
}
