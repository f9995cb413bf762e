package tests

import (
	"fmt"
	"slices"
	"strings"
	"testing"

	"loop.example/feedswarm/impl"
)

// The output of this test is computed from the document's rules by hand.
func TestCommandValues(t *testing.T) {
	script := scriptOf("grow a", "grow b", "grow c", "link 0 1", "link 01 03", "what is this", "link 3 2", "head 0 1", "ask 1 0 2", "ask 1 0 0", "answer 1 0 0", "answer 1 0 2", "net",
		"deliver 1", "net", "head 1 3", "ask 3 1 2", "ask 3 1 1", "answer 3 1 2", "answer 3 1 1", "Net", "net", "deliver 1", "head 3 2", "ask 2 3 2", "answer 2 3 2 forged", "net", "deliver 1", "grow d", "lose 0", "net", "unlink 1 0")
	checkExecute(t, script,
		"what",
		"0 0 1 0 a",
		"1 0 1 2 c",
		"0 0 1 0 a",
		"what",
		"0 0 1 0 a",
		"1 1 3 2 c",
		"0 0 1 0 a",
		"1 3 2 2 forged",
		"peer 0 ####",
		"peer 1 ..#",
		"peer 2 ...",
		"peer 3 ..#")
	checkExecute(t, script+"calm\n",
		"what", "0 0 1 0 a", "1 0 1 2 c", "0 0 1 0 a", "what", "0 0 1 0 a", "1 1 3 2 c", "0 0 1 0 a", "1 3 2 2 forged",
		"peer 0 ####",
		"peer 1 ..#",
		"peer 2 ...",
		"peer 3 ..#")
	checkExecute(t, script+"link 0 1\ncalm\nnet\n",
		"what", "0 0 1 0 a", "1 0 1 2 c", "0 0 1 0 a", "what", "0 0 1 0 a", "1 1 3 2 c", "0 0 1 0 a", "1 3 2 2 forged",
		"peer 0 ####",
		"peer 1 ####",
		"peer 2 ...",
		"peer 3 ####")
}

// filled returns a script of so many bytes that has a malformed line and then the last ones.
func filled(many int, last string) string {
	return strings.Repeat("x", many-len(last)-1) + "\n" + last
}

func TestScriptLengths(t *testing.T) {
	for _, last := range []string{"grow a\n", "grow a\nx", "grow a\n ", "grow a\ngrow b", "grow a\ncalm\n", "grow a\n\xff\xff"} {
		for _, many := range []int{impl.MaxScript - 1, impl.MaxScript} {
			checkExecute(t, filled(many, last), lines([]string{"what"}, peersOf("#", "", "", ""))...)
		}
		for _, many := range []int{impl.MaxScript + 1, impl.MaxScript + 2, 1024, 1 << 16} {
			checkExecute(t, filled(many, last), "too long")
		}
	}
	// Bytes count, not letters, and not lines.
	letters := strings.Repeat("\u00e4", impl.MaxScript/2)
	checkExecute(t, letters, peersOf("", "", "", "")...)
	checkExecute(t, letters+"\n", "too long")
	checkExecute(t, letters[2:]+"\n", lines([]string{"what"}, peersOf("", "", "", ""))...)
	whats := slices.Repeat([]string{"what"}, impl.MaxScript)
	checkExecute(t, strings.Repeat("\n", impl.MaxScript), lines(whats, peersOf("", "", "", ""))...)
	checkExecute(t, strings.Repeat("\n", impl.MaxScript+1), "too long")
	checkExecute(t, strings.Repeat("x", impl.MaxScript), peersOf("", "", "", "")...)
	checkExecute(t, strings.Repeat("x", impl.MaxScript+1), "too long")
	checkExecute(t, strings.Repeat(" ", impl.MaxScript), peersOf("", "", "", "")...)
	checkExecute(t, strings.Repeat(" ", impl.MaxScript-1)+"\n", lines([]string{"what"}, peersOf("", "", "", ""))...)
}

func TestLastLineWithoutNewline(t *testing.T) {
	for _, line := range append(slices.Clone(notCommands), "grow a", "link 0 1", "calm", "net", "deliver 0") {
		checkExecute(t, line, peersOf("", "", "", "")...)
	}
	before := scriptOf("grow a", "link 0 1", "calm", "grow b", "head 0 1", "ask 1 0 1", "answer 1 0 1")
	want := peersOf("##", "#.", "", "")
	checkExecute(t, before, want...)
	for _, line := range append(slices.Clone(notCommands), "grow c", "calm", "net", "deliver 0", "lose 0", "deliver 0 ") {
		checkExecute(t, before+line, want...)
	}
	checkExecute(t, before+"\nnet", lines([]string{"what"}, want)...)
	checkExecute(t, before+"net\nnet", lines([]string{"0 0 1 1 b"}, want)...)
}

func TestEmptyLinesAndBlanks(t *testing.T) {
	for _, line := range []string{"", " ", "  ", "   ", strings.Repeat(" ", 290)} {
		checkExecute(t, line+"\n", lines([]string{"what"}, peersOf("", "", "", ""))...)
		checkExecute(t, line+"\n"+line+"\n", lines([]string{"what", "what"}, peersOf("", "", "", ""))...)
		checkExecute(t, "grow a\n"+line+"\ngrow b\n", lines([]string{"what"}, peersOf("##", "", "", ""))...)
		checkExecute(t, line+"\ngrow a\n"+line, lines([]string{"what"}, peersOf("#", "", "", ""))...)
	}
	// A blank before the first word makes an empty first word.
	for _, line := range []string{" grow a", "  grow a", " net", " calm", " x"} {
		checkExecute(t, line+"\n", lines([]string{"what"}, peersOf("", "", "", ""))...)
	}
}

// showing returns lines after which net shows the text of the first block of the writer.
func showing(line string) []string {
	return []string{line, "link 0 1", "head 0 1", "ask 1 0 0", "answer 1 0 0", "net"}
}

func TestGrowTexts(t *testing.T) {
	for _, text := range []string{"", "a", "ab", "1", "-1", "00", "grow", "what", "1234567", "12345678", longestText, "\u00e4\u00e4\u00e4\u00e4", "\x00", "\t\r"} {
		checkExecute(t, scriptOf(showing("grow "+text)...), lines([]string{"0 0 1 0 " + text}, peersOf("#", ".", "", ""))...)
		checkExecute(t, scriptOf(showing("grow "+text+" more words")...), lines([]string{"0 0 1 0 " + text}, peersOf("#", ".", "", ""))...)
	}
	for _, text := range []string{"123456789", "toolongtext", longestText + "\xff", "\u00e4\u00e4\u00e4\u00e4\u00e4", strings.Repeat("x", 500)} {
		checkExecute(t, scriptOf(showing("grow "+text)...), peersOf("", "", "", "")...)
		checkExecute(t, scriptOf("grow a", "grow "+text, "grow b"), peersOf("##", "", "", "")...)
	}
}

func TestGrowMoreThanThereIsRoom(t *testing.T) {
	for many := range impl.MaxBlocks + 5 {
		blocks := min(many, impl.MaxBlocks)
		grown := strings.Repeat("grow b\n", many)
		checkExecute(t, grown, peersOf(strings.Repeat("#", blocks), "", "", "")...)
		dots, signs := strings.Repeat(".", blocks), strings.Repeat("#", blocks)
		checkExecute(t, grown+"link 0 1\nhead 0 1\n", peersOf(signs, dots, "", "")...)
		checkExecute(t, grown+"link 0 1\nlink 1 2\nlink 0 3\ncalm\n", peersOf(signs, signs, signs, signs)...)
	}
	// The last block is that of the last line that found room.
	grown := strings.Repeat("grow\n", 15) + "grow last\ngrow more\n"
	checkExecute(t, grown+"link 0 1\nhead 0 1\nask 1 0 15\nanswer 1 0 15\nask 1 0 16\nanswer 1 0 16\nnet\n",
		lines([]string{"0 0 1 15 last"}, peersOf(strings.Repeat("#", 16), strings.Repeat(".", 16), "", ""))...)
}

func TestAnswersOfPeers(t *testing.T) {
	want := peersOf("##", "..", "", "##")
	for _, text := range []string{"", "b", "bad", "12345678", longestText, "1", "-1", "\x00"} {
		checkExecute(t, scriptOf(lines(askedBad, []string{"answer 1 3 1 " + text, "net"})...), lines([]string{"0 3 1 1 " + text}, want)...)
		checkExecute(t, scriptOf(lines(askedBad, []string{"answer 1 3 1 " + text + " more", "net"})...), lines([]string{"0 3 1 1 " + text}, want)...)
	}
	checkExecute(t, scriptOf(lines(askedBad, []string{"answer 1 3 1", "net"})...), lines([]string{"0 3 1 1 "}, want)...)
	for _, text := range []string{"123456789", "toolongtext", longestText + "\xff", strings.Repeat("x", 400)} {
		checkExecute(t, scriptOf(lines(askedBad, []string{"answer 1 3 1 " + text, "net"})...), want...)
		// Other peers send the block, whatever the text is.
		checkExecute(t, scriptOf(lines(asked, []string{"answer 1 0 0 " + text, "net", "deliver 0"})...), lines([]string{"0 0 1 0 a"}, peersOf("#", "#", "", ""))...)
	}
	// After a wrong block, nothing is requested of the bad peer any more.
	checkExecute(t, scriptOf(lines(askedBad, []string{"ask 1 3 0", "answer 1 3 1 bad", "deliver 0", "answer 1 3 1 b", "answer 1 3 0 a", "net"})...), want...)
	// Peer 3 is bad also for the other peers, and no other peer is.
	for peer := 1; peer < 4; peer++ {
		other := peer%3 + 1
		script := scriptOf("grow a", fmt.Sprintf("link 0 %d", peer), "calm", fmt.Sprintf("link %d %d", peer, other), fmt.Sprintf("head %d %d", peer, other),
			fmt.Sprintf("ask %d %d 0", other, peer), fmt.Sprintf("answer %d %d 0 bad", other, peer), "net", "deliver 0")
		text, signs := "a", []string{"#", "", "", ""}
		signs[peer], signs[other] = "#", "#"
		if peer == 3 {
			text, signs[other] = "bad", "."
		}
		checkExecute(t, script, lines([]string{fmt.Sprintf("0 %d %d 0 %s", peer, other, text)}, peersOf(signs...))...)
	}
}

func TestNetOfEachLength(t *testing.T) {
	for many := range impl.MaxNet + 4 {
		there := min(many, impl.MaxNet)
		script := scriptOf(asked...) + strings.Repeat("answer 1 0 0\n", many)
		checkExecute(t, script+"net\n", lines(printedNet(there), peersOf("#", ".", "", ""))...)
		checkExecute(t, script+"net\nnet\n", lines(printedNet(there), printedNet(there), peersOf("#", ".", "", ""))...)
		checkExecute(t, script+"lose 0\nnet\n", lines(printedNet(max(0, there-1)), peersOf("#", ".", "", ""))...)
		if many > 0 {
			checkExecute(t, script+"deliver 0\nnet\n", lines(printedNet(there-1), peersOf("#", "#", "", ""))...)
		}
	}
	checkExecute(t, "net\n", peersOf("", "", "", "")...)
	// Of blocks of several peers, the oldest ones are the first.
	checkExecute(t, scriptOf(lines(askedBad, []string{"link 0 2", "head 0 2", "ask 2 0 0", "ask 2 0 1"}, []string{"answer 1 3 1 1", "answer 2 0 1 2", "answer 1 3 1 3", "answer 2 0 0 4", "net", "lose 1", "net"})...),
		lines([]string{"0 3 1 1 1", "1 0 2 1 b", "2 3 1 1 3", "3 0 2 0 a", "0 3 1 1 1", "1 3 1 1 3", "2 0 2 0 a"}, peersOf("##", "..", "..", "##"))...)
}

func TestCalmOfScripts(t *testing.T) {
	for _, many := range []int{1, 2, 3} {
		calm := strings.Repeat("calm\n", many)
		checkExecute(t, calm, peersOf("", "", "", "")...)
		checkExecute(t, "grow a\ngrow b\n"+calm, peersOf("##", "", "", "")...)
		checkExecute(t, "link 0 1\n"+calm+"grow a\n", peersOf("#", "", "", "")...)
		checkExecute(t, "grow a\nlink 0 1\nlink 2 3\n"+calm, peersOf("#", "#", "", "")...)
		// The bad peer takes, and gives nothing.
		checkExecute(t, "grow a\nlink 0 3\nlink 1 3\nlink 2 1\n"+calm, peersOf("#", "", "", "#")...)
		checkExecute(t, "grow a\nlink 0 3\nlink 1 3\nlink 2 1\nlink 2 0\n"+calm, peersOf("#", "#", "#", "#")...)
		// Requests and blocks in transit are gone, also where nobody is connected.
		checkExecute(t, scriptOf(asked...)+"answer 1 0 0\nunlink 0 1\n"+calm+"net\nlink 0 1\nanswer 1 0 0\nnet\ndeliver 0\n", peersOf("#", ".", "", "")...)
		checkExecute(t, scriptOf(asked...)+"answer 1 0 0\n"+calm+"net\n", peersOf("#", "#", "", "")...)
	}
	// After calm, commands go on with the run.
	checkExecute(t, scriptOf("grow a", "link 0 1", "calm", "grow b", "head 0 1", "ask 1 0 1", "answer 1 0 1", "net", "calm", "net", "grow c", "calm"),
		lines([]string{"0 0 1 1 b"}, peersOf("###", "###", "", ""))...)
}

func TestLinesOfPeers(t *testing.T) {
	// Without heads, with the heads of different lengths, with some of the blocks and with all.
	checkExecute(t, scriptOf("grow a", "grow b", "grow c"), peersOf("###", "", "", "")...)
	checkExecute(t, scriptOf("link 0 1", "link 0 2", "link 0 3", "grow a", "head 0 1", "grow b", "head 0 2", "grow c", "head 0 3"), peersOf("###", ".", "..", "...")...)
	checkExecute(t, scriptOf("link 0 1", "link 0 2", "grow a", "calm", "grow b", "head 0 1", "head 1 2", "grow c", "head 0 2"), peersOf("###", "#.", "#..", "")...)
	for missing := range 5 {
		script := scriptOf("grow a", "grow b", "grow c", "grow d", "grow e", "link 1 0", "head 0 1")
		signs := ""
		for block := range 5 {
			if block == missing {
				signs += "."
				continue
			}
			script += scriptOf(fmt.Sprintf("ask 1 0 %d", block), fmt.Sprintf("answer 1 0 %d", block), "deliver 0")
			signs += "#"
		}
		checkExecute(t, script, peersOf("#####", signs, "", "")...)
		checkExecute(t, script+"calm\n", peersOf("#####", "#####", "", "")...)
		checkExecute(t, script+"grow f\nhead 0 1\n", peersOf("######", signs+".", "", "")...)
	}
}

// WorldPlay does not accept so many events, but a script may have them.
func TestMoreEventsThanPlays(t *testing.T) {
	for _, many := range []int{impl.MaxPlay - 2, impl.MaxPlay - 1, impl.MaxPlay, impl.MaxPlay + 1, impl.MaxPlay + 20} {
		script := strings.Repeat("grow\n", many)
		all := strings.Repeat("#", impl.MaxBlocks)
		checkExecute(t, script, peersOf(all, "", "", "")...)
		checkExecute(t, script+"link 0 1\nhead 0 1\n", peersOf(all, strings.Repeat(".", impl.MaxBlocks), "", "")...)
		checkExecute(t, script+"link 0 1\ncalm\n", peersOf(all, all, "", "")...)
		checkExecute(t, strings.Repeat("lose\n", many)+"grow a\nlink 0 1\nhead 0 1\n", peersOf("#", ".", "", "")...)
	}
	checkExecute(t, strings.Repeat("calm\n", 110)+"grow a\nlink 0 1\ncalm\n", peersOf("#", "#", "", "")...)
	checkExecute(t, strings.Repeat("net\n", 140)+"grow a\nlink 0 1\ncalm\n", peersOf("#", "#", "", "")...)
	// All of these events have an effect.
	pairs := strings.Repeat("link 0 1\nunlink 0 1\n", 24) + "grow a\n"
	checkExecute(t, pairs+"calm\n", peersOf("#", "", "", "")...)
	checkExecute(t, pairs+"link 0 1\ncalm\n", peersOf("#", "#", "", "")...)
}

// The requests that windows refuse are not there.
func TestRequestsOfScripts(t *testing.T) {
	grown := scriptOf("grow a", "grow b", "grow c", "grow d", "link 0 1", "head 0 1")
	answers := scriptOf("answer 1 0 0", "answer 1 0 1", "answer 1 0 2", "answer 1 0 3", "net")
	// At most MaxAsked requests to one peer.
	checkExecute(t, grown+scriptOf("ask 1 0 3", "ask 1 0 2", "ask 1 0 1", "ask 1 0 0")+answers,
		lines([]string{"0 0 1 1 b", "1 0 1 2 c", "2 0 1 3 d"}, peersOf("####", "....", "", ""))...)
	// A second request for a block is only accepted at the end, of another peer.
	both := grown + scriptOf("link 0 2", "calm", "link 1 2", "grow e", "head 0 1", "head 0 2", "ask 2 0 4", "answer 2 0 4", "deliver 0")
	checkExecute(t, both+scriptOf("ask 1 0 4", "ask 1 2 4", "ask 1 2 4", "answer 1 0 4", "answer 1 2 4", "net", "deliver 0", "deliver 0"),
		lines([]string{"0 0 1 4 e", "1 2 1 4 e"}, peersOf("#####", "#####", "#####", ""))...)
}
