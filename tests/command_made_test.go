package tests

import (
	"fmt"
	"math/rand"
	"slices"
	"strings"
	"sync"
	"testing"

	"loop.example/feedswarm/impl"
)

// commandNames are the first words of all commands.
var commandNames = []string{"grow", "link", "unlink", "head", "ask", "answer", "deliver", "lose", "calm", "net"}

// notCommands are lines whose first word is not a command.
var notCommands = []string{
	"", " ", "   ", " grow a", "  calm", "\tnet", "\rnet", "x", "gro", "grows", "grow\ta", "growa", "Grow a", "GROW a", "grow\x00", "grow,a", "grow\r",
	"lin 0 1", "link\t0 1", "link0 1", "Link 0 1", "links 0 1", "unlin 0 1", "Unlink 0 1", "un link 0 1", "unlink-0 1", "heads 0 1", "head, 0 1",
	"as 1 0 0", "asks 1 0 0", "answe 1 0 0", "answers 1 0 0", "deliver0", "delivers 0", "los 0", "loses 0", "calm\r", "calms", "Calm", "nets", "ne", "net\x00", "net\r",
	"what", "peer 0 #", "too long", "#", "0", "-1", "\x00", "\xff", "\xa0net", "net\xa0", "\u00a0net", "net\u00a0", "ne\u0074\u0301", "exit", "world",
}

// numberWords returns the words that are a number.
func numberWords(n int) []string {
	return slices.Compact([]string{fmt.Sprintf("%d", n), fmt.Sprintf("%02d", n)})
}

// notNumbers returns words that look like a number and are none.
func notNumbers(n int) []string {
	words := []string{"", fmt.Sprintf("%03d", n), fmt.Sprintf("00%02d", n), fmt.Sprintf("%020d", n), fmt.Sprintf("%d", 256+n), fmt.Sprintf("%d", 1<<32+n), fmt.Sprintf("18446744073709551616%d", n)}
	for _, before := range []string{"+", "-", "_", ".", "a", "x", "#", "\t", "\r", "\x00", "\xff", "\xb2", "\u00a0", "\u0660", "0x", "0b", "0_", "-0", "+0"} {
		words = append(words, fmt.Sprintf("%s%d", before, n))
	}
	for _, behind := range []string{"+", "-", "_", ".", ",", "a", "f", "e0", ".0", "\t", "\r", "\x00", "\xff", "\xb2", "\u00a0", "\u0660"} {
		words = append(words, fmt.Sprintf("%d%s", n, behind))
	}
	// Digits that are not decimal ones of one byte: of other scripts, raised ones, and the byte of a digit with its highest bit set.
	return append(words, string([]rune{rune(0x660 + n)}), string([]rune{rune(0xff10 + n)}), string([]byte{byte(0xb0 + n)}), string([]byte{byte(n)}), "a", "A", "-", "+", "--", "one")
}

// absent are numbers for which there is no peer, no block and no place in transit.
var absent = []int{16, 17, 20, 31, 64, 90, 99}

// scriptOf returns the script that has these lines.
func scriptOf(lines ...string) string {
	script := ""
	for _, line := range lines {
		script += line + "\n"
	}
	return script
}

// checkExecute fails the test if Execute of a script does not return these lines.
func checkExecute(t *testing.T, script string, want ...string) {
	t.Helper()
	if got := impl.Execute(script); got != scriptOf(want...) {
		t.Fatalf("Execute of %q is\n%q, not\n%q", script, got, scriptOf(want...))
	}
}

// printedAndPeers returns the lines that the commands have printed, and those of the peers at the end.
func printedAndPeers(t *testing.T, output string) ([]string, []string) {
	t.Helper()
	lines := strings.SplitAfter(output, "\n")
	if len(lines) < 5 || lines[len(lines)-1] != "" {
		t.Fatalf("the output is %q", output)
	}
	lines = lines[:len(lines)-1]
	peers := lines[len(lines)-4:]
	for peer, line := range peers {
		if !strings.HasPrefix(line, fmt.Sprintf("peer %d ", peer)) {
			t.Fatalf("the line of peer %d is %q", peer, line)
		}
	}
	return lines[:len(lines)-4], peers
}

// wordOf returns a text that can be a word of a line.
func wordOf(text string) string {
	return strings.ReplaceAll(strings.ReplaceAll(text, " ", "_"), "\n", "_")
}

// lineOf returns the line of an event.
func lineOf(e impl.Event) string {
	switch e.Kind {
	case impl.EvGrow:
		return "grow " + wordOf(e.Text)
	case impl.EvLink, impl.EvUnlink, impl.EvHead:
		return fmt.Sprintf("%s %d %d", commandNames[e.Kind-1], e.A, e.B)
	case impl.EvAsk:
		return fmt.Sprintf("ask %d %d %d", e.A, e.B, e.C)
	case impl.EvAnswer:
		return fmt.Sprintf("answer %d %d %d %s", e.A, e.B, e.C, wordOf(e.Text))
	case impl.EvDeliver, impl.EvLose:
		return fmt.Sprintf("%s %d", commandNames[e.Kind-1], e.A)
	}
	return "calm"
}

// changedLine returns a line in which one word is dropped, repeated or replaced, or that has a further blank.
func changedLine(random *rand.Rand, line string) string {
	words := strings.Split(line, " ")
	place := random.Intn(len(words))
	switch random.Intn(6) {
	case 0:
		words = slices.Delete(words, place, place+1)
	case 1:
		words = slices.Insert(words, place, words[place])
	case 2:
		words = slices.Insert(words, place, "")
	case 3:
		words = append(words, "", "x")[:len(words)+1+random.Intn(2)]
	case 4:
		odd := notNumbers(random.Intn(4))
		words[place] = odd[random.Intn(len(odd))]
	case 5:
		words[place] = fmt.Sprintf("%02d", random.Intn(5))
	}
	return strings.Join(words, " ")
}

// oddLine returns a line that in most cases does nothing.
func oddLine(random *rand.Rand) string {
	switch random.Intn(4) {
	case 0:
		return notCommands[random.Intn(len(notCommands))]
	case 1:
		return commandNames[random.Intn(len(commandNames))]
	case 2:
		bytes := make([]byte, random.Intn(12))
		random.Read(bytes)
		return strings.ReplaceAll(string(bytes), "\n", " ")
	}
	return changedLine(random, lineOf(oddEvent(random)))
}

// likelyLine returns a line for a run that in most cases has an effect.
func likelyLine(random *rand.Rand, w impl.World) string {
	switch roll := random.Intn(60); {
	case roll < 1:
		return "calm"
	case roll < 4:
		return "net"
	case roll < 7:
		return oddLine(random)
	case roll < 10:
		return changedLine(random, lineOf(likelyEvent(random, w)))
	}
	return lineOf(likelyEvent(random, w))
}

// firstLines returns lines with which most scripts begin, so that the following ones find blocks and connections.
func firstLines(random *rand.Rand) []string {
	lines := []string{}
	for range random.Intn(5) {
		lines = append(lines, "grow "+wordOf(randomText(random)))
	}
	for _, line := range []string{"link 0 1", "link 3 0", "link 1 3", "link 2 1", "link 2 3", "link 0 2", "calm", "grow z", "grow y", "grow x"} {
		if random.Intn(2) == 0 {
			lines = append(lines, line)
		}
	}
	return lines
}

// randomScript returns a script of whole lines that fits into a number of bytes.
func randomScript(random *rand.Rand, most int) string {
	script, w := "", newWorld(7, 4, 3)
	first := firstLines(random)
	for {
		line := likelyLine(random, w)
		if len(first) > 0 {
			line, first = first[0], first[1:]
		}
		if len(script)+len(line)+1 > most {
			return script
		}
		script += line + "\n"
		w, _ = plainLine(w, line)
	}
}

// scriptsMade returns scripts of whole lines: the empty one, those of a command, and others of all lengths.
var scriptsMade = sync.OnceValue(func() []string {
	random := rand.New(rand.NewSource(81))
	scripts := []string{"", "\n"}
	for _, name := range commandNames {
		scripts = append(scripts, name+"\n")
	}
	for range 1000 {
		most := impl.MaxScript
		if random.Intn(3) == 0 {
			most = random.Intn(impl.MaxScript + 1)
		}
		scripts = append(scripts, randomScript(random, most))
	}
	return scripts
})
