package tests

import (
	"fmt"
	"math/rand"
	"strings"
	"testing"

	"loop.example/feedswarm/impl"
)

// plainNumbers has all words that are numbers.
var plainNumbers = func() map[string]int {
	numbers := map[string]int{}
	for n := range 100 {
		numbers[fmt.Sprintf("%d", n)] = n
		numbers[fmt.Sprintf("%02d", n)] = n
	}
	return numbers
}()

// plainNumber returns the number of a word by the document's rule.
func plainNumber(word string) int {
	if n, ok := plainNumbers[word]; ok {
		return n
	}
	return -1
}

// plainWords returns the first five words of a line by the document's rule.
func plainWords(line string) [5]string {
	var words [5]string
	place := 0
	for i := range len(line) {
		if line[i] == ' ' {
			place++
		} else if place < len(words) {
			words[place] += line[i : i+1]
		}
	}
	return words
}

// plainLine returns what the run is after a line, and what the line prints, by the document's rule.
func plainLine(w impl.World, line string) (impl.World, string) {
	words := plainWords(line)
	a, b, c := plainNumber(words[1]), plainNumber(words[2]), plainNumber(words[3])
	switch words[0] {
	case "grow":
		return plainDo(w, evGrow(words[1])), ""
	case "link":
		return plainDo(w, evLink(a, b)), ""
	case "unlink":
		return plainDo(w, evUnlink(a, b)), ""
	case "head":
		return plainDo(w, evHead(a, b)), ""
	case "ask":
		return plainDo(w, evAsk(a, b, c)), ""
	case "answer":
		return plainDo(w, evAnswer(a, b, c, words[4])), ""
	case "deliver":
		return plainDo(w, evDeliver(a)), ""
	case "lose":
		return plainDo(w, evLose(a)), ""
	case "calm":
		return plainCalm(w), ""
	case "net":
		list := ""
		for place, p := range w.Net {
			list += fmt.Sprintf("%d %d %d %d %s\n", place, p.From, p.To, p.Index, p.Text)
		}
		return w, list
	}
	return w, "what\n"
}

// plainExecute executes a script by the document's rule. It returns the run and the output.
func plainExecute(script string) (impl.World, string) {
	w, output, start := newWorld(7, 4, 3), "", 0
	if len(script) > 600 {
		return w, "too long\n"
	}
	for end := range len(script) {
		if script[end] == '\n' {
			next, printed := plainLine(w, script[start:end])
			w, output, start = next, output+printed, end+1
		}
	}
	for peer, f := range w.Feeds {
		output += fmt.Sprintf("peer %d ", peer)
		for _, there := range f.Have {
			output += map[bool]string{true: "#", false: "."}[there]
		}
		output += "\n"
	}
	return w, output
}

// checkScriptRules fails the test if Execute does not follow the document's rule for a script.
func checkScriptRules(t *testing.T, script string) impl.World {
	t.Helper()
	w, want := plainExecute(script)
	if got := impl.Execute(script); got != want {
		t.Fatalf("Execute of %q is\n%q, not\n%q", script, got, want)
	}
	return w
}

func TestScriptsFollowTheirRules(t *testing.T) {
	whole, some, pieces, asked, whats := 0, 0, 0, 0, 0
	for _, script := range scriptsMade() {
		w := checkScriptRules(t, script)
		for peer := 1; peer < 4; peer++ {
			f := w.Feeds[peer]
			if there := plainCount(f.Have); there > 0 && there == len(w.Feeds[0].Blocks) {
				whole++
			} else if there > 0 {
				some++
			}
			asked += len(w.Asked[peer])
		}
		pieces += len(w.Net)
		_, output := plainExecute(script)
		whats += strings.Count("\n"+output, "\nwhat\n")
	}
	if whole < 50 || some < 50 || pieces < 100 || asked < 100 || whats < 100 {
		t.Errorf("%d readers have all blocks and %d some, %d blocks are in transit, %d requests are there and %d lines are malformed", whole, some, pieces, asked, whats)
	}
}

// brokenScript returns a script in which a few bytes have been replaced, inserted or removed, or that has got another length.
func brokenScript(random *rand.Rand, script string) string {
	const likely = " \n 0123 growlinkuheadsvctm\x00\xff"
	bytes := []byte(script)
	for range 1 + random.Intn(6) {
		place, b := random.Intn(len(bytes)+1), likely[random.Intn(len(likely))]
		switch random.Intn(3) {
		case 0:
			bytes = append(bytes[:place:place], append([]byte{b}, bytes[place:]...)...)
		case 1:
			if place < len(bytes) {
				bytes[place] = b
			}
		case 2:
			bytes = append(bytes[:place:place], bytes[min(place+1, len(bytes)):]...)
		}
	}
	switch random.Intn(6) {
	case 0:
		bytes = bytes[:random.Intn(len(bytes)+1)]
	case 1:
		for many := impl.MaxScript - 2 + random.Intn(5); len(bytes) < many; {
			bytes = append(bytes, "grow b\n"...)[:min(many, len(bytes)+7)]
		}
	}
	return string(bytes)
}

func TestBrokenScriptsFollowTheirRules(t *testing.T) {
	random := rand.New(rand.NewSource(82))
	long, unended := 0, 0
	for _, script := range scriptsMade() {
		for range 2 {
			broken := brokenScript(random, script)
			checkScriptRules(t, broken)
			if len(broken) > impl.MaxScript {
				long++
			} else if !strings.HasSuffix(broken, "\n") {
				unended++
			}
		}
	}
	if long < 50 || unended < 50 {
		t.Errorf("only %d scripts are too long, and only %d end without a newline", long, unended)
	}
}

// Scripts of any bytes, most of them without a command.
func TestScriptsOfAnyBytes(t *testing.T) {
	random := rand.New(rand.NewSource(83))
	for range 1000 {
		bytes := make([]byte, random.Intn(impl.MaxScript+20))
		random.Read(bytes)
		for i := range bytes {
			if random.Intn(6) == 0 {
				bytes[i] = " \n\n"[random.Intn(3)]
			}
		}
		checkScriptRules(t, string(bytes))
	}
}

// numbersTried are words that are peers, blocks or places in some runs, and others.
var numbersTried = []string{"", "0", "01", "2", "3", "4", "16", "99", "-1", "x"}

// Each command has each number at each place, in runs in which some of them have an effect.
func TestAllNumbersOfEachCommand(t *testing.T) {
	befores := []string{scriptOf("grow a", "grow b"), scriptOf("grow a", "link 0 1", "link 1 2", "link 2 3", "calm", "grow b", "head 0 1", "head 1 2", "link 0 2"), scriptOf(inTransit...), scriptOf(askedBad...), scriptOf(lines(inTransit, []string{"link 1 3", "link 3 0", "head 1 3", "ask 3 0 1", "answer 3 0 1"})...)}
	after := scriptOf("head 0 1", "head 0 3", "ask 1 0 0", "ask 1 0 1", "ask 3 1 0", "ask 2 3 0", "answer 1 0 1", "answer 3 0 0", "answer 1 3 1 z", "net", "deliver 0", "net", "unlink 1 2", "calm")
	outputs := map[string]bool{}
	try := func(before string, words ...string) {
		script := before + strings.Join(words, " ") + "\n" + after
		checkScriptRules(t, script)
		outputs[impl.Execute(script)] = true
	}
	for _, before := range befores {
		for _, a := range numbersTried {
			for _, name := range []string{"deliver", "lose"} {
				try(before, name, a)
			}
			for _, b := range numbersTried {
				for _, name := range []string{"link", "unlink", "head"} {
					try(before, name, a, b)
				}
				for _, c := range []string{"", "00", "1", "16", "-1"} {
					try(before, "ask", a, b, c)
					try(before, "answer", a, b, c, "t")
				}
			}
		}
	}
	if len(outputs) < 30 {
		t.Errorf("there are only %d different outputs", len(outputs))
	}
}
