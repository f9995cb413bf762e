package tests

import (
	"fmt"
	"slices"
	"strings"
	"testing"

	"loop.example/feedswarm/impl"
)

func TestCommandConstants(t *testing.T) {
	if impl.MaxScript != 600 {
		t.Errorf("MaxScript is %d", impl.MaxScript)
	}
}

func TestPromise180EmptyScript(t *testing.T) {
	if got := impl.Execute(""); got != "peer 0 \npeer 1 \npeer 2 \npeer 3 \n" {
		t.Errorf("Execute of an empty script is %q", got)
	}
}

func TestPromise181EndsWithANewline(t *testing.T) {
	for number, script := range scriptsMade() {
		script += []string{"", "net", "\n", "net\n", "\x00", "\xff\n"}[number%6]
		got := impl.Execute(script)
		if !strings.HasSuffix(got, "\n") {
			t.Fatalf("Execute of %q is %q", script, got)
		}
		if len(script) <= impl.MaxScript {
			printedAndPeers(t, got)
		}
	}
}

func TestPromise181TooLong(t *testing.T) {
	for number, script := range scriptsMade() {
		for _, more := range []string{"x", " ", "\n", "net\n", "\x00", "\xff", "grow a\nlink 0 1\ncalm\n"} {
			long := script + strings.Repeat(more, 2*impl.MaxScript)
			for _, many := range []int{impl.MaxScript + 1, impl.MaxScript + 2, len(long)} {
				if got := impl.Execute(long[:many]); got != "too long\n" {
					t.Fatalf("Execute of %q is %q", long[:many], got)
				}
			}
			if number%20 > 0 {
				continue
			}
			if got := impl.Execute(long[:impl.MaxScript]); got == "too long\n" {
				t.Fatalf("Execute of %q is %q", long[:impl.MaxScript], got)
			}
		}
	}
	for _, many := range []int{1000, 1 << 16, 1 << 24} {
		if got := impl.Execute(strings.Repeat("\n", many)); got != "too long\n" {
			t.Fatalf("Execute of %d newlines is %q", many, got)
		}
	}
}

// checkNotACommand fails the test if a line that is appended to a script does anything but print "what". It reports whether there is room for the line.
func checkNotACommand(t *testing.T, script string, line string) bool {
	t.Helper()
	longer := script + line + "\n"
	if len(longer) > impl.MaxScript {
		if got := impl.Execute(longer); got != "too long\n" {
			t.Fatalf("Execute of %q is %q", longer, got)
		}
		return false
	}
	printed, peers := printedAndPeers(t, impl.Execute(script))
	want := strings.Join(printed, "") + "what\n" + strings.Join(peers, "")
	if got := impl.Execute(longer); got != want {
		t.Fatalf("Execute of %q is\n%q, not\n%q", longer, got, want)
	}
	return true
}

func TestPromise182NotACommand(t *testing.T) {
	count, long := 0, 0
	for number, script := range scriptsMade() {
		for place, line := range notCommands {
			if number >= 30 && (number+place)%20 > 0 {
				continue
			}
			if checkNotACommand(t, script, line) {
				count++
			} else {
				long++
			}
		}
	}
	if count < 1500 || long < 100 {
		t.Errorf("only %d scripts get a further line, and only %d become too long", count, long)
	}
}

func TestPromise183NetChangesNoPeer(t *testing.T) {
	count, listed := 0, 0
	for _, script := range scriptsMade() {
		if len(script)+4 > impl.MaxScript {
			continue
		}
		printed, peers := printedAndPeers(t, impl.Execute(script))
		printedNext, peersNext := printedAndPeers(t, impl.Execute(script+"net\n"))
		if !slices.Equal(peers, peersNext) || len(printedNext) < len(printed) || !slices.Equal(printed, printedNext[:len(printed)]) {
			t.Fatalf("after %q, net leads to %q and %q", script, printedNext, peersNext)
		}
		count++
		listed += len(printedNext) - len(printed)
	}
	if count < 400 || listed < 200 {
		t.Errorf("only %d scripts get a further line, and only %d blocks are in transit", count, listed)
	}
}

// unendedLines may stand behind the last newline.
var unendedLines = []string{"x", " ", "net", "calm", "grow a", "link 0 1", "unlink 0 1", "lose 0", "deliver 0", "\x00", "\xff", strings.Repeat("x", 40)}

func TestPromise184UpToTheLastNewline(t *testing.T) {
	count := 0
	for number, script := range scriptsMade() {
		want := impl.Execute(script)
		for place, line := range unendedLines {
			if len(script)+len(line) > impl.MaxScript || number >= 30 && (number+place)%4 > 0 {
				continue
			}
			if got := impl.Execute(script + line); got != want {
				t.Fatalf("Execute of %q is\n%q, not\n%q", script+line, got, want)
			}
			count++
		}
	}
	if count < 1500 {
		t.Errorf("only %d scripts have something behind the last newline", count)
	}
}

// A script is cut at each place.
func TestPromise184EachPart(t *testing.T) {
	for _, script := range scriptsMade()[:20] {
		for end := range len(script) + 1 {
			part := script[:end]
			if got, want := impl.Execute(part), impl.Execute(part[:strings.LastIndex(part, "\n")+1]); got != want {
				t.Fatalf("Execute of %q is\n%q, not\n%q", part, got, want)
			}
		}
	}
}

func TestPromise185OneBlock(t *testing.T) {
	checkExecute(t, scriptOf("grow a", "link 0 1", "head 0 1", "ask 1 0 0", "answer 1 0 0", "deliver 0"), "peer 0 #", "peer 1 #", "peer 2 ", "peer 3 ")
	for peer := 1; peer < 4; peer++ {
		for _, text := range []string{"a", "", "12345678", "\xff", "\x00"} {
			want := []string{"peer 0 #", "peer 1 ", "peer 2 ", "peer 3 "}
			want[peer] += "#"
			checkExecute(t, scriptOf("grow "+text, fmt.Sprintf("link 0 %d", peer), fmt.Sprintf("head 0 %d", peer), fmt.Sprintf("ask %d 0 0", peer), fmt.Sprintf("answer %d 0 0", peer), "deliver 0"), want...)
		}
	}
}

func TestPromise186TheBadPeer(t *testing.T) {
	lines := []string{"grow a", "link 0 3", "link 3 1", "calm", "head 3 1", "ask 1 3 0", "answer 1 3 0 bad", "net", "deliver 0"}
	checkExecute(t, scriptOf(lines...), "0 3 1 0 bad", "peer 0 #", "peer 1 .", "peer 2 ", "peer 3 #")
	for _, text := range []string{"b", "", "A", "aa", "\xff", "12345678"} {
		lines[6] = "answer 1 3 0 " + text
		checkExecute(t, scriptOf(lines...), "0 3 1 0 "+text, "peer 0 #", "peer 1 .", "peer 2 ", "peer 3 #")
	}
	// The right text is stored, and so is another one with the same digest, which has been computed outside of the program.
	for _, text := range []string{"a", "fe"} {
		lines[6] = "answer 1 3 0 " + text
		checkExecute(t, scriptOf(lines...), "0 3 1 0 "+text, "peer 0 #", "peer 1 #", "peer 2 ", "peer 3 #")
	}
}

func TestPromise187Calm(t *testing.T) {
	checkExecute(t, scriptOf("grow a", "grow b", "link 0 1", "link 1 2", "calm"), "peer 0 ##", "peer 1 ##", "peer 2 ##", "peer 3 ")
	// Behind the bad peer, nobody gets anything.
	checkExecute(t, scriptOf("grow a", "grow b", "link 0 3", "link 3 2", "calm"), "peer 0 ##", "peer 1 ", "peer 2 ", "peer 3 ##")
	checkExecute(t, scriptOf("grow a", "grow b", "link 2 3", "link 1 2", "link 1 0", "calm"), "peer 0 ##", "peer 1 ##", "peer 2 ##", "peer 3 ##")
	checkExecute(t, scriptOf("grow a", "grow b", "link 1 2", "link 2 3", "link 1 3", "calm"), "peer 0 ##", "peer 1 ", "peer 2 ", "peer 3 ")
}

func TestPromise188Texts(t *testing.T) {
	checkExecute(t, scriptOf("grow a", "grow", "grow toolongtext"), "peer 0 ##", "peer 1 ", "peer 2 ", "peer 3 ")
	checkExecute(t, scriptOf("grow toolongtext"), "peer 0 ", "peer 1 ", "peer 2 ", "peer 3 ")
	// The empty text is that of the block.
	checkExecute(t, scriptOf("grow a", "grow", "grow toolongtext", "link 0 1", "head 0 1", "ask 1 0 1", "answer 1 0 1", "net"), "0 0 1 1 ", "peer 0 ##", "peer 1 ..", "peer 2 ", "peer 3 ")
}

func TestPromise189Unlink(t *testing.T) {
	checkExecute(t, scriptOf("grow a", "link 0 1", "unlink 1 0", "calm"), "peer 0 #", "peer 1 ", "peer 2 ", "peer 3 ")
	checkExecute(t, scriptOf("grow a", "link 0 1", "unlink 0 1", "calm"), "peer 0 #", "peer 1 ", "peer 2 ", "peer 3 ")
	checkExecute(t, scriptOf("grow a", "link 1 0", "unlink 0 1", "calm"), "peer 0 #", "peer 1 ", "peer 2 ", "peer 3 ")
	// Other connections stay.
	checkExecute(t, scriptOf("grow a", "link 0 1", "link 2 0", "unlink 0 1", "calm"), "peer 0 #", "peer 1 ", "peer 2 #", "peer 3 ")
}
