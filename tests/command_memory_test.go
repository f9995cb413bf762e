package tests

import (
	"slices"
	"strings"
	"sync"
	"testing"
	"unsafe"

	"loop.example/feedswarm/impl"
)

// memoryScripts returns scripts of all kinds, among them such as are too long, have malformed lines, or have something behind the last newline.
func memoryScripts() []string {
	scripts := slices.Clone(scriptsMade()[:150])
	for _, line := range notCommands {
		scripts = append(scripts, line, line+"\n", "grow a\n"+line+"\ngrow b\n"+line)
	}
	for _, c := range commandCases {
		scripts = append(scripts, c.script(strings.Join(c.words, " ")))
	}
	return append(scripts, strings.Repeat("x", 601), strings.Repeat("\n", 601), strings.Repeat("grow a\n", 90), strings.Repeat("calm\n", 120))
}

// No state is kept between calls: the answers are the same after those for other scripts, in any order.
func TestOutputsAreTheSameLater(t *testing.T) {
	scripts := memoryScripts()
	outputs := []string{}
	for _, script := range scripts {
		output := impl.Execute(script)
		if again := impl.Execute(strings.Clone(script)); again != output {
			t.Fatalf("Execute of %q is %q, and then %q", script, output, again)
		}
		outputs = append(outputs, output)
	}
	for number, script := range slices.Backward(scripts) {
		if got := impl.Execute(script); got != outputs[number] {
			t.Fatalf("Execute of %q is %q, and %q later", script, outputs[number], got)
		}
	}
}

// Calls at the same time, of the same script and of different ones, give the same outputs.
func TestOutputsAtTheSameTime(t *testing.T) {
	scripts := memoryScripts()
	for part := range slices.Chunk(scripts, 10) {
		var players sync.WaitGroup
		results := make([]string, 3*len(part))
		for place := range results {
			players.Add(1)
			go func() {
				defer players.Done()
				results[place] = impl.Execute(part[place%len(part)])
			}()
		}
		players.Wait()
		for place, got := range results {
			if want := impl.Execute(part[place%len(part)]); got != want {
				t.Fatalf("Execute of %q is %q, and %q at the same time as others", part[place%len(part)], want, got)
			}
		}
	}
}

// What lies around a script is not read.
func TestScriptsWithinLargerMemory(t *testing.T) {
	for _, script := range memoryScripts() {
		want := impl.Execute(script)
		for _, around := range []string{"\n", "x", " ", "0", "grow c\n", "\nnet\n"} {
			whole := around + script + around
			if got := impl.Execute(whole[len(around) : len(around)+len(script)]); got != want {
				t.Fatalf("Execute of %q is %q, and %q between %q", script, want, got, around)
			}
		}
	}
}

// The memory of a script is neither changed nor used by the output: it is that of bytes, which are overwritten afterwards.
func TestOutputSharesNoMemoryWithTheScript(t *testing.T) {
	for _, script := range memoryScripts() {
		if script == "" {
			continue
		}
		want, bytes := strings.Clone(impl.Execute(script)), []byte(script)
		got := impl.Execute(unsafe.String(&bytes[0], len(bytes)))
		if string(bytes) != script {
			t.Fatalf("Execute changes %q to %q", script, bytes)
		}
		for place := range bytes {
			bytes[place] = '?'
		}
		if got != want {
			t.Fatalf("the output of %q becomes %q", script, got)
		}
	}
}
