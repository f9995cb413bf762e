package tests

import (
	"fmt"
	"slices"
	"strconv"
	"strings"
	"testing"

	"loop.example/feedswarm/impl"
)

// commandCase is a command with lines before and behind it by which its effect is seen: what a script prints with the command, and what it prints without.
type commandCase struct {
	before []string
	words  []string
	behind []string
	done   []string
	not    []string
}

// script returns the script of a case with another line instead of the command.
func (c commandCase) script(line string) string {
	return scriptOf(slices.Concat(c.before, []string{line}, c.behind)...)
}

// line returns the command with another word at a place.
func (c commandCase) line(place int, word string) string {
	words := slices.Clone(c.words)
	words[place] = word
	return strings.Join(words, " ")
}

// numbers returns the numbers of the command, by their places.
func (c commandCase) numbers() map[int]int {
	numbers := map[int]int{}
	for place, word := range c.words {
		if n, err := strconv.Atoi(word); err == nil {
			numbers[place] = n
		}
	}
	return numbers
}

// lines returns all lines of scripts as one list.
func lines(parts ...[]string) []string {
	return slices.Concat(parts...)
}

// peersOf returns the lines of the peers at the end.
func peersOf(signs ...string) []string {
	list := []string{}
	for peer, s := range signs {
		list = append(list, fmt.Sprintf("peer %d %s", peer, s))
	}
	return list
}

// asked are lines after which peer 1 requests the block "a" of the writer, and asked twice those after which it requests "b", too.
var (
	asked      = []string{"grow a", "link 0 1", "head 0 1", "ask 1 0 0"}
	askedTwice = []string{"grow a", "grow b", "link 0 1", "head 0 1", "ask 1 0 0", "ask 1 0 1"}
	askedBad   = []string{"grow a", "grow b", "link 0 3", "calm", "link 3 1", "head 3 1", "ask 1 3 1"}
)

// pairCases are cases of the commands about two peers.
var pairCases = []commandCase{
	{[]string{"grow a"}, []string{"link", "0", "1"}, []string{"head 0 1"}, peersOf("#", ".", "", ""), peersOf("#", "", "", "")},
	{[]string{"grow a"}, []string{"link", "1", "0"}, []string{"head 0 1"}, peersOf("#", ".", "", ""), peersOf("#", "", "", "")},
	{[]string{"grow a"}, []string{"link", "3", "0"}, []string{"head 0 3"}, peersOf("#", "", "", "."), peersOf("#", "", "", "")},
	{[]string{"grow a", "link 0 1"}, []string{"unlink", "0", "1"}, []string{"head 0 1"}, peersOf("#", "", "", ""), peersOf("#", ".", "", "")},
	{[]string{"grow a", "link 0 1"}, []string{"unlink", "1", "0"}, []string{"head 0 1"}, peersOf("#", "", "", ""), peersOf("#", ".", "", "")},
	{[]string{"grow a", "link 0 3"}, []string{"unlink", "3", "0"}, []string{"head 0 3"}, peersOf("#", "", "", ""), peersOf("#", "", "", ".")},
	{[]string{"grow a", "link 0 1"}, []string{"head", "0", "1"}, nil, peersOf("#", ".", "", ""), peersOf("#", "", "", "")},
	{[]string{"grow a", "link 0 3", "link 2 3", "head 0 3"}, []string{"head", "3", "2"}, nil, peersOf("#", "", ".", "."), peersOf("#", "", "", ".")},
}

// requestCases are cases of the commands about requests and answers. Answers of honest peers need no text.
var requestCases = []commandCase{
	{asked[:3], []string{"ask", "1", "0", "0"}, []string{"answer 1 0 0", "net"}, lines([]string{"0 0 1 0 a"}, peersOf("#", ".", "", "")), peersOf("#", ".", "", "")},
	{askedTwice[:4], []string{"ask", "1", "0", "1"}, []string{"answer 1 0 0", "answer 1 0 1", "net"}, lines([]string{"0 0 1 1 b"}, peersOf("##", "..", "", "")), peersOf("##", "..", "", "")},
	{askedBad[:6], []string{"ask", "1", "3", "1"}, []string{"answer 1 3 0 x", "answer 1 3 1 y", "net"}, lines([]string{"0 3 1 1 y"}, peersOf("##", "..", "", "##")), peersOf("##", "..", "", "##")},
	{asked, []string{"answer", "1", "0", "0"}, []string{"net"}, lines([]string{"0 0 1 0 a"}, peersOf("#", ".", "", "")), peersOf("#", ".", "", "")},
	{askedTwice[:5], []string{"answer", "1", "0", "0"}, []string{"net"}, lines([]string{"0 0 1 0 a"}, peersOf("##", "..", "", "")), peersOf("##", "..", "", "")},
	{lines(askedTwice[:4], askedTwice[5:]), []string{"answer", "1", "0", "1"}, []string{"net"}, lines([]string{"0 0 1 1 b"}, peersOf("##", "..", "", "")), peersOf("##", "..", "", "")},
	{askedBad, []string{"answer", "1", "3", "1", "bad"}, []string{"net"}, lines([]string{"0 3 1 1 bad"}, peersOf("##", "..", "", "##")), peersOf("##", "..", "", "##")},
}

// inTransit are lines after which the blocks "a" and "b" are in transit to peer 1.
var inTransit = lines(askedTwice, []string{"answer 1 0 0", "answer 1 0 1"})

// netFull are lines after which as many blocks are in transit to peer 1 as there can be, the last one of them "b".
var netFull = lines(askedTwice, slices.Repeat([]string{"answer 1 0 0"}, 11), []string{"answer 1 0 1"})

// printedNet returns what net prints for so many blocks "a" in transit to peer 1.
func printedNet(many int) []string {
	list := []string{}
	for place := range many {
		list = append(list, fmt.Sprintf("%d 0 1 0 a", place))
	}
	return list
}

// placeCases are cases of the commands about a block in transit.
var placeCases = []commandCase{
	{inTransit, []string{"deliver", "0"}, []string{"net"}, lines([]string{"0 0 1 1 b"}, peersOf("##", "#.", "", "")), lines([]string{"0 0 1 0 a", "1 0 1 1 b"}, peersOf("##", "..", "", ""))},
	{inTransit, []string{"deliver", "1"}, []string{"net"}, lines([]string{"0 0 1 0 a"}, peersOf("##", ".#", "", "")), lines([]string{"0 0 1 0 a", "1 0 1 1 b"}, peersOf("##", "..", "", ""))},
	{netFull, []string{"deliver", "11"}, []string{"net"}, lines(printedNet(11), peersOf("##", ".#", "", "")), lines(printedNet(11), []string{"11 0 1 1 b"}, peersOf("##", "..", "", ""))},
	{inTransit, []string{"lose", "0"}, []string{"net"}, lines([]string{"0 0 1 1 b"}, peersOf("##", "..", "", "")), lines([]string{"0 0 1 0 a", "1 0 1 1 b"}, peersOf("##", "..", "", ""))},
	{inTransit, []string{"lose", "1"}, []string{"net"}, lines([]string{"0 0 1 0 a"}, peersOf("##", "..", "", "")), lines([]string{"0 0 1 0 a", "1 0 1 1 b"}, peersOf("##", "..", "", ""))},
	{netFull, []string{"lose", "11"}, []string{"net"}, lines(printedNet(11), peersOf("##", "..", "", "")), lines(printedNet(11), []string{"11 0 1 1 b"}, peersOf("##", "..", "", ""))},
}

// wordlessCases are cases of the commands that have no further words.
var wordlessCases = []commandCase{
	{inTransit, []string{"calm"}, []string{"net"}, peersOf("##", "##", "", ""), lines([]string{"0 0 1 0 a", "1 0 1 1 b"}, peersOf("##", "..", "", ""))},
	{inTransit, []string{"net"}, nil, lines([]string{"0 0 1 0 a", "1 0 1 1 b"}, peersOf("##", "..", "", "")), peersOf("##", "..", "", "")},
}

// growCases are cases of grow, whose text is not a number.
var growCases = []commandCase{
	{nil, []string{"grow", "a"}, nil, peersOf("#", "", "", ""), peersOf("", "", "", "")},
	{[]string{"grow b", "link 0 1", "calm"}, []string{"grow", "00"}, []string{"head 0 1", "ask 1 0 1", "answer 1 0 1", "net"}, lines([]string{"0 0 1 1 00"}, peersOf("##", "#.", "", "")), peersOf("#", "#", "", "")},
}

// numberCases are all cases in which further words are numbers.
var numberCases = slices.Concat(pairCases, requestCases, placeCases)

// commandCases are all cases.
var commandCases = slices.Concat(numberCases, wordlessCases, growCases)

func TestEachCommandHasItsEffect(t *testing.T) {
	seen := []string{}
	for _, c := range commandCases {
		checkExecute(t, c.script(strings.Join(c.words, " ")), c.done...)
		checkExecute(t, scriptOf(slices.Concat(c.before, c.behind)...), c.not...)
		seen = append(seen, c.words[0])
	}
	for _, name := range commandNames {
		if !slices.Contains(seen, name) {
			t.Errorf("there is no case of %q", name)
		}
	}
}

func TestNumbersWithLeadingZeros(t *testing.T) {
	count := 0
	for _, c := range numberCases {
		for place, n := range c.numbers() {
			for _, word := range numberWords(n) {
				checkExecute(t, c.script(c.line(place, word)), c.done...)
				count++
			}
		}
		all := slices.Clone(c.words)
		for place, n := range c.numbers() {
			all[place] = fmt.Sprintf("%02d", n)
		}
		checkExecute(t, c.script(strings.Join(all, " ")), c.done...)
	}
	if count < 60 {
		t.Errorf("only %d numbers were tried", count)
	}
}

// Each block is requested, sent and stored by its number, and each block in transit is delivered and lost by its place, with and without a leading zero.
func TestEachNumberOfABlock(t *testing.T) {
	grown, signs := "", strings.Repeat("#", impl.MaxBlocks)
	for n := range impl.MaxBlocks {
		grown += fmt.Sprintf("grow %c\n", 'a'+n)
	}
	for n := range impl.MaxBlocks {
		for _, word := range numberWords(n) {
			script := grown + scriptOf("link 0 1", "head 0 1", "ask 1 0 "+word, "answer 1 0 "+word, "net", "deliver 0")
			stored := strings.Repeat(".", n) + "#" + strings.Repeat(".", impl.MaxBlocks-1-n)
			checkExecute(t, script, lines([]string{fmt.Sprintf("0 0 1 %d %c", n, 'a'+n)}, peersOf(signs, stored, "", ""))...)
		}
	}
}

func TestEachNumberOfAPlace(t *testing.T) {
	for n := range impl.MaxNet {
		sent := slices.Repeat([]string{"answer 1 0 0"}, impl.MaxNet)
		sent[n] = "answer 1 0 1"
		for _, word := range numberWords(n) {
			before := lines(askedTwice, sent)
			checkExecute(t, scriptOf(append(before, "lose "+word, "net")...), lines(printedNet(impl.MaxNet-1), peersOf("##", "..", "", ""))...)
			checkExecute(t, scriptOf(append(before, "deliver "+word, "net")...), lines(printedNet(impl.MaxNet-1), peersOf("##", ".#", "", ""))...)
		}
	}
}

func TestWordsThatAreNotNumbers(t *testing.T) {
	for _, c := range numberCases {
		for place, n := range c.numbers() {
			for _, word := range notNumbers(n) {
				checkExecute(t, c.script(c.line(place, word)), c.not...)
			}
		}
	}
}

// There is nothing with a number that is too large, and nothing with -1, as which words count that are not numbers.
func TestNumbersOfNothing(t *testing.T) {
	for _, c := range numberCases {
		for place := range c.numbers() {
			for _, n := range absent {
				checkExecute(t, c.script(c.line(place, strconv.Itoa(n))), c.not...)
			}
			checkExecute(t, c.script(c.line(place, "-1")), c.not...)
		}
		all := []string{c.words[0]}
		for range c.numbers() {
			all = append(all, "-1")
		}
		checkExecute(t, c.script(strings.Join(all, " ")), c.not...)
	}
	for _, c := range slices.Concat(pairCases, requestCases) {
		for _, word := range []string{"4", "5", "6", "04", "10", "99"} {
			checkExecute(t, c.script(c.line(1, word)), c.not...)
			checkExecute(t, c.script(c.line(2, word)), c.not...)
		}
	}
	for _, c := range requestCases {
		for _, word := range []string{"2", "3", "02", "15", "16", "99"} {
			checkExecute(t, c.script(c.line(3, word)), c.not...)
		}
	}
	for _, c := range placeCases {
		for _, word := range []string{"12", "13", "99"} {
			checkExecute(t, c.script(c.line(1, word)), c.not...)
		}
	}
}

// A word of one byte or two is a number only if all of its bytes are digits.
func TestAllShortWords(t *testing.T) {
	c := pairCases[0]
	for first := range 256 {
		one := string([]byte{byte(first)})
		switch one {
		case "1":
			checkExecute(t, c.script("link 0 "+one), c.done...)
		case "2", "3", "\n":
			// Other peers are connected, or the line ends behind the newline and another one is malformed.
		default:
			checkExecute(t, c.script("link 0 "+one), c.not...)
		}
		for _, second := range "0123456789a +\x00\x7f\u00b9\u0661" {
			for _, word := range []string{one + string(second), string(second) + one} {
				switch {
				case strings.Contains(word, "\n") || word[0] == '1' && word[1] == ' ':
				case word == "01":
					checkExecute(t, c.script("link 0 "+word), c.done...)
				default:
					checkExecute(t, c.script("link 0 "+word), c.not...)
				}
			}
		}
	}
}

func TestMissingWords(t *testing.T) {
	for _, c := range numberCases {
		for many := 1; many < len(c.words); many++ {
			if c.words[0] == "answer" && many == 4 {
				continue
			}
			// The missing words are empty, so a blank at the end makes no difference.
			line := strings.Join(c.words[:many], " ")
			checkExecute(t, c.script(line), c.not...)
			checkExecute(t, c.script(line+" "), c.not...)
			checkExecute(t, c.script(line+"    "), c.not...)
		}
	}
}

func TestAdditionalWords(t *testing.T) {
	for _, c := range commandCases {
		line := strings.Join(c.words, " ")
		if c.words[0] == "answer" && len(c.words) == 4 {
			line += " ignored"
		}
		for _, more := range []string{" ", "  ", "     ", " 0", " 1", " 1 2 3", " x", "  x", " \x00", " grow b", " what", " " + line, " \t", " -1", strings.Repeat(" 1", 40)} {
			checkExecute(t, c.script(line+more), c.done...)
		}
	}
}

// A second blank between words makes an empty word, and all words behind it stand at the next place.
func TestTwoBlanks(t *testing.T) {
	for _, c := range numberCases {
		for place := 1; place < len(c.words); place++ {
			if c.words[0] == "answer" && place == 4 {
				continue
			}
			checkExecute(t, c.script(c.line(place, " "+c.words[place])), c.not...)
			checkExecute(t, c.script(c.line(place, "   "+c.words[place])), c.not...)
		}
	}
	for _, c := range wordlessCases {
		checkExecute(t, c.script(c.words[0]+"  0"), c.done...)
	}
	// The text is empty.
	show := []string{"link 0 1", "head 0 1", "ask 1 0 0", "answer 1 0 0", "net"}
	for _, line := range []string{"grow  a", "grow   a", "grow ", "grow  ", "grow", "grow  toolongtext"} {
		checkExecute(t, scriptOf(lines([]string{line}, show)...), lines([]string{"0 0 1 0 "}, peersOf("#", ".", "", ""))...)
	}
	for _, line := range []string{"answer 1 3 1  bad", "answer 1 3 1   bad", "answer 1 3 1 ", "answer 1 3 1", "answer 1 3 1  toolongtext"} {
		checkExecute(t, scriptOf(lines(askedBad, []string{line, "net"})...), lines([]string{"0 3 1 1 "}, peersOf("##", "..", "", "##"))...)
	}
}

// A first word that is like a command is none.
func TestWordsLikeCommands(t *testing.T) {
	for _, c := range commandCases {
		name := c.words[0]
		likes := []string{" " + name, "  " + name, "\t" + name, name + "s", name + "\t", name + "\r", name + "\x00", name + "\xff", name + ":", name + name, name + "0",
			name[1:], name[:len(name)-1], name[:1], strings.ToUpper(name), strings.ToUpper(name[:1]) + name[1:], "", "\"" + name + "\"", name + "\u00a0", "un" + name + "s"}
		for _, like := range likes {
			for _, line := range []string{c.line(0, like), like} {
				checkExecute(t, c.script(line), lines([]string{"what"}, c.not)...)
			}
		}
	}
	for _, line := range notCommands {
		checkExecute(t, scriptOf(line), lines([]string{"what"}, peersOf("", "", "", ""))...)
		checkExecute(t, scriptOf("grow a", line, "grow b"), lines([]string{"what"}, peersOf("##", "", "", ""))...)
	}
}

// Only blanks separate words, and only newlines end lines.
func TestSeparators(t *testing.T) {
	for b := range 256 {
		sign := string([]byte{byte(b)})
		switch sign {
		case " ":
			checkExecute(t, "grow"+sign+"a\n", peersOf("#", "", "", "")...)
			checkExecute(t, "grow a"+sign+"grow b\n", peersOf("#", "", "", "")...)
			checkExecute(t, sign+"\n", lines([]string{"what"}, peersOf("", "", "", ""))...)
		case "\n":
			checkExecute(t, "grow"+sign+"a\n", lines([]string{"what"}, peersOf("#", "", "", ""))...)
			checkExecute(t, "grow a"+sign+"grow b\n", peersOf("##", "", "", "")...)
			checkExecute(t, sign+"\n", lines([]string{"what", "what"}, peersOf("", "", "", ""))...)
		default:
			checkExecute(t, "grow"+sign+"a\n", lines([]string{"what"}, peersOf("", "", "", ""))...)
			// One text of too many bytes, or one of as many as there can be.
			checkExecute(t, "grow abcd"+sign+"efgh\n", peersOf("", "", "", "")...)
			checkExecute(t, "grow abcd"+sign+"efg\n", peersOf("#", "", "", "")...)
			checkExecute(t, sign+"\n", lines([]string{"what"}, peersOf("", "", "", ""))...)
			checkExecute(t, "grow a\n"+sign, peersOf("#", "", "", "")...)
		}
	}
}

// Each text is kept as it is, whatever its bytes are.
func TestTextsOfAnyBytes(t *testing.T) {
	show := []string{"link 0 1", "head 0 1", "ask 1 0 0", "answer 1 0 0 other", "net", "deliver 0", "link 1 2", "head 1 2", "ask 2 1 0", "answer 2 1 0", "net"}
	for b := range 256 {
		sign := string([]byte{byte(b)})
		for _, text := range []string{sign, "x" + sign, sign + "\xc3", strings.Repeat(sign, impl.MaxText)} {
			if sign == " " || sign == "\n" {
				continue
			}
			checkExecute(t, scriptOf(lines([]string{"grow " + text}, show)...), lines([]string{"0 0 1 0 " + text, "0 1 2 0 " + text}, peersOf("#", "#", ".", ""))...)
			checkExecute(t, scriptOf(lines(askedBad, []string{"answer 1 3 1 " + text, "net"})...), lines([]string{"0 3 1 1 " + text}, peersOf("##", "..", "", "##"))...)
		}
	}
}
