package tests

import (
	"math"
	"runtime"
	"slices"
	"sync"
	"testing"
	"testing/synctest"

	"loop.example/feedswarm/impl"
)

// roomyJournal returns a journal whose records lie within larger memory, and a function that reports whether all of it is unchanged.
func roomyJournal(j impl.Journal) (impl.Journal, func() bool) {
	around := impl.Record{Index: 3, Text: "around"}
	whole := slices.Concat([]impl.Record{around}, j.Records, slices.Repeat([]impl.Record{around}, 30))
	before := slices.Clone(whole)
	j.Records = whole[1 : 1+len(j.Records)]
	return j, func() bool { return slices.Equal(whole, before) }
}

// journalCall is a call of a function that returns a journal.
type journalCall struct {
	name string
	call func(j impl.Journal) impl.Journal
}

// journalCalls returns calls that succeed, and such that fail for each reason, as far as the journal permits.
func journalCalls() []journalCall {
	calls := []journalCall{{"JournalSync", impl.JournalSync}}
	for _, r := range []impl.Record{{}, {Index: 3, Text: "added"}, {Index: impl.MaxBlocks - 1, Text: longestText}, {Index: -1}, {Text: tooLongTexts[0]}} {
		calls = append(calls, journalCall{"JournalAdd", func(j impl.Journal) impl.Journal {
			got, _ := impl.JournalAdd(j, r)
			return got
		}})
	}
	for _, keep := range []int{-1, 0, 1, 2, 7, impl.MaxRecords, math.MaxInt} {
		calls = append(calls, journalCall{"JournalCrash", func(j impl.Journal) impl.Journal { return impl.JournalCrash(j, keep) }})
	}
	return calls
}

// memoryJournals returns valid journals, full ones among them, and invalid ones.
func memoryJournals() []impl.Journal {
	journals := append(someJournals(), fullJournals()...)
	for place, j := range someJournals() {
		broken := withRecord(j, invalidRecords()[place%len(invalidRecords())])
		journals = append(journals, broken, impl.Journal{Records: j.Records, Synced: len(j.Records) + 1}, impl.Journal{Records: j.Records, Synced: -1})
	}
	return append(journals, impl.Journal{Records: make([]impl.Record, impl.MaxRecords+1)})
}

// What lies around the records is neither read nor changed, and neither are the records changed.
func TestJournalsKeepTheirArguments(t *testing.T) {
	for _, plain := range memoryJournals() {
		j, unchanged := roomyJournal(plain)
		for _, c := range journalCalls() {
			if got, want := c.call(j), c.call(cloneJournal(plain)); !equalJournals(got, want) {
				t.Fatalf("%s of %#v is %#v or %#v", c.name, plain, got, want)
			}
		}
		if impl.JournalValid(j) != plainJournalValid(plain) {
			t.Fatalf("%#v is judged in two ways", plain)
		}
		for length := -1; length <= impl.MaxBlocks+1; length++ {
			texts, have := plainJournalBlocks(plain, length)
			checkBlocks(t, j, length, texts, have)
		}
		if !unchanged() {
			t.Fatalf("the journal %#v is changed", plain)
		}
	}
}

// Whatever is written into a result, up to its capacity, must be seen neither in the arguments nor in other results.
func TestJournalResultsShareNoMemory(t *testing.T) {
	for _, plain := range memoryJournals() {
		j, unchanged := roomyJournal(plain)
		for _, c := range journalCalls() {
			checkOwnMemory(t, c.name, func() []impl.Record { return c.call(j).Records }, impl.Record{Index: -9, Text: "spoilt"})
		}
		for length := -1; length <= impl.MaxBlocks+1; length++ {
			checkOwnMemory(t, "JournalBlocks", func() []string {
				texts, _ := impl.JournalBlocks(j, length)
				return texts
			}, "spoilt")
			for _, mark := range []bool{false, true} {
				checkOwnMemory(t, "JournalBlocks", func() []bool {
					_, have := impl.JournalBlocks(j, length)
					return have
				}, mark)
			}
		}
		if !unchanged() {
			t.Fatalf("a result shares memory with the journal %#v", plain)
		}
	}
}

// The results of a first step are the arguments of a second one: two records are added to one journal, which they must not share.
func TestJournalsOfTwoBranchesShareNoMemory(t *testing.T) {
	for _, plain := range someJournals() {
		for _, c := range journalCalls() {
			trunk := c.call(plain)
			before := cloneJournal(trunk)
			first, firstOk := impl.JournalAdd(trunk, impl.Record{Index: 1, Text: "first"})
			wantFirst, wantFirstOk := plainAdd(before, impl.Record{Index: 1, Text: "first"})
			second, secondOk := impl.JournalAdd(trunk, impl.Record{Index: 2, Text: "second"})
			wantSecond, wantSecondOk := plainAdd(before, impl.Record{Index: 2, Text: "second"})
			synced := impl.JournalSync(trunk)
			if firstOk != wantFirstOk || secondOk != wantSecondOk || !equalJournals(first, wantFirst) || !equalJournals(second, wantSecond) {
				t.Fatalf("%#v branches into %#v and %#v", before, first, second)
			}
			if !equalJournals(trunk, before) || !equalJournals(synced, plainSync(before)) {
				t.Fatalf("%#v becomes %#v while it branches", before, trunk)
			}
		}
	}
}

// journalAnswers are the results of all calls for a journal.
type journalAnswers struct {
	journals []impl.Journal
	texts    [][]string
	have     [][]bool
}

// answersOf returns the results of all calls for a journal.
func answersOf(j impl.Journal) journalAnswers {
	answers := journalAnswers{}
	for _, c := range journalCalls() {
		answers.journals = append(answers.journals, c.call(j))
	}
	for length := -1; length <= impl.MaxBlocks+1; length++ {
		texts, have := impl.JournalBlocks(j, length)
		answers.texts, answers.have = append(answers.texts, texts), append(answers.have, have)
	}
	return answers
}

// clone returns a copy of results that shares no memory with them.
func (a journalAnswers) clone() journalAnswers {
	answers := journalAnswers{}
	for _, j := range a.journals {
		answers.journals = append(answers.journals, cloneJournal(j))
	}
	for place := range a.texts {
		answers.texts = append(answers.texts, slices.Clone(a.texts[place]))
		answers.have = append(answers.have, slices.Clone(a.have[place]))
	}
	return answers
}

// equal reports whether results are equal.
func (a journalAnswers) equal(b journalAnswers) bool {
	return slices.EqualFunc(a.journals, b.journals, equalJournals) && slices.EqualFunc(a.texts, b.texts, slices.Equal[[]string]) && slices.EqualFunc(a.have, b.have, slices.Equal[[]bool])
}

// A later change of the records must not be seen in a result.
func TestJournalResultsKeepNoArguments(t *testing.T) {
	for _, plain := range memoryJournals() {
		j := cloneJournal(plain)
		got := answersOf(j)
		want := got.clone()
		clear(j.Records)
		if !got.equal(want) {
			t.Fatalf("the results of %#v change with it", plain)
		}
	}
}

// All goroutines that a call starts must have ended with it: none may wait for ever, or read the records or write a result later.
// The test of a bubble fails if a goroutine of it still waits when the test ends.
func TestJournalGoroutinesAreJoined(t *testing.T) {
	for _, plain := range memoryJournals() {
		synctest.Test(t, func(t *testing.T) {
			j := cloneJournal(plain)
			got := answersOf(j)
			want := got.clone()
			clear(j.Records)
			synctest.Wait()
			if !got.equal(want) || !got.equal(answersOf(plain)) {
				t.Fatalf("the results of %#v change after the calls", plain)
			}
		})
	}
}

// The result depends neither on the number of processors nor on what else is called at the same time, with the same records.
func TestJournalResultsDoNotDependOnScheduling(t *testing.T) {
	defer runtime.GOMAXPROCS(runtime.GOMAXPROCS(0))
	for _, processors := range []int{1, 2, 8} {
		runtime.GOMAXPROCS(processors)
		for place, plain := range memoryJournals() {
			if place%5 != 0 {
				continue
			}
			j, unchanged := roomyJournal(plain)
			want := answersOf(cloneJournal(plain))
			results := make([]journalAnswers, 8)
			var calls sync.WaitGroup
			for worker := range results {
				calls.Go(func() { results[worker] = answersOf(j) })
			}
			calls.Wait()
			for _, got := range results {
				if !got.equal(want) {
					t.Fatalf("the results of %#v are %#v or %#v", plain, got, want)
				}
			}
			if !unchanged() {
				t.Fatalf("the journal %#v is changed", plain)
			}
		}
	}
}
