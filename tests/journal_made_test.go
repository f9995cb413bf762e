package tests

import (
	"math"
	"math/rand"
	"slices"
	"strings"
	"testing"

	"loop.example/feedswarm/impl"
)

// longestText is a valid text that cannot get longer. Its bytes are no UTF-8.
var longestText = strings.Repeat("\xff", impl.MaxText)

// recordText returns a text of a number, neighbours of which differ. 9 of them have all lengths from 0 to MaxText.
func recordText(number int) string {
	return strings.Repeat(string([]byte{byte('a' + number%26)}), (5*number+1)%(impl.MaxText+1))
}

// recordMakers return the record at a place of a list.
func recordMakers(random *rand.Rand) []func(place int) impl.Record {
	texts := []string{"", "a", "b", longestText, "\x00", "ab\nc d"}
	return []func(place int) impl.Record{
		// As many indexes as there are, ascending or descending.
		func(place int) impl.Record {
			return impl.Record{Index: place % impl.MaxBlocks, Text: recordText(place)}
		},
		func(place int) impl.Record {
			return impl.Record{Index: impl.MaxBlocks - 1 - place%impl.MaxBlocks, Text: recordText(place)}
		},
		// One index with different texts.
		func(place int) impl.Record { return impl.Record{Index: 0, Text: recordText(place)} },
		func(place int) impl.Record { return impl.Record{Index: impl.MaxBlocks - 1, Text: recordText(place)} },
		// One index with equal texts.
		func(place int) impl.Record { return impl.Record{Index: 7} },
		func(place int) impl.Record { return impl.Record{Index: 8, Text: longestText} },
		// A few indexes by turns, with different texts and with equal ones.
		func(place int) impl.Record {
			return impl.Record{Index: place % 2 * (impl.MaxBlocks - 1), Text: recordText(place)}
		},
		func(place int) impl.Record { return impl.Record{Index: place % 3, Text: texts[place/3%2]} },
		func(place int) impl.Record {
			return impl.Record{Index: random.Intn(impl.MaxBlocks), Text: texts[random.Intn(len(texts))]}
		},
		func(place int) impl.Record {
			return impl.Record{Index: random.Intn(4), Text: recordText(random.Intn(100))}
		},
	}
}

// recordLists returns lists of valid records, of every number that a journal may have.
func recordLists() [][]impl.Record {
	lists := [][]impl.Record{}
	makers := recordMakers(rand.New(rand.NewSource(25)))
	for n := range impl.MaxRecords + 1 {
		for _, maker := range makers {
			list := []impl.Record{}
			for place := range n {
				list = append(list, maker(place))
			}
			lists = append(lists, list)
		}
	}
	return lists
}

// validJournals returns valid journals: each list of records with every number that survives.
func validJournals() []impl.Journal {
	journals := []impl.Journal{}
	for _, list := range recordLists() {
		for synced := range len(list) + 1 {
			journals = append(journals, impl.Journal{Records: list, Synced: synced})
		}
	}
	return journals
}

// someJournals returns some of the valid journals. They differ in the number of records, and in which of them survive.
func someJournals() []impl.Journal {
	journals := []impl.Journal{}
	for place, j := range validJournals() {
		if len(j.Records) < 2 || place%11 == 0 {
			journals = append(journals, j)
		}
	}
	return journals
}

// fullJournals returns the valid journals that have no room.
func fullJournals() []impl.Journal {
	return slices.DeleteFunc(validJournals(), func(j impl.Journal) bool { return len(j.Records) < impl.MaxRecords })
}

// furtherRecords returns valid records to be added to a journal: each index with several texts, and the records of the journal once more.
func furtherRecords(j impl.Journal) []impl.Record {
	records := slices.Clone(j.Records)
	for index := range impl.MaxBlocks {
		records = append(records, impl.Record{Index: index}, impl.Record{Index: index, Text: longestText}, impl.Record{Index: index, Text: recordText(index)})
	}
	return records
}

// keepNumbers returns how many further records may be kept: none, some, all of a journal, more than there are, and very many.
func keepNumbers() []int {
	numbers := []int{}
	for number := range impl.MaxRecords + 3 {
		numbers = append(numbers, number)
	}
	return append(numbers, 255, 256, math.MaxInt32, 1<<32, math.MaxInt-impl.MaxRecords, math.MaxInt-1, math.MaxInt)
}

// notIndexes are numbers that are no index of a block, near to the valid ones and far from them.
var notIndexes = []int{-1, -2, -impl.MaxBlocks, impl.MaxBlocks, impl.MaxBlocks + 1, 2 * impl.MaxBlocks, 256, 1 << 32, -1 << 32, math.MinInt, math.MaxInt}

// tooLongTexts are texts that no record may have. One of them has few characters, but too many bytes.
var tooLongTexts = []string{"toolongxx", strings.Repeat("\x00", impl.MaxText+1), "\u00e4\u00e4\u00e4\u00e4\u00e4", strings.Repeat("a", 256), strings.Repeat("a", 1<<16)}

// invalidRecords returns records with an invalid index, a text that is too long, or both.
func invalidRecords() []impl.Record {
	records := []impl.Record{}
	for _, index := range notIndexes {
		records = append(records, impl.Record{Index: index}, impl.Record{Index: index, Text: longestText}, impl.Record{Index: index, Text: tooLongTexts[0]})
	}
	for _, text := range tooLongTexts {
		records = append(records, impl.Record{Index: 0, Text: text}, impl.Record{Index: 7, Text: text}, impl.Record{Index: impl.MaxBlocks - 1, Text: text})
	}
	return records
}

// cloneJournal returns a copy of a journal that shares no memory with it.
func cloneJournal(j impl.Journal) impl.Journal {
	j.Records = append([]impl.Record{}, j.Records...)
	return j
}

// withRecord returns a copy of a journal with one record more.
func withRecord(j impl.Journal, r impl.Record) impl.Journal {
	j = cloneJournal(j)
	j.Records = append(j.Records, r)
	return j
}

// equalJournals reports whether two journals are equal, where nil and empty slices are.
func equalJournals(j impl.Journal, k impl.Journal) bool {
	return j.Synced == k.Synced && slices.Equal(j.Records, k.Records)
}

// checkAdd fails the test if JournalAdd does not return this journal and this result.
func checkAdd(t *testing.T, j impl.Journal, r impl.Record, want impl.Journal, wantOk bool) {
	t.Helper()
	if got, ok := impl.JournalAdd(j, r); ok != wantOk || !equalJournals(got, want) {
		t.Fatalf("JournalAdd of %#v and %#v is %#v, %#v, not %#v, %#v", j, r, got, ok, want, wantOk)
	}
}

// checkSync fails the test if JournalSync does not return this journal.
func checkSync(t *testing.T, j impl.Journal, want impl.Journal) {
	t.Helper()
	if got := impl.JournalSync(j); !equalJournals(got, want) {
		t.Fatalf("JournalSync of %#v is %#v, not %#v", j, got, want)
	}
}

// checkCrash fails the test if JournalCrash does not return this journal.
func checkCrash(t *testing.T, j impl.Journal, keep int, want impl.Journal) {
	t.Helper()
	if got := impl.JournalCrash(j, keep); !equalJournals(got, want) {
		t.Fatalf("JournalCrash of %#v and %d is %#v, not %#v", j, keep, got, want)
	}
}

// checkBlocks fails the test if JournalBlocks does not return these texts and bits.
func checkBlocks(t *testing.T, j impl.Journal, length int, want []string, wantHave []bool) {
	t.Helper()
	if got, have := impl.JournalBlocks(j, length); !slices.Equal(got, want) || !slices.Equal(have, wantHave) {
		t.Fatalf("JournalBlocks of %#v and %d is %#v, %#v, not %#v, %#v", j, length, got, have, want, wantHave)
	}
}

// mustAdd returns the journal after JournalAdd, which must succeed.
func mustAdd(t *testing.T, j impl.Journal, r impl.Record) impl.Journal {
	t.Helper()
	got, ok := impl.JournalAdd(j, r)
	if !ok {
		t.Fatalf("JournalAdd of %#v and %#v fails", j, r)
	}
	return got
}
