package tests

import (
	"math"
	"math/rand"
	"slices"
	"testing"

	"loop.example/feedswarm/impl"
)

// plainRecordValid judges a record by the document's rule.
func plainRecordValid(r impl.Record) bool {
	return r.Index >= 0 && r.Index <= 15 && len(r.Text) <= 8
}

// plainJournalValid judges a journal by the document's rule.
func plainJournalValid(j impl.Journal) bool {
	for _, r := range j.Records {
		if !plainRecordValid(r) {
			return false
		}
	}
	return len(j.Records) <= 20 && j.Synced >= 0 && j.Synced <= len(j.Records)
}

// plainAdd adds a record by the document's rule.
func plainAdd(j impl.Journal, r impl.Record) (impl.Journal, bool) {
	if !plainJournalValid(j) || !plainRecordValid(r) {
		return impl.Journal{}, false
	}
	if len(j.Records) == 20 {
		return j, false
	}
	return withRecord(j, r), true
}

// plainSync makes all records survive by the document's rule.
func plainSync(j impl.Journal) impl.Journal {
	if !plainJournalValid(j) {
		return impl.Journal{}
	}
	return impl.Journal{Records: j.Records, Synced: len(j.Records)}
}

// plainCrash keeps records by the document's rule, one by one.
func plainCrash(j impl.Journal, keep int) impl.Journal {
	if !plainJournalValid(j) || keep < 0 {
		return impl.Journal{}
	}
	kept := impl.Journal{}
	for place, r := range j.Records {
		if place < j.Synced || place-j.Synced < keep {
			kept.Records = append(kept.Records, r)
			kept.Synced++
		}
	}
	return kept
}

// plainBlocks returns the blocks by the document's rule: the last record of each index is searched for from the end. The length is valid.
func plainBlocks(records []impl.Record, length int) ([]string, []bool) {
	texts, have := []string{}, []bool{}
	for index := range length {
		text, found := "", false
		for place := len(records) - 1; place >= 0 && !found; place-- {
			if records[place].Index == index {
				text, found = records[place].Text, true
			}
		}
		texts, have = append(texts, text), append(have, found)
	}
	return texts, have
}

// plainJournalBlocks returns the blocks by the document's rule, also of invalid arguments.
func plainJournalBlocks(j impl.Journal, length int) ([]string, []bool) {
	if !plainJournalValid(j) || length < 0 || length > 16 {
		return nil, nil
	}
	return plainBlocks(j.Records, length)
}

// checkJournalRules fails the test if a function does not follow the document's rules for these arguments.
func checkJournalRules(t *testing.T, j impl.Journal, r impl.Record, number int) {
	t.Helper()
	if got := impl.JournalValid(j); got != plainJournalValid(j) {
		t.Fatalf("JournalValid of %#v is %#v", j, got)
	}
	added, ok := plainAdd(j, r)
	checkAdd(t, j, r, added, ok)
	checkSync(t, j, plainSync(j))
	checkCrash(t, j, number, plainCrash(j, number))
	texts, have := plainJournalBlocks(j, number)
	checkBlocks(t, j, number, texts, have)
}

// checkJournalRefused fails the test if a function accepts an invalid journal, whatever the other arguments are.
func checkJournalRefused(t *testing.T, j impl.Journal) {
	t.Helper()
	if impl.JournalValid(j) {
		t.Fatalf("%#v is valid", j)
	}
	for _, r := range []impl.Record{{}, {Index: 15, Text: longestText}, {Index: -1}, {Text: tooLongTexts[0]}} {
		checkAdd(t, j, r, impl.Journal{}, false)
	}
	checkSync(t, j, impl.Journal{})
	for _, number := range []int{math.MinInt, -1, 0, 1, 5, impl.MaxBlocks, impl.MaxBlocks + 1, impl.MaxRecords, math.MaxInt} {
		checkCrash(t, j, number, impl.Journal{})
		checkBlocks(t, j, number, nil, nil)
	}
}

func TestJournalValidAcceptsValidJournals(t *testing.T) {
	for _, j := range validJournals() {
		if !impl.JournalValid(j) {
			t.Fatalf("%#v is not valid", j)
		}
	}
	for index := range impl.MaxBlocks {
		for length := range impl.MaxText + 1 {
			r := impl.Record{Index: index, Text: longestText[:length]}
			checkAdd(t, impl.Journal{}, r, impl.Journal{Records: []impl.Record{r}}, true)
			if !impl.JournalValid(impl.Journal{Records: []impl.Record{r}}) {
				t.Fatalf("%#v is not valid", r)
			}
		}
	}
}

func TestJournalResultsAreValid(t *testing.T) {
	for _, j := range validJournals() {
		results := []impl.Journal{impl.JournalSync(j)}
		for _, keep := range keepNumbers() {
			results = append(results, impl.JournalCrash(j, keep))
		}
		for _, r := range furtherRecords(j) {
			got, _ := impl.JournalAdd(j, r)
			results = append(results, got)
		}
		for _, got := range results {
			if !impl.JournalValid(got) {
				t.Fatalf("%#v becomes %#v, which is not valid", j, got)
			}
		}
	}
}

func TestJournalsWithAnInvalidNumberThatSurvives(t *testing.T) {
	for _, list := range recordLists() {
		n := len(list)
		for _, synced := range []int{-1, -2, -n - 1, n + 1, n + 2, 2*n + 1, impl.MaxRecords + 1, 256, 1 << 32, -1 << 32, math.MinInt, math.MaxInt} {
			checkJournalRefused(t, impl.Journal{Records: list, Synced: synced})
		}
	}
}

// The invalid record is tried at each place, among those that survive and behind them.
func TestJournalsWithAnInvalidRecord(t *testing.T) {
	for _, j := range someJournals() {
		for place := range j.Records {
			for _, r := range invalidRecords() {
				broken := cloneJournal(j)
				broken.Records[place] = r
				checkJournalRefused(t, broken)
			}
		}
	}
}

// All records are valid, but there are too many of them.
func TestJournalsWithTooManyRecords(t *testing.T) {
	for _, maker := range recordMakers(rand.New(rand.NewSource(26))) {
		list := []impl.Record{}
		for place := range 300 {
			list = append(list, maker(place))
		}
		if full := (impl.Journal{Records: list[:20], Synced: 20}); !impl.JournalValid(full) {
			t.Fatalf("%#v is not valid", full)
		}
		for _, n := range []int{21, 22, 32, 40, 41, 256, 257, 300} {
			for _, synced := range []int{0, 1, 19, 20, 21, n, n + 1, -1} {
				checkJournalRefused(t, impl.Journal{Records: list[:n], Synced: synced})
			}
		}
	}
	checkJournalRefused(t, impl.Journal{Records: make([]impl.Record, 1<<20), Synced: 5})
}

// Several conditions hold at once: each of them is enough.
func TestJournalsOfSeveralConditions(t *testing.T) {
	for _, r := range invalidRecords() {
		for _, n := range []int{1, impl.MaxRecords, impl.MaxRecords + 1} {
			for _, synced := range []int{-1, 0, n, n + 1} {
				records := slices.Repeat([]impl.Record{{Index: 3, Text: "a"}}, n)
				records[n-1] = r
				checkJournalRefused(t, impl.Journal{Records: records, Synced: synced})
				checkJournalRefused(t, impl.Journal{Records: slices.Repeat([]impl.Record{r}, n), Synced: synced})
			}
		}
	}
}

// An invalid record is answered by the zero value, also where there is no room for it.
func TestJournalAddOfInvalidRecords(t *testing.T) {
	for _, j := range append(someJournals(), fullJournals()...) {
		for _, r := range invalidRecords() {
			checkAdd(t, j, r, impl.Journal{}, false)
		}
	}
}

func TestJournalCrashOfNegativeNumbers(t *testing.T) {
	for _, j := range validJournals() {
		for _, keep := range []int{-1, -2, -j.Synced, -j.Synced - 1, -impl.MaxRecords - 1, -1 << 32, math.MinInt + 1, math.MinInt} {
			if keep < 0 {
				checkCrash(t, j, keep, impl.Journal{})
			}
		}
	}
}

func TestJournalBlocksOfInvalidLengths(t *testing.T) {
	for _, j := range validJournals() {
		for _, length := range []int{-1, -2, -impl.MaxBlocks, impl.MaxBlocks + 1, impl.MaxBlocks + 2, impl.MaxRecords, 256, 1 << 40, -1 << 32, math.MinInt, math.MaxInt} {
			checkBlocks(t, j, length, nil, nil)
		}
	}
}

func TestJournalsOfNilAndEmptyAreEqual(t *testing.T) {
	for _, records := range [][]impl.Record{nil, {}, make([]impl.Record, 0, 30)} {
		for _, synced := range []int{-1, 0, 1} {
			j := impl.Journal{Records: records, Synced: synced}
			for _, r := range []impl.Record{{}, {Index: 15, Text: "a"}, {Index: 16}} {
				for number := -1; number <= 21; number++ {
					checkJournalRules(t, j, r, number)
				}
			}
		}
	}
}

// mixedRecord returns a record that is valid in most cases, and near to a valid one otherwise.
func mixedRecord(random *rand.Rand, indexes int) impl.Record {
	r := impl.Record{Index: random.Intn(indexes), Text: recordText(random.Intn(100))}
	if random.Intn(150) == 0 {
		r.Index = notIndexes[random.Intn(len(notIndexes))]
	}
	if random.Intn(150) == 0 {
		r.Text = tooLongTexts[random.Intn(len(tooLongTexts))]
	}
	return r
}

func TestJournalsFollowTheirRules(t *testing.T) {
	random := rand.New(rand.NewSource(27))
	valid, rounds := 0, 60000
	for range rounds {
		j, indexes := impl.Journal{}, 1+random.Intn(impl.MaxBlocks)
		for range random.Intn(impl.MaxRecords + 2) {
			j.Records = append(j.Records, mixedRecord(random, indexes))
		}
		j.Synced = random.Intn(len(j.Records) + 1)
		if random.Intn(20) == 0 {
			j.Synced = random.Intn(50) - 15
		}
		checkJournalRules(t, j, mixedRecord(random, impl.MaxBlocks), random.Intn(impl.MaxRecords+4)-2)
		if plainJournalValid(j) {
			valid++
		}
	}
	if valid < rounds/2 || valid > rounds*9/10 {
		t.Errorf("%d of %d journals are valid", valid, rounds)
	}
}

// Journals go through many steps, so that each result is an argument of the next step.
func TestJournalsOfManySteps(t *testing.T) {
	random := rand.New(rand.NewSource(28))
	for range 1000 {
		j, want := impl.Journal{}, impl.Journal{}
		for range 60 {
			switch number := random.Intn(30); {
			case number == 0:
				j, want = impl.JournalSync(j), plainSync(want)
			case number == 1:
				keep := random.Intn(10)
				j, want = impl.JournalCrash(j, keep), plainCrash(want, keep)
			default:
				r := impl.Record{Index: random.Intn(impl.MaxBlocks), Text: recordText(number)}
				j, _ = impl.JournalAdd(j, r)
				want, _ = plainAdd(want, r)
			}
			if !equalJournals(j, want) {
				t.Fatalf("the journal is %#v, not %#v", j, want)
			}
			texts, have := plainBlocks(want.Records, impl.MaxBlocks)
			checkBlocks(t, j, impl.MaxBlocks, texts, have)
		}
	}
}
