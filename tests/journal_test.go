package tests

import (
	"math"
	"slices"
	"testing"

	"loop.example/feedswarm/impl"
)

func TestJournalConstants(t *testing.T) {
	if impl.MaxRecords != 20 {
		t.Errorf("MaxRecords is %d", impl.MaxRecords)
	}
}

// The values of this test are written out by the document's rules.
func TestJournalValues(t *testing.T) {
	a, b, c, d := impl.Record{Index: 1, Text: "b"}, impl.Record{Index: 0, Text: "a"}, impl.Record{Index: 1, Text: "c"}, impl.Record{Index: 15, Text: ""}
	j := impl.Journal{Records: []impl.Record{a, b, c}, Synced: 1}
	checkAdd(t, j, d, impl.Journal{Records: []impl.Record{a, b, c, d}, Synced: 1}, true)
	checkSync(t, j, impl.Journal{Records: []impl.Record{a, b, c}, Synced: 3})
	checkCrash(t, j, 0, impl.Journal{Records: []impl.Record{a}, Synced: 1})
	checkCrash(t, j, 1, impl.Journal{Records: []impl.Record{a, b}, Synced: 2})
	checkCrash(t, j, 2, impl.Journal{Records: []impl.Record{a, b, c}, Synced: 3})
	checkCrash(t, j, math.MaxInt, impl.Journal{Records: []impl.Record{a, b, c}, Synced: 3})
	checkBlocks(t, j, 3, []string{"a", "c", ""}, []bool{true, true, false})
	checkBlocks(t, j, 1, []string{"a"}, []bool{true})
	checkBlocks(t, j, 0, nil, nil)
	k := impl.Journal{Records: []impl.Record{d, d, {Index: 2, Text: "xxxxxxxx"}, {Index: 2}}}
	checkBlocks(t, k, 3, []string{"", "", ""}, []bool{false, false, true})
	checkBlocks(t, k, 15, make([]string, 15), bitsOfNumber(1<<2, 15))
	checkBlocks(t, k, 16, make([]string, 16), bitsOfNumber(1<<2|1<<15, 16))
	checkCrash(t, k, 0, impl.Journal{})
	checkSync(t, impl.Journal{}, impl.Journal{})
	checkAdd(t, impl.Journal{}, a, impl.Journal{Records: []impl.Record{a}}, true)
}

func TestPromise67AddedRecordIsTheLastOne(t *testing.T) {
	added := 0
	for _, j := range validJournals() {
		for _, r := range furtherRecords(j) {
			got, ok := impl.JournalAdd(j, r)
			if !ok {
				continue
			}
			if last := len(got.Records) - 1; last != len(j.Records) || got.Records[last] != r {
				t.Fatalf("JournalAdd of %#v and %#v is %#v", j, r, got)
			}
			if !slices.Equal(got.Records[:len(j.Records)], j.Records) || got.Synced != j.Synced {
				t.Fatalf("JournalAdd of %#v and %#v is %#v", j, r, got)
			}
			added++
		}
	}
	if added < 50000 {
		t.Errorf("only %d records are added", added)
	}
}

// A journal is filled record by record, from none to the greatest number; some of them are made to survive meanwhile.
func TestPromise67JournalIsFilled(t *testing.T) {
	for _, list := range recordLists() {
		for often := 1; often <= impl.MaxRecords+1; often++ {
			j := impl.Journal{}
			for place, r := range list {
				j = mustAdd(t, j, r)
				if want := (impl.Journal{Records: list[:place+1], Synced: place / often * often}); !equalJournals(j, want) {
					t.Fatalf("record %d of %#v makes %#v", place, list, j)
				}
				if (place+1)%often == 0 {
					j = impl.JournalSync(j)
				}
			}
		}
	}
}

func TestPromise68SynchronizedJournalKeepsEverything(t *testing.T) {
	for _, j := range validJournals() {
		synced := impl.JournalSync(j)
		want := impl.Journal{Records: j.Records, Synced: len(j.Records)}
		if !equalJournals(synced, want) {
			t.Fatalf("JournalSync of %#v is %#v", j, synced)
		}
		for _, keep := range keepNumbers() {
			checkCrash(t, synced, keep, want)
		}
		checkSync(t, synced, want)
	}
}

func TestPromise69FirstRecordsAreKeptAndSurvive(t *testing.T) {
	for _, j := range validJournals() {
		for _, keep := range keepNumbers() {
			got := impl.JournalCrash(j, keep)
			many := len(j.Records)
			if keep < many-j.Synced {
				many = j.Synced + keep
			}
			if !slices.Equal(got.Records, j.Records[:many]) || got.Synced != many {
				t.Fatalf("JournalCrash of %#v and %d is %#v", j, keep, got)
			}
		}
	}
}

func TestPromise70SecondCrashKeepsEverything(t *testing.T) {
	for _, j := range validJournals() {
		for _, keep := range keepNumbers() {
			crashed := impl.JournalCrash(j, keep)
			// Only the synchronized records are sure to be there, so a journal that lost them would keep everything, too.
			if len(crashed.Records) < j.Synced {
				t.Fatalf("JournalCrash of %#v and %d is %#v", j, keep, crashed)
			}
			for _, again := range []int{0, 1, keep, impl.MaxRecords, math.MaxInt} {
				checkCrash(t, crashed, again, crashed)
			}
		}
	}
}

func TestPromise71LastRecordOfEachIndex(t *testing.T) {
	for _, j := range validJournals() {
		for length := range impl.MaxBlocks + 1 {
			want, wantHave := plainBlocks(j.Records, length)
			checkBlocks(t, j, length, want, wantHave)
		}
	}
}

// All lists of up to five records of two indexes with two texts or the empty one are tried.
func TestPromise71SeveralRecordsOfOneIndex(t *testing.T) {
	lists := [][]impl.Record{{}}
	for first := 0; len(lists[first]) < 5; first++ {
		for _, index := range []int{0, impl.MaxBlocks - 1} {
			for _, text := range []string{"", "a", longestText} {
				lists = append(lists, append(slices.Clone(lists[first]), impl.Record{Index: index, Text: text}))
			}
		}
	}
	for _, list := range lists {
		for _, length := range []int{0, 1, impl.MaxBlocks - 1, impl.MaxBlocks} {
			want, wantHave := plainBlocks(list, length)
			checkBlocks(t, impl.Journal{Records: list}, length, want, wantHave)
			checkBlocks(t, impl.Journal{Records: list, Synced: len(list)}, length, want, wantHave)
		}
	}
}

// A record that survives does not count more than a later one that does not.
func TestPromise71LaterRecordNeedNotSurvive(t *testing.T) {
	for index := range impl.MaxBlocks {
		for _, text := range []string{"", "new", longestText} {
			j := mustAdd(t, impl.Journal{}, impl.Record{Index: index, Text: "old"})
			j = mustAdd(t, impl.JournalSync(j), impl.Record{Index: index, Text: text})
			want, have := make([]string, impl.MaxBlocks), make([]bool, impl.MaxBlocks)
			want[index], have[index] = text, true
			checkBlocks(t, j, impl.MaxBlocks, want, have)
			want[index] = "old"
			checkBlocks(t, impl.JournalCrash(j, 0), impl.MaxBlocks, want, have)
		}
	}
}

// checkAddedBlock fails the test if a journal and the one with a further record differ in other blocks than that of the record.
func checkAddedBlock(t *testing.T, j impl.Journal, after impl.Journal, r impl.Record, length int) {
	t.Helper()
	want, wantHave := impl.JournalBlocks(j, length)
	if len(want) != length || len(wantHave) != length {
		t.Fatalf("JournalBlocks of %#v and %d is %#v, %#v", j, length, want, wantHave)
	}
	// A feed that is too short does not have this block.
	if r.Index < length {
		want[r.Index], wantHave[r.Index] = r.Text, true
	}
	checkBlocks(t, after, length, want, wantHave)
}

func TestPromise72AddedRecordIsItsBlock(t *testing.T) {
	for _, j := range validJournals() {
		for _, r := range furtherRecords(j) {
			if after, ok := impl.JournalAdd(j, r); ok {
				// A feed that ends just before or behind the block, and the longest one.
				for _, length := range []int{r.Index, r.Index + 1, impl.MaxBlocks} {
					checkAddedBlock(t, j, after, r, length)
				}
			}
		}
	}
}

func TestPromise72AddedRecordInFeedsOfAllLengths(t *testing.T) {
	for _, j := range someJournals() {
		for _, r := range furtherRecords(j) {
			if after, ok := impl.JournalAdd(j, r); ok {
				for length := range impl.MaxBlocks + 1 {
					checkAddedBlock(t, j, after, r, length)
				}
			}
		}
	}
}

// Each record of a list becomes its block while a journal is filled, whatever survives.
func TestPromise72BlocksOfAGrowingJournal(t *testing.T) {
	for _, list := range recordLists() {
		want, wantHave := make([]string, impl.MaxBlocks), make([]bool, impl.MaxBlocks)
		j := impl.Journal{}
		for place, r := range list {
			want[r.Index], wantHave[r.Index] = r.Text, true
			j = mustAdd(t, j, r)
			checkBlocks(t, j, impl.MaxBlocks, want, wantHave)
			if place%4 == 2 {
				j = impl.JournalSync(j)
			}
		}
	}
}

func TestPromise73SynchronizedIndexesAreKept(t *testing.T) {
	for _, j := range validJournals() {
		for _, keep := range keepNumbers() {
			crashed := impl.JournalCrash(j, keep)
			for _, length := range []int{1, 8, impl.MaxBlocks - 1, impl.MaxBlocks} {
				_, have := impl.JournalBlocks(crashed, length)
				for _, r := range j.Records[:j.Synced] {
					if r.Index < length && !plainSet(have, r.Index) {
						t.Fatalf("index %d of %#v is not there after JournalCrash of %d", r.Index, j, keep)
					}
				}
			}
		}
	}
}

func TestPromise74OnlyAFullJournalRefuses(t *testing.T) {
	for _, j := range validJournals() {
		for _, r := range furtherRecords(j) {
			if len(j.Records) == impl.MaxRecords {
				checkAdd(t, j, r, j, false)
			} else {
				mustAdd(t, j, r)
			}
		}
	}
}

// What survives must not change how many records there may be.
func TestPromise74TwentyRecordsAndOneMore(t *testing.T) {
	for _, often := range []int{1, 2, 7, impl.MaxRecords, impl.MaxRecords + 1} {
		j := impl.Journal{}
		for place := range 20 {
			j = mustAdd(t, j, impl.Record{Index: place % impl.MaxBlocks, Text: recordText(place)})
			if (place+1)%often == 0 {
				j = impl.JournalSync(j)
			}
		}
		full := cloneJournal(j)
		for range 3 {
			var ok bool
			if j, ok = impl.JournalAdd(j, impl.Record{Index: 3, Text: "more"}); ok || !equalJournals(j, full) {
				t.Fatalf("JournalAdd of %#v is %#v, %#v", full, j, ok)
			}
		}
		// There is room again after a failure that loses records.
		j = impl.JournalCrash(impl.Journal{Records: j.Records, Synced: 18}, 1)
		j = mustAdd(t, j, impl.Record{Index: 3, Text: "more"})
		checkAdd(t, j, impl.Record{Index: 3, Text: "most"}, j, false)
	}
}

func TestPromise75AddedRecordDoesNotSurvive(t *testing.T) {
	for _, j := range validJournals() {
		want := impl.Journal{Records: j.Records[:j.Synced], Synced: j.Synced}
		for _, r := range furtherRecords(j) {
			after, ok := impl.JournalAdd(j, r)
			if ok != (len(j.Records) < impl.MaxRecords) {
				t.Fatalf("JournalAdd of %#v and %#v is %#v, %#v", j, r, after, ok)
			}
			checkCrash(t, after, 0, want)
		}
	}
}

func TestPromise76ShorterFeedIsTheBeginning(t *testing.T) {
	for _, j := range validJournals() {
		for longer := range impl.MaxBlocks + 1 {
			texts, have := impl.JournalBlocks(j, longer)
			if len(texts) != longer || len(have) != longer {
				t.Fatalf("JournalBlocks of %#v and %d is %#v, %#v", j, longer, texts, have)
			}
			for shorter := range longer + 1 {
				checkBlocks(t, j, shorter, texts[:shorter], have[:shorter])
			}
		}
	}
}
