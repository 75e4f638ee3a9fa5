package tests

import (
	"math"
	"math/bits"
	"math/rand"
	"slices"
	"testing"

	"loop.example/g00304/impl"
)

// The plain reading of chapter 10: what the program is held against.

func plainQuorumFault(q impl.Quorum) int64 {
	if len(q.Keys) < 1 || len(q.Keys) > 8 {
		return impl.ErrMany
	}
	for _, key := range q.Keys {
		if key < 1 || key > 999 {
			return impl.ErrRange
		}
	}
	if q.Need < 1 || q.Need > int64(len(q.Keys)) {
		return impl.ErrRange
	}
	for i := 1; i < len(q.Keys); i++ {
		if q.Keys[i] <= q.Keys[i-1] {
			return impl.ErrForm
		}
	}
	return impl.OK
}

// plainRank adds key by key and bit by bit, and takes 65521 away on the way, so that no step of it is one of the program's.
func plainRank(key, seed int64) int64 {
	if key < 1 || key > 999 || seed < 0 || seed > 65535 {
		return -1
	}
	rank := int64(7)
	for range key {
		rank = (rank + 40503) % 65521
		rank = (rank + seed) % 65521
	}
	for bit := int64(32768); bit > 0; bit /= 2 {
		if seed&bit != 0 {
			rank = (rank + bit*30011) % 65521
		}
	}
	return rank
}

func plainNeedOf(n int64) impl.IntResult {
	needs := []int64{1, 2, 3, 3, 4, 5, 5, 6}
	if n < 1 || n > 8 {
		return impl.IntResult{Code: impl.ErrRange}
	}
	return impl.IntResult{Value: needs[n-1]}
}

func plainChoose(keys []int64, seed, n int64) impl.QuorumResult {
	if len(keys) > 8 {
		return impl.QuorumResult{Code: impl.ErrMany}
	}
	for _, key := range keys {
		if key < 1 || key > 999 {
			return impl.QuorumResult{Code: impl.ErrRange}
		}
	}
	if seed < 0 || seed > 65535 || n < 1 || n > 8 {
		return impl.QuorumResult{Code: impl.ErrRange}
	}
	for i, key := range keys {
		if slices.Contains(keys[:i], key) {
			return impl.QuorumResult{Code: impl.ErrTaken}
		}
	}
	if int64(len(keys)) < n {
		return impl.QuorumResult{Code: impl.ErrNone}
	}
	var chosen []int64
	for key := int64(1); key <= 999; key++ {
		if slices.Contains(keys, key) && plainCountAhead(keys, key, seed) < n {
			chosen = append(chosen, key)
		}
	}
	return impl.QuorumResult{Quorum: impl.Quorum{Keys: chosen, Need: plainNeedOf(n).Value}}
}

// plainCountAhead counts those keys that are taken ahead of key.
func plainCountAhead(keys []int64, key, seed int64) int64 {
	count := int64(0)
	for _, other := range keys {
		a, b := plainRank(other, seed), plainRank(key, seed)
		if a < b || a == b && other < key {
			count++
		}
	}
	return count
}

func plainCountGood(q impl.Quorum, bad []int64) int64 {
	count := int64(0)
	for _, key := range q.Keys {
		if !slices.Contains(bad, key) {
			count++
		}
	}
	return count
}

func plainIsSafe(q impl.Quorum, bad []int64) bool {
	if plainQuorumFault(q) != impl.OK {
		return false
	}
	all := int64(len(q.Keys))
	return q.Need+q.Need > all+(all-plainCountGood(q, bad))
}

func plainCanLock(q impl.Quorum, bad []int64) bool {
	return plainQuorumFault(q) == impl.OK && plainCountGood(q, bad) >= q.Need
}

func plainMeet(a, b []int64) impl.IntsResult {
	if len(a) > 20 || len(b) > 20 {
		return impl.IntsResult{Code: impl.ErrMany}
	}
	var list []int64
	for _, x := range a {
		for _, y := range b {
			if x == y {
				list = append(list, x)
				break
			}
		}
	}
	return impl.IntsResult{List: list}
}

// oneRankSeed and 40503 are together 65521: at this seed alone keys have one rank, and all of them do.
const oneRankSeed = 25018

var edgeNumbers = []int64{math.MinInt64, math.MinInt64 + 1, -65536, -1, 0, 1, 2, 7, 8, 9, 998, 999, 1000, 65520, 65521, 65535, 65536, math.MaxInt64 - 1, math.MaxInt64}

func quorumOf(need int64, keys ...int64) impl.Quorum {
	return impl.Quorum{Keys: keys, Need: need}
}

func sameQuorums(a, b impl.QuorumResult) bool {
	return a.Code == b.Code && slices.Equal(a.Quorum.Keys, b.Quorum.Keys) && a.Quorum.Need == b.Quorum.Need
}

// firstKeys are the keys 1 to n.
func firstKeys(n int) []int64 {
	var keys []int64
	for i := range int64(n) {
		keys = append(keys, i+1)
	}
	return keys
}

func with(list []int64, at int, number int64) []int64 {
	changed := slices.Clone(list)
	changed[at] = number
	return changed
}

// keysIn tells those keys whose bit is set.
func keysIn(keys []int64, set int) []int64 {
	var list []int64
	for i, key := range keys {
		if set>>i&1 == 1 {
			list = append(list, key)
		}
	}
	return list
}

// setsOf tells all sets of the places 0 to n-1 that have size of them.
func setsOf(n int, size int64) []int {
	var sets []int
	for set := range 1 << n {
		if int64(bits.OnesCount(uint(set))) == size {
			sets = append(sets, set)
		}
	}
	return sets
}

func holdQuorumAgainstPlain(t *testing.T, q impl.Quorum, bad []int64) {
	t.Helper()
	wasKeys, wasBad := slices.Clone(q.Keys), slices.Clone(bad)
	if got, want := impl.QuorumFault(q), plainQuorumFault(q); got != want {
		t.Fatalf("QuorumFault(%v) = %d, want %d", q, got, want)
	}
	if got, want := impl.IsSafe(q, bad), plainIsSafe(q, bad); got != want {
		t.Fatalf("IsSafe(%v, %v) = %v, want %v", q, bad, got, want)
	}
	if got, want := impl.CanLock(q, bad), plainCanLock(q, bad); got != want {
		t.Fatalf("CanLock(%v, %v) = %v, want %v", q, bad, got, want)
	}
	if !slices.Equal(q.Keys, wasKeys) || !slices.Equal(bad, wasBad) {
		t.Fatalf("an argument was changed: %v %v, they were %v %v", q, bad, wasKeys, wasBad)
	}
}

func holdChooseAgainstPlain(t *testing.T, keys []int64, seed, n int64) impl.QuorumResult {
	t.Helper()
	was := slices.Clone(keys)
	got, want := impl.ChooseQuorum(keys, seed, n), plainChoose(keys, seed, n)
	if !sameQuorums(got, want) {
		t.Fatalf("ChooseQuorum(%v, %d, %d) = %v, want %v", keys, seed, n, got, want)
	}
	if !slices.Equal(keys, was) {
		t.Fatalf("an argument was changed: %v, it was %v", keys, was)
	}
	return got
}

func holdMeetAgainstPlain(t *testing.T, a, b []int64) impl.IntsResult {
	t.Helper()
	wasA, wasB := slices.Clone(a), slices.Clone(b)
	got, want := impl.MeetOf(a, b), plainMeet(a, b)
	if !sameInts(got, want) {
		t.Fatalf("MeetOf(%v, %v) = %v, want %v", a, b, got, want)
	}
	if !slices.Equal(a, wasA) || !slices.Equal(b, wasB) {
		t.Fatalf("an argument was changed: %v %v, they were %v %v", a, b, wasA, wasB)
	}
	return got
}

// Promise 11: a quorum is chosen of those that there are, so many, and the same whatever the order; where a quorum is safe, two lots of as many as it needs have one in common who is not bad.

// The ranks of the keys 1 to 5 at the seed 7, worked out by hand: 54031, 29020, 4009, 44519, 19508.
func TestAChoiceByHand(t *testing.T) {
	want := []impl.Quorum{quorumOf(1, 3), quorumOf(2, 3, 5), quorumOf(3, 2, 3, 5), quorumOf(3, 2, 3, 4, 5), quorumOf(4, 1, 2, 3, 4, 5)}
	for i, rank := range []int64{54031, 29020, 4009, 44519, 19508} {
		if got := impl.RankOf(int64(i+1), 7); got != rank {
			t.Errorf("the rank of %d is %d, want %d", i+1, got, rank)
		}
	}
	for _, keys := range ordersOf(firstKeys(5)) {
		for i, q := range want {
			if r := holdChooseAgainstPlain(t, keys, 7, int64(i+1)); !sameQuorums(r, impl.QuorumResult{Quorum: q}) {
				t.Fatalf("%d of %v: %v, want %v", i+1, keys, r, q)
			}
		}
	}
}

func TestEveryOrderLeadsToTheSameQuorum(t *testing.T) {
	keys := []int64{999, 4, 1, 731, 20, 500, 2, 63}
	orders := ordersOf(keys)
	for _, seed := range []int64{0, 7, oneRankSeed, 65535} {
		for n := int64(1); n <= 8; n++ {
			want := holdChooseAgainstPlain(t, keys, seed, n)
			if want.Code != impl.OK {
				t.Fatal(want)
			}
			for _, order := range orders {
				if r := impl.ChooseQuorum(order, seed, n); !sameQuorums(r, want) {
					t.Fatalf("%d of %v at %d: %v, want %v", n, order, seed, r, want)
				}
			}
		}
	}
}

// holdChosen asks a choice what is promised of it, in words of its own.
func holdChosen(t *testing.T, keys []int64, seed, n int64, r impl.QuorumResult) {
	t.Helper()
	q := r.Quorum
	if r.Code != impl.OK || impl.QuorumFault(q) != impl.OK || int64(len(q.Keys)) != n || q.Need != impl.NeedOf(n).Value {
		t.Fatalf("%d of %v at %d: %v", n, keys, seed, r)
	}
	for _, key := range keys {
		if slices.Contains(q.Keys, key) {
			continue
		}
		for _, taken := range q.Keys {
			mine, its := impl.RankOf(key, seed), impl.RankOf(taken, seed)
			if mine < its || mine == its && key < taken {
				t.Fatalf("%d of %v at %d: %v, and %d stands ahead of %d", n, keys, seed, r, key, taken)
			}
		}
	}
	for _, taken := range q.Keys {
		if !slices.Contains(keys, taken) {
			t.Fatalf("%d of %v at %d: %v, and %d is not there", n, keys, seed, r, taken)
		}
	}
}

func TestRandomChoices(t *testing.T) {
	dice := rand.New(rand.NewSource(11))
	for range 800 {
		var keys []int64
		for _, key := range dice.Perm(999)[:dice.Intn(9)] {
			keys = append(keys, int64(key)+1)
		}
		seed := dice.Int63n(65536)
		if dice.Intn(10) == 0 {
			seed = oneRankSeed
		}
		for n := int64(1); n <= 8; n++ {
			r := holdChooseAgainstPlain(t, keys, seed, n)
			if n > int64(len(keys)) {
				if !sameQuorums(r, impl.QuorumResult{Code: impl.ErrNone}) {
					t.Fatalf("%d of %v: %v", n, keys, r)
				}
				continue
			}
			holdChosen(t, keys, seed, n, r)
		}
	}
}

// Of keys of one rank the lesser one is taken, wherever it stands.
func TestKeysOfOneRank(t *testing.T) {
	for _, key := range []int64{1, 2, 500, 998, 999} {
		if rank := impl.RankOf(key, oneRankSeed); rank != 10066 {
			t.Fatalf("the rank of %d is %d", key, rank)
		}
	}
	for _, keys := range ordersOf([]int64{999, 1, 30, 998, 2}) {
		for n, want := range [][]int64{{1}, {1, 2}, {1, 2, 30}, {1, 2, 30, 998}, {1, 2, 30, 998, 999}} {
			r := holdChooseAgainstPlain(t, keys, oneRankSeed, int64(n+1))
			if r.Code != impl.OK || !slices.Equal(r.Quorum.Keys, want) {
				t.Fatalf("%d of %v: %v, want %v", n+1, keys, r, want)
			}
		}
	}
	// A seed beside it has no two keys of one rank, and the rank rises or falls with the key.
	up := holdChooseAgainstPlain(t, []int64{1, 2, 999}, oneRankSeed+1, 1)
	down := holdChooseAgainstPlain(t, []int64{1, 2, 999}, oneRankSeed-1, 1)
	if !slices.Equal(up.Quorum.Keys, []int64{1}) || !slices.Equal(down.Quorum.Keys, []int64{999}) {
		t.Error(up, down)
	}
}

// Quorums of 1 to 8 keys, of each Need, with each lot of bad ones among them: safe says just that each two lots of Need meet in one who is not bad, and can lock that there is a lot of Need of those who are not bad.
func TestWhatSafeAndCanLockSay(t *testing.T) {
	all := []int64{1, 5, 6, 40, 300, 301, 998, 999}
	for n := 1; n <= 8; n++ {
		for need := int64(1); need <= int64(n); need++ {
			q := quorumOf(need, all[:n]...)
			sets := setsOf(n, need)
			for badSet := range 1 << n {
				bad := keysIn(q.Keys, badSet)
				holdQuorumAgainstPlain(t, q, bad)
				safe, can := true, false
				for _, a := range sets {
					can = can || a&badSet == 0
					for _, b := range sets {
						safe = safe && a&b&^badSet != 0
					}
				}
				if impl.IsSafe(q, bad) != safe || impl.CanLock(q, bad) != can {
					t.Fatalf("%v with the bad %v: safe %v, can lock %v", q, bad, safe, can)
				}
			}
		}
	}
}

// The same in the words of MeetOf, for quorums that are chosen, of which fewer than a third are bad.
func TestTwoLotsOfAChosenQuorumMeet(t *testing.T) {
	keys := []int64{12, 7, 999, 1, 345, 90, 600, 42}
	for n := int64(1); n <= 8; n++ {
		q := impl.ChooseQuorum(keys, 99*n, n).Quorum
		for badSet := range 1 << n {
			bad := keysIn(q.Keys, badSet)
			if int64(3*len(bad)) >= n {
				continue
			}
			if !impl.IsSafe(q, bad) || !impl.CanLock(q, bad) {
				t.Fatalf("%v is not safe, or cannot lock, with the bad %v", q, bad)
			}
			for _, a := range setsOf(int(n), q.Need) {
				for _, b := range setsOf(int(n), q.Need) {
					both := impl.MeetOf(keysIn(q.Keys, a), keysIn(q.Keys, b))
					good := slices.DeleteFunc(both.List, func(key int64) bool { return slices.Contains(bad, key) })
					if both.Code != impl.OK || len(good) == 0 {
						t.Fatalf("%v with the bad %v: no good one in common", q, bad)
					}
				}
			}
		}
	}
}

// The edges that the document names, and wrong inputs.

type quorumRow struct {
	name   string
	quorum impl.Quorum
	code   int64
}

func wrongQuorums() []quorumRow {
	return []quorumRow{
		{"the zero value", impl.Quorum{}, impl.ErrMany},
		{"no key, Need 1", quorumOf(1), impl.ErrMany},
		{"9 keys", quorumOf(1, firstKeys(9)...), impl.ErrMany},
		{"9 keys, Need 9", quorumOf(9, firstKeys(9)...), impl.ErrMany},
		{"100 keys that are not so", quorumOf(0, make([]int64, 100)...), impl.ErrMany},
		{"a key of -1", quorumOf(1, -1), impl.ErrRange},
		{"a key of 0", quorumOf(1, 0), impl.ErrRange},
		{"a key of 1000", quorumOf(1, 1000), impl.ErrRange},
		{"the lowest key there is", quorumOf(1, math.MinInt64), impl.ErrRange},
		{"the highest key there is", quorumOf(1, math.MaxInt64), impl.ErrRange},
		{"a key of 0 ahead", quorumOf(2, 0, 1, 2), impl.ErrRange},
		{"a key of 1000 at the end", quorumOf(2, 1, 2, 1000), impl.ErrRange},
		{"a key of 1000 in the midst", quorumOf(2, 1, 1000, 2), impl.ErrRange},
		{"the last of 8 keys of 1000", quorumOf(6, with(firstKeys(8), 7, 1000)...), impl.ErrRange},
		{"Need -1", quorumOf(-1, 1, 2), impl.ErrRange},
		{"Need 0 of 1", quorumOf(0, 1), impl.ErrRange},
		{"Need 0 of 8", quorumOf(0, firstKeys(8)...), impl.ErrRange},
		{"Need 2 of 1", quorumOf(2, 1), impl.ErrRange},
		{"Need 5 of 4", quorumOf(5, firstKeys(4)...), impl.ErrRange},
		{"Need 9 of 8", quorumOf(9, firstKeys(8)...), impl.ErrRange},
		{"the lowest Need there is", quorumOf(math.MinInt64, 1, 2), impl.ErrRange},
		{"the highest Need there is", quorumOf(math.MaxInt64, 1, 2), impl.ErrRange},
		{"a Need whose double wraps round to 2", quorumOf(math.MinInt64+1, 1), impl.ErrRange},
		{"keys that fall", quorumOf(1, 2, 1), impl.ErrForm},
		{"keys that fall at the end", quorumOf(2, 1, 3, 2), impl.ErrForm},
		{"keys that fall at the start", quorumOf(2, 999, 1, 2), impl.ErrForm},
		{"8 keys that fall", quorumOf(6, 8, 7, 6, 5, 4, 3, 2, 1), impl.ErrForm},
		{"a key that stands twice", quorumOf(2, 5, 5), impl.ErrForm},
		{"a key that stands twice, not side by side", quorumOf(2, 5, 6, 5), impl.ErrForm},
		{"the last of 8 keys twice", quorumOf(6, with(firstKeys(8), 7, 7)...), impl.ErrForm},

		{"9 keys, one of them 0, Need 0, and they fall", quorumOf(0, 9, 8, 7, 6, 5, 4, 3, 2, 0), impl.ErrMany},
		{"keys that fall ahead of a key of 1000", quorumOf(2, 3, 2, 1000), impl.ErrRange},
		{"keys that fall, Need 0", quorumOf(0, 3, 2), impl.ErrRange},
		{"keys that fall, Need 3 of 2", quorumOf(3, 3, 2), impl.ErrRange},
		{"a key of 0 twice", quorumOf(1, 0, 0), impl.ErrRange},
	}
}

func rightQuorums() []quorumRow {
	return []quorumRow{
		{"a key of 1", quorumOf(1, 1), impl.OK},
		{"a key of 999", quorumOf(1, 999), impl.OK},
		{"both ends", quorumOf(1, 1, 999), impl.OK},
		{"Need as many as 2", quorumOf(2, 1, 999), impl.OK},
		{"4 of which 3 are needed", quorumOf(3, 2, 3, 5, 7), impl.OK},
		{"8 keys, Need 1", quorumOf(1, firstKeys(8)...), impl.OK},
		{"8 keys, Need 6", quorumOf(6, firstKeys(8)...), impl.OK},
		{"8 keys, Need 8", quorumOf(8, firstKeys(8)...), impl.OK},
	}
}

func TestQuorumFault(t *testing.T) {
	for _, row := range append(wrongQuorums(), rightQuorums()...) {
		if got := impl.QuorumFault(row.quorum); got != row.code {
			t.Errorf("%s: %d, want %d", row.name, got, row.code)
		}
		if got := plainQuorumFault(row.quorum); got != row.code {
			t.Errorf("%s: the plain reading says %d, want %d", row.name, got, row.code)
		}
	}
}

func TestAllShortQuorums(t *testing.T) {
	elements := []int64{-1, 0, 1, 2, 999, 1000}
	lists := [][]int64{nil, {1}, {2, 2}, {999, 1, 1000}, {0, -1}}
	listsOf(elements, 4, func(keys []int64) {
		for need := int64(-1); need <= 5; need++ {
			for _, bad := range lists {
				holdQuorumAgainstPlain(t, impl.Quorum{Keys: keys, Need: need}, bad)
			}
		}
	})
	for _, need := range edgeNumbers {
		for _, key := range edgeNumbers {
			holdQuorumAgainstPlain(t, quorumOf(need, key), []int64{key})
			holdQuorumAgainstPlain(t, quorumOf(need, 7, key), nil)
		}
	}
}

func TestNeedOf(t *testing.T) {
	for i, need := range []int64{1, 2, 3, 3, 4, 5, 5, 6} {
		if r := impl.NeedOf(int64(i + 1)); r != (impl.IntResult{Value: need}) {
			t.Errorf("of %d: %v, want %d", i+1, r, need)
		}
	}
	for _, n := range []int64{math.MinInt64, math.MinInt64 + 1, -9, -1, 0, 9, 10, 1000, math.MaxInt64 / 2, math.MaxInt64 - 1, math.MaxInt64} {
		if r := impl.NeedOf(n); r != (impl.IntResult{Code: impl.ErrRange}) {
			t.Errorf("of %d: %v", n, r)
		}
	}
}

// What is needed is more than two thirds, and no more than that: it is safe with each lot of bad ones below a third, and can lock with it.
func TestNeedIsMoreThanTwoThirds(t *testing.T) {
	for n := int64(1); n <= 8; n++ {
		need := impl.NeedOf(n).Value
		if 3*need <= 2*n || 3*(need-1) > 2*n || impl.QuorumFault(quorumOf(need, firstKeys(int(n))...)) != impl.OK {
			t.Errorf("of %d: %d", n, need)
		}
	}
}

// By hand: 65535 leaves 14, 30011 times 14 leaves 27028, 40503 times 999 leaves 36040, 999 times 14 is 13986.
func TestRankOf(t *testing.T) {
	rows := []struct{ key, seed, rank int64 }{
		{1, 0, 40510}, {2, 0, 15492}, {999, 0, 36047}, {1, 1, 5001}, {999, 1, 1536},
		{1, 65535, 2031}, {999, 65535, 11540}, {1, 65521, 40510}, {999, 65521, 36047},
		{1, oneRankSeed, 10066}, {999, oneRankSeed, 10066},
		{0, 0, -1}, {1000, 0, -1}, {-1, 0, -1}, {1, -1, -1}, {999, -1, -1}, {1, 65536, -1}, {999, 65536, -1},
		{0, -1, -1}, {1000, 65536, -1}, {0, 65535, -1}, {1000, 65535, -1},
		{math.MinInt64, 0, -1}, {math.MaxInt64, 0, -1}, {1, math.MinInt64, -1}, {1, math.MaxInt64, -1}, {math.MaxInt64, math.MaxInt64, -1},
	}
	for _, row := range rows {
		if got := impl.RankOf(row.key, row.seed); got != row.rank {
			t.Errorf("of %d at %d: %d, want %d", row.key, row.seed, got, row.rank)
		}
		if got := plainRank(row.key, row.seed); got != row.rank {
			t.Errorf("of %d at %d the plain reading says %d, want %d", row.key, row.seed, got, row.rank)
		}
	}
	for _, key := range append(edgeNumbers, 3, 250, 500, 777) {
		for _, seed := range append(edgeNumbers, 3, 1000, 30000, oneRankSeed-1, oneRankSeed, oneRankSeed+1, 40503) {
			if got, want := impl.RankOf(key, seed), plainRank(key, seed); got != want {
				t.Errorf("of %d at %d: %d, want %d", key, seed, got, want)
			}
		}
	}
}

type chooseRow struct {
	name    string
	keys    []int64
	seed, n int64
	code    int64
}

func wrongChoices() []chooseRow {
	return []chooseRow{
		{"9 keys", firstKeys(9), 0, 1, impl.ErrMany},
		{"9 keys, n 9", firstKeys(9), 0, 9, impl.ErrMany},
		{"9 keys of 0", make([]int64, 9), -1, 0, impl.ErrMany},
		{"100 keys", firstKeys(100), 0, 8, impl.ErrMany},
		{"a key of -1", []int64{-1, 2}, 0, 1, impl.ErrRange},
		{"a key of 0", []int64{1, 0}, 0, 1, impl.ErrRange},
		{"a key of 1000", []int64{1, 1000}, 0, 1, impl.ErrRange},
		{"the last of 8 keys of 1000", with(firstKeys(8), 7, 1000), 0, 1, impl.ErrRange},
		{"the lowest key there is", []int64{math.MinInt64}, 0, 1, impl.ErrRange},
		{"the highest key there is", []int64{math.MaxInt64}, 0, 1, impl.ErrRange},
		{"seed -1", []int64{1, 2}, -1, 1, impl.ErrRange},
		{"seed 65536", []int64{1, 2}, 65536, 1, impl.ErrRange},
		{"the lowest seed there is", []int64{1, 2}, math.MinInt64, 1, impl.ErrRange},
		{"the highest seed there is", []int64{1, 2}, math.MaxInt64, 1, impl.ErrRange},
		{"n -1", []int64{1, 2}, 0, -1, impl.ErrRange},
		{"n 0", []int64{1, 2}, 0, 0, impl.ErrRange},
		{"n 9", []int64{1, 2}, 0, 9, impl.ErrRange},
		{"n 9 of 8", firstKeys(8), 0, 9, impl.ErrRange},
		{"the lowest n there is", []int64{1, 2}, 0, math.MinInt64, impl.ErrRange},
		{"the highest n there is", []int64{1, 2}, 0, math.MaxInt64, impl.ErrRange},
		{"no key, n 0", nil, 0, 0, impl.ErrRange},
		{"no key, n 9", nil, 0, 9, impl.ErrRange},
		{"no key, seed -1", nil, -1, 1, impl.ErrRange},
		{"a key twice", []int64{5, 5}, 0, 1, impl.ErrTaken},
		{"a key twice, not side by side", []int64{5, 1, 9, 5}, 0, 2, impl.ErrTaken},
		{"the first of 8 keys twice", with(firstKeys(8), 7, 1), 0, 1, impl.ErrTaken},
		{"a key twice, where all have one rank", []int64{7, 3, 7}, oneRankSeed, 1, impl.ErrTaken},
		{"8 times the same key", slices.Repeat([]int64{4}, 8), 0, 8, impl.ErrTaken},
		{"no key", nil, 0, 1, impl.ErrNone},
		{"no key, n 8", nil, 65535, 8, impl.ErrNone},
		{"2 of 1", []int64{1}, 0, 2, impl.ErrNone},
		{"5 of 4", firstKeys(4), 0, 5, impl.ErrNone},
		{"8 of 7", firstKeys(7), 0, 8, impl.ErrNone},

		{"a key of 0 twice", []int64{0, 0}, 0, 1, impl.ErrRange},
		{"a key of 0 behind one that stands twice", []int64{5, 5, 0}, 0, 1, impl.ErrRange},
		{"a key twice, seed 65536", []int64{5, 5}, 65536, 1, impl.ErrRange},
		{"a key twice, n 0", []int64{5, 5}, 0, 0, impl.ErrRange},
		{"a key twice, n 9", []int64{5, 5}, 0, 9, impl.ErrRange},
		{"a key twice, and fewer than n", []int64{5, 5}, 0, 3, impl.ErrTaken},
		{"a key twice: without it fewer than n", []int64{5, 5}, 0, 2, impl.ErrTaken},
		{"a key of 1000, and fewer than n", []int64{1000}, 0, 2, impl.ErrRange},
		{"seed -1, and fewer than n", []int64{1}, -1, 2, impl.ErrRange},
	}
}

func TestChoicesThatAreNotSo(t *testing.T) {
	for _, row := range wrongChoices() {
		r := impl.ChooseQuorum(row.keys, row.seed, row.n)
		if r.Code != row.code || len(r.Quorum.Keys) != 0 || r.Quorum.Need != 0 {
			t.Errorf("%s: %v, want %d", row.name, r, row.code)
		}
		if want := plainChoose(row.keys, row.seed, row.n); want.Code != row.code {
			t.Errorf("%s: the plain reading says %v, want %d", row.name, want, row.code)
		}
	}
}

func TestChoicesThatAreJustSo(t *testing.T) {
	rows := []struct {
		name    string
		keys    []int64
		seed, n int64
		want    impl.Quorum
	}{
		{"1 of 1", []int64{1}, 0, 1, quorumOf(1, 1)},
		{"1 of 1, the highest key and seed", []int64{999}, 65535, 1, quorumOf(1, 999)},
		{"1 of 2", []int64{1, 999}, 0, 1, quorumOf(1, 999)},
		{"1 of 2 at another seed", []int64{999, 1}, 65535, 1, quorumOf(1, 1)},
		{"2 of 2, that fall", []int64{999, 1}, 0, 2, quorumOf(2, 1, 999)},
		{"4 of 4", []int64{4, 2, 3, 1}, 3, 4, quorumOf(3, 1, 2, 3, 4)},
		{"8 of 8", []int64{8, 1, 7, 2, 6, 3, 5, 4}, 0, 8, quorumOf(6, firstKeys(8)...)},
		{"1 of 8", firstKeys(8), oneRankSeed, 1, quorumOf(1, 1)},
		{"7 of 8", firstKeys(8), oneRankSeed, 7, quorumOf(5, firstKeys(7)...)},
	}
	for _, row := range rows {
		r := holdChooseAgainstPlain(t, row.keys, row.seed, row.n)
		if !sameQuorums(r, impl.QuorumResult{Quorum: row.want}) {
			t.Errorf("%s: %v, want %v", row.name, r, row.want)
		}
	}
}

func TestAllShortChoices(t *testing.T) {
	seeds := []int64{-1, 0, 1, oneRankSeed, 65535, 65536}
	listsOf([]int64{0, 1, 2, 7, 999, 1000}, 4, func(keys []int64) {
		for _, seed := range seeds {
			for _, n := range []int64{-1, 0, 1, 2, 3, 4, 5, 8, 9} {
				holdChooseAgainstPlain(t, keys, seed, n)
			}
		}
	})
	for _, keys := range [][]int64{nil, {1}, firstKeys(7), firstKeys(8), firstKeys(9)} {
		for _, seed := range edgeNumbers {
			for _, n := range edgeNumbers {
				holdChooseAgainstPlain(t, keys, seed, n)
			}
		}
	}
}

func TestSafeAndCanLock(t *testing.T) {
	four, eight := quorumOf(3, 1, 2, 3, 4), quorumOf(6, firstKeys(8)...)
	rows := []struct {
		name      string
		quorum    impl.Quorum
		bad       []int64
		safe, can bool
	}{
		{"one alone", quorumOf(1, 7), nil, true, true},
		{"one alone who is bad", quorumOf(1, 7), []int64{7}, false, false},
		{"one alone, another one bad", quorumOf(1, 7), []int64{8}, true, true},
		{"3 of 4", four, nil, true, true},
		{"3 of 4, one bad", four, []int64{2}, true, true},
		{"3 of 4, the first one bad", four, []int64{1}, true, true},
		{"3 of 4, the last one bad", four, []int64{4}, true, true},
		{"3 of 4, two bad", four, []int64{2, 3}, false, false},
		{"3 of 4, one bad twice", four, []int64{2, 2}, true, true},
		{"3 of 4, one bad twenty times", four, slices.Repeat([]int64{3}, 20), true, true},
		{"3 of 4, two bad, one of them twice", four, []int64{4, 1, 4}, false, false},
		{"3 of 4, bad ones of no quorum", four, []int64{5, 6, 7, 8, 999}, true, true},
		{"3 of 4, bad ones that are no keys", four, []int64{-1, 0, 1000, math.MinInt64, math.MaxInt64}, true, true},
		{"3 of 4, one bad among others", four, []int64{9, 2, 0, 8}, true, true},
		{"3 of 4, two bad among others", four, []int64{9, 2, 0, 3}, false, false},
		{"3 of 4, all bad", four, []int64{4, 3, 2, 1}, false, false},
		{"3 of 4, one bad and all keys that are not in it", four, firstKeys(999)[3:], true, true},
		{"3 of 4, two bad and all keys that are not in it", four, firstKeys(999)[2:], false, false},
		{"3 of 4, all keys bad that there are", four, firstKeys(999), false, false},
		{"2 of 4: two lots may have none in common", quorumOf(2, 1, 2, 3, 4), nil, false, true},
		{"2 of 4, two bad", quorumOf(2, 1, 2, 3, 4), []int64{1, 2}, false, true},
		{"2 of 4, three bad", quorumOf(2, 1, 2, 3, 4), []int64{1, 2, 3}, false, false},
		{"1 of 4", quorumOf(1, 1, 2, 3, 4), nil, false, true},
		{"1 of 4, three bad", quorumOf(1, 1, 2, 3, 4), []int64{4, 2, 3}, false, true},
		{"4 of 4, three bad", quorumOf(4, 1, 2, 3, 4), []int64{1, 2, 3}, true, false},
		{"4 of 4, all bad", quorumOf(4, 1, 2, 3, 4), []int64{1, 2, 3, 4}, false, false},
		{"4 of 4, one bad", quorumOf(4, 1, 2, 3, 4), []int64{1}, true, false},
		{"2 of 3", quorumOf(2, 1, 2, 3), nil, true, true},
		{"2 of 3, one bad", quorumOf(2, 1, 2, 3), []int64{3}, false, true},
		{"6 of 8, two bad", eight, []int64{1, 8}, true, true},
		{"6 of 8, three bad", eight, []int64{1, 8, 4}, true, false},
		{"6 of 8, four bad", eight, []int64{1, 8, 4, 5}, false, false},
		{"5 of 8", quorumOf(5, firstKeys(8)...), []int64{6}, true, true},
		{"5 of 8, two bad", quorumOf(5, firstKeys(8)...), []int64{6, 7}, false, true},
		{"5 of 8, three bad", quorumOf(5, firstKeys(8)...), []int64{6, 7, 8}, false, true},
		{"5 of 8, four bad", quorumOf(5, firstKeys(8)...), []int64{6, 7, 8, 1}, false, false},
	}
	for _, row := range rows {
		holdQuorumAgainstPlain(t, row.quorum, row.bad)
		if impl.IsSafe(row.quorum, row.bad) != row.safe {
			t.Errorf("%s: safe is not %v", row.name, row.safe)
		}
		if impl.CanLock(row.quorum, row.bad) != row.can {
			t.Errorf("%s: can lock is not %v", row.name, row.can)
		}
	}
}

func TestAQuorumWithAFaultIsNotSafe(t *testing.T) {
	for _, row := range wrongQuorums() {
		for _, bad := range [][]int64{nil, {1}, {0}, {1000, -1}, row.quorum.Keys, firstKeys(8)} {
			if impl.IsSafe(row.quorum, bad) || impl.CanLock(row.quorum, bad) {
				t.Errorf("%s: it is safe or can lock, with the bad %v", row.name, bad)
			}
		}
	}
}

func TestMeetOf(t *testing.T) {
	twenty, more := firstKeys(20), firstKeys(21)
	rows := []struct {
		name string
		a, b []int64
		want []int64
		code int64
	}{
		{"two empty lists", nil, nil, nil, impl.OK},
		{"an empty one", nil, []int64{1, 2}, nil, impl.OK},
		{"an empty one behind", []int64{1, 2}, nil, nil, impl.OK},
		{"nothing in common", []int64{1, 3}, []int64{2, 4}, nil, impl.OK},
		{"two in common", []int64{1, 2, 3}, []int64{2, 3, 4}, []int64{2, 3}, impl.OK},
		{"the order of a", []int64{9, 1, 5, 7}, []int64{7, 1, 9}, []int64{9, 1, 7}, impl.OK},
		{"the order of a, the other way round", []int64{7, 1, 9}, []int64{9, 1, 5, 7}, []int64{7, 1, 9}, impl.OK},
		{"one twice in a", []int64{5, 2, 5}, []int64{5}, []int64{5, 5}, impl.OK},
		{"one twice in b", []int64{5, 2}, []int64{5, 5}, []int64{5}, impl.OK},
		{"one twice in both", []int64{5, 5, 2}, []int64{2, 5, 5}, []int64{5, 5, 2}, impl.OK},
		{"numbers that are no keys", []int64{0, -1, math.MinInt64, 1000, math.MaxInt64}, []int64{math.MaxInt64, math.MinInt64, 0}, []int64{0, math.MinInt64, math.MaxInt64}, impl.OK},
		{"20 and 20", twenty, twenty, twenty, impl.OK},
		{"20 and 1", twenty, []int64{20}, []int64{20}, impl.OK},
		{"1 and 20", []int64{20}, twenty, []int64{20}, impl.OK},
		{"20 times the same", slices.Repeat([]int64{3}, 20), []int64{3}, slices.Repeat([]int64{3}, 20), impl.OK},
		{"21 and 1", more, []int64{1}, nil, impl.ErrMany},
		{"1 and 21", []int64{1}, more, nil, impl.ErrMany},
		{"21 and none", more, nil, nil, impl.ErrMany},
		{"none and 21", nil, more, nil, impl.ErrMany},
		{"21 and 21", more, more, nil, impl.ErrMany},
		{"20 and 21", twenty, more, nil, impl.ErrMany},
		{"21 times the same", slices.Repeat([]int64{3}, 21), []int64{3}, nil, impl.ErrMany},
		{"1000", firstKeys(1000), twenty, nil, impl.ErrMany},
	}
	for _, row := range rows {
		if r := holdMeetAgainstPlain(t, row.a, row.b); !sameInts(r, impl.IntsResult{Code: row.code, List: row.want}) {
			t.Errorf("%s: %v, want %d %v", row.name, r, row.code, row.want)
		}
	}
	listsOf([]int64{-1, 0, 5}, 4, func(a []int64) {
		listsOf([]int64{0, 5, 6}, 3, func(b []int64) { holdMeetAgainstPlain(t, a, b) })
	})
}

// Promise 1: memory, nil and empty, the same again.

func TestQuorumsAreNotChanged(t *testing.T) {
	lists := [][]int64{nil, {5}, {9, 1, 5}, {5, 5}, {0, 1000}, {8, 7, 6, 5, 4, 3, 2, 1}, firstKeys(9), {20, 3, 3, 1, 999}, firstKeys(21)}
	for _, plain := range lists {
		for _, other := range lists {
			a, b := roomyNumbers(plain), roomyNumbers(other)
			wasA, wasB := slices.Clone(a[:cap(a)]), slices.Clone(b[:cap(b)])
			for _, n := range []int64{0, 1, 3, 8, 9} {
				for _, seed := range []int64{-1, 0, 7, oneRankSeed} {
					impl.ChooseQuorum(a, seed, n)
				}
				q := impl.Quorum{Keys: a, Need: n}
				impl.QuorumFault(q)
				impl.IsSafe(q, b)
				impl.CanLock(q, b)
			}
			impl.MeetOf(a, b)
			if !slices.Equal(a[:cap(a)], wasA) || !slices.Equal(b[:cap(b)], wasB) {
				t.Errorf("an argument was changed: %v %v, they were %v %v", a[:cap(a)], b[:cap(b)], wasA, wasB)
			}
		}
	}
}

func TestAnswersOfQuorumsShareNoMemory(t *testing.T) {
	for _, plain := range [][]int64{{5}, {2, 3, 5, 9}, {9, 1, 5}, firstKeys(8)} {
		n := int64(len(plain))
		rising := slices.Sorted(slices.Values(plain))
		keys, all := roomyNumbers(plain), roomyNumbers(plain)
		was := slices.Clone(keys[:cap(keys)])
		one, two := impl.ChooseQuorum(keys, 7, n), impl.ChooseQuorum(keys, 7, n)
		meet, again := impl.MeetOf(keys, all), impl.MeetOf(keys, all)
		if !slices.Equal(one.Quorum.Keys, rising) || !slices.Equal(meet.List, plain) {
			t.Fatal(one, meet)
		}
		spoilNumbers(one.Quorum.Keys)
		spoilNumbers(meet.List)
		if !slices.Equal(keys[:cap(keys)], was) || !slices.Equal(all[:cap(all)], was) {
			t.Error("who writes to the answer writes to an argument")
		}
		spoilNumbers(keys)
		spoilNumbers(all)
		if !slices.Equal(two.Quorum.Keys, rising) || !slices.Equal(again.List, plain) {
			t.Error("who writes to an argument or to another answer writes to the answer", two, again)
		}
	}
}

func TestEmptyAndNilOfQuorumsAreTheSame(t *testing.T) {
	four := quorumOf(3, 1, 2, 3, 4)
	for _, none := range [][]int64{nil, {}} {
		if code := impl.QuorumFault(impl.Quorum{Keys: none, Need: 1}); code != impl.ErrMany {
			t.Error(code)
		}
		if !impl.IsSafe(four, none) || !impl.CanLock(four, none) {
			t.Error("with no bad ones it is not safe, or cannot lock")
		}
		if r := impl.ChooseQuorum(none, 0, 1); !sameQuorums(r, impl.QuorumResult{Code: impl.ErrNone}) {
			t.Error(r)
		}
		for _, other := range [][]int64{nil, {}, {1}} {
			if r := impl.MeetOf(none, other); r.Code != impl.OK || len(r.List) != 0 {
				t.Error(r)
			}
			if r := impl.MeetOf(other, none); r.Code != impl.OK || len(r.List) != 0 {
				t.Error(r)
			}
		}
	}
}

func TestQuorumsHangOnTheArgumentsAlone(t *testing.T) {
	for i := range int64(30) {
		impl.ChooseQuorum(firstKeys(8), i, i%8+1)
		impl.ChooseQuorum([]int64{5, 5}, i, 1)
		impl.RankOf(i+1, i)
		impl.NeedOf(i)
		impl.IsSafe(quorumOf(1, i, i), []int64{i})
		impl.MeetOf([]int64{i}, []int64{i})
		if r := impl.ChooseQuorum([]int64{5, 4, 3, 2, 1}, 7, 3); !sameQuorums(r, impl.QuorumResult{Quorum: quorumOf(3, 2, 3, 5)}) {
			t.Fatal(r)
		}
		if impl.RankOf(1, 0) != 40510 || impl.NeedOf(4) != (impl.IntResult{Value: 3}) {
			t.Fatal("what was asked ahead left a trace")
		}
		if impl.IsSafe(quorumOf(3, 1, 2, 3, 4), []int64{2, 3}) || !impl.CanLock(quorumOf(3, 1, 2, 3, 4), []int64{2}) {
			t.Fatal("what was asked ahead left a trace")
		}
		if r := impl.MeetOf([]int64{3, 1}, []int64{1, 2, 3}); !slices.Equal(r.List, []int64{3, 1}) {
			t.Fatal(r)
		}
	}
}
