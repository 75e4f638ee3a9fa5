package tests

import (
	"math"
	"math/rand"
	"slices"
	"testing"

	"loop.example/g00304/impl"
)

// The plain reading of chapter 13: what the program is held against.

func plainLockedBlocks(c impl.Cluster) impl.IntsResult {
	if code := plainClusterFault(c); code != impl.OK {
		return impl.IntsResult{Code: code}
	}
	var locked []int64
	for _, n := range c.Tree {
		if plainIsLocked(c.Votes, c.Quorum, blockVote(1, n.Id)) {
			locked = append(locked, n.Id)
		}
	}
	return impl.IntsResult{List: locked}
}

// plainLockedCoins lays all choices that were voted for side by side, each with who voted for it.
func plainLockedCoins(c impl.Cluster) impl.ChoicesResult {
	if code := plainClusterFault(c); code != impl.OK {
		return impl.ChoicesResult{Code: code}
	}
	var voted []impl.Choice
	who := map[impl.Choice][]int64{}
	for _, x := range c.Votes {
		if x.Kind != 2 {
			continue
		}
		choice := impl.Choice{Ref: x.Ref, Tx: x.Tx}
		if who[choice] == nil {
			voted = append(voted, choice)
		}
		who[choice] = append(who[choice], x.Key)
	}
	var locked []impl.Choice
	for _, choice := range voted {
		if int64(len(who[choice])) >= c.Quorum.Need {
			locked = append(locked, choice)
		}
	}
	return impl.ChoicesResult{Choices: locked}
}

func plainNoFork(c impl.Cluster) bool {
	locked := plainLockedBlocks(c)
	for _, a := range locked.List {
		for _, b := range locked.List {
			if !plainRelated(c.Tree, a, b) {
				return false
			}
		}
	}
	return locked.Code == impl.OK
}

func plainNoDouble(c impl.Cluster) bool {
	locked := plainLockedCoins(c)
	times := map[impl.Ref]int64{}
	for _, choice := range locked.Choices {
		times[choice.Ref]++
		if times[choice.Ref] > 1 {
			return false
		}
	}
	return locked.Code == impl.OK
}

func plainPremise(c impl.Cluster) bool {
	return plainClusterFault(c) == impl.OK && plainIsSafe(c.Quorum, c.Bad)
}

func plainBestFor(c impl.Cluster, hearer int64) impl.IntResult {
	locks := plainLocksAt(c, hearer)
	if locks.Code != impl.OK {
		return impl.IntResult{Code: locks.Code}
	}
	return plainBestOf(c.Tree, locks.List)
}

func plainVotedBy(c impl.Cluster, key int64) impl.IntsResult {
	if code := plainClusterFault(c); code != impl.OK {
		return impl.IntsResult{Code: code}
	}
	if !slices.Contains(c.Quorum.Keys, key) {
		return impl.IntsResult{Code: impl.ErrNone}
	}
	var blocks []int64
	for _, x := range c.Votes {
		if x.Key == key && x.Kind == 1 {
			blocks = append(blocks, x.Block)
		}
	}
	return impl.IntsResult{List: blocks}
}

func sameChoicesResults(a, b impl.ChoicesResult) bool {
	return a.Code == b.Code && slices.Equal(a.Choices, b.Choices)
}

// holdAudit holds all seven functions against the plain reading, and what was handed to them against what it was.
func holdAudit(t *testing.T, name string, c impl.Cluster) {
	t.Helper()
	was := sameCluster(c)
	if got, want := impl.LockedBlocks(c), plainLockedBlocks(c); !sameInts(got, want) {
		t.Fatalf("%s: LockedBlocks(%v) = %v, want %v", name, c, got, want)
	}
	if got, want := impl.LockedCoins(c), plainLockedCoins(c); !sameChoicesResults(got, want) {
		t.Fatalf("%s: LockedCoins(%v) = %v, want %v", name, c, got, want)
	}
	if got, want := impl.NoFork(c), plainNoFork(c); got != want {
		t.Fatalf("%s: NoFork(%v) = %v, want %v", name, c, got, want)
	}
	if got, want := impl.NoDouble(c), plainNoDouble(c); got != want {
		t.Fatalf("%s: NoDouble(%v) = %v, want %v", name, c, got, want)
	}
	if got, want := impl.PremiseOf(c), plainPremise(c); got != want {
		t.Fatalf("%s: PremiseOf(%v) = %v, want %v", name, c, got, want)
	}
	for hearer := int64(-1); hearer <= 4; hearer++ {
		if got, want := impl.BestFor(c, hearer), plainBestFor(c, hearer); got != want {
			t.Fatalf("%s: BestFor(%v, %d) = %v, want %v", name, c, hearer, got, want)
		}
	}
	for _, key := range slices.Concat(c.Quorum.Keys, c.Bad, []int64{-1, 0, 4, 999, 1000}) {
		if got, want := impl.VotedBy(c, key), plainVotedBy(c, key); !sameInts(got, want) {
			t.Fatalf("%s: VotedBy(%v, %d) = %v, want %v", name, c, key, got, want)
		}
	}
	if !sameClusters(c, was) {
		t.Fatalf("%s: an argument was changed: %v, it was %v", name, c, was)
	}
}

// votedCluster has voters that voted so, and one hearer that heard nothing.
func votedCluster(q impl.Quorum, bad []int64, tree []impl.Node, votes ...impl.Vote) impl.Cluster {
	c := impl.Cluster{Quorum: q, Bad: bad, Tree: tree, Votes: votes, Heard: [][]int64{nil}}
	for _, key := range plainGood(q, bad) {
		c.Voters = append(c.Voters, voterOf(key, 0))
	}
	for _, x := range votes {
		at := plainVoterOf(c, x.Key)
		if at < 0 {
			continue
		}
		v := &c.Voters[at]
		choice := impl.Choice{Ref: x.Ref, Tx: x.Tx}
		if x.Kind == impl.VoteCoin && !slices.Contains(v.Choices, choice) {
			v.Choices = append(v.Choices, choice)
		}
		if x.Kind == impl.VoteBlock && (v.Last == 0 || plainIsAbove(tree, v.Last, x.Block)) {
			v.Last = x.Block
		}
	}
	return c
}

// ofFour is a cluster of the keys 2, 3, 5 and 7, of which three are needed, with the wood as its tree.
func ofFour(bad []int64, votes ...impl.Vote) impl.Cluster {
	return votedCluster(quorumOf(3, 2, 3, 5, 7), bad, wood(), votes...)
}

func blockVotes(block int64, keys ...int64) []impl.Vote {
	var votes []impl.Vote
	for _, key := range keys {
		votes = append(votes, blockVote(key, block))
	}
	return votes
}

func coinVotes(refTx, at, tx int64, keys ...int64) []impl.Vote {
	var votes []impl.Vote
	for _, key := range keys {
		votes = append(votes, coinVote(key, refTx, at, tx))
	}
	return votes
}

func hearAll(c impl.Cluster) impl.Cluster {
	c.Heard = [][]int64{nil}
	for at := range c.Votes {
		c.Heard[0] = append(c.Heard[0], int64(at))
	}
	return c
}

// Promise 14: where not too many are bad, of two blocks that are locked one is above the other, and no coin is locked for two; who hears less locks less, and all who hear find best blocks that go together.

// holdLocks asks a cluster without a fault what is promised of its locks, in words of its own, and tells how much is locked.
func holdLocks(t *testing.T, c impl.Cluster) int {
	t.Helper()
	blocks, coins := impl.LockedBlocks(c).List, impl.LockedCoins(c).Choices
	for hearer := range int64(len(c.Heard)) {
		holdHearsLess(t, c, hearer, blocks)
	}
	if !impl.PremiseOf(c) {
		return 0
	}
	for i, a := range blocks {
		for _, b := range blocks[i+1:] {
			if !impl.IsAbove(c.Tree, a, b) && !impl.IsAbove(c.Tree, b, a) {
				t.Fatalf("%v: %d and %d are locked", c, a, b)
			}
		}
	}
	for i, a := range coins {
		for _, b := range coins[i+1:] {
			if a.Ref == b.Ref {
				t.Fatalf("%v: %v is locked for %d and for %d", c, a.Ref, a.Tx, b.Tx)
			}
		}
	}
	if !impl.NoFork(c) || !impl.NoDouble(c) {
		t.Fatalf("%v: %v %v", c, impl.NoFork(c), impl.NoDouble(c))
	}
	for one := range int64(len(c.Heard)) {
		for two := range int64(len(c.Heard)) {
			holdBestTogether(t, c, one, two)
		}
	}
	return len(blocks) + len(coins)
}

// holdHearsLess takes away what was heard from the last on: what is locked then was locked ahead of it, and all that is locked for one is locked by all Votes.
func holdHearsLess(t *testing.T, c impl.Cluster, hearer int64, locked []int64) {
	t.Helper()
	less := sameCluster(c)
	for more := locked; ; less.Heard[hearer] = less.Heard[hearer][:len(less.Heard[hearer])-1] {
		locks := impl.LocksAt(less, hearer).List
		if extra := without(locks, more); len(extra) > 0 {
			t.Fatalf("%v: who heard less locks %v more", less, extra)
		}
		more = locks
		if len(less.Heard[hearer]) == 0 {
			return
		}
	}
}

func without(list, gone []int64) []int64 {
	return slices.DeleteFunc(slices.Clone(list), func(x int64) bool { return slices.Contains(gone, x) })
}

// holdBestTogether: there is a best block for each hearer, behind all that is locked for it, and one that is behind all that is locked for both; two who have the same locks find the same.
func holdBestTogether(t *testing.T, c impl.Cluster, one, two int64) {
	t.Helper()
	first, second := impl.LocksAt(c, one).List, impl.LocksAt(c, two).List
	both := slices.Concat(first, without(second, first))
	if len(c.Tree) == 0 || len(both) > 20 {
		return
	}
	best, other := impl.BestFor(c, one), impl.BestFor(c, two)
	if best.Code != impl.OK || best.Value == 0 {
		t.Fatalf("%v: %d finds %v", c, one, best)
	}
	for _, lock := range first {
		if !impl.IsAbove(c.Tree, lock, best.Value) {
			t.Fatalf("%v: %d finds %d, and %d is locked", c, one, best.Value, lock)
		}
	}
	if slices.Equal(first, second) && best != other {
		t.Fatalf("%v: %d finds %d, and %d finds %d", c, one, best.Value, two, other.Value)
	}
	if common := impl.BestOf(c.Tree, both); common.Code != impl.OK || common.Value == 0 {
		t.Fatalf("%v: %v is locked for one, %v for the other one", c, first, second)
	}
}

// Two blocks of one height, three of four vote for one of them: it is locked, and best for ever, though the fourth one votes for the other one, and that grows.
func TestALockedBlockIsBestForEver(t *testing.T) {
	c := impl.NewCluster(quorumOf(3, 1, 2, 3, 4), []int64{4}, 2).Cluster
	for _, n := range nodesOf(9, 0, 1, 5, 9, 2, 6, 9, 2) {
		c = impl.GrowTree(c, n).Cluster
	}
	for _, key := range []int64{1, 2, 3} {
		if best := impl.BestFor(c, 0); best.Value != 5 {
			t.Fatal(best)
		}
		c = impl.CastAt(c, key, 6).Cluster
		c = impl.HearAt(c, 0, key-1).Cluster
	}
	c = impl.ForgeAt(c, blockVote(4, 5)).Cluster
	c = impl.HearAt(c, 0, 3).Cluster
	top := int64(5)
	for height := int64(3); height <= 12; height++ {
		holdAudit(t, "it grows", c)
		holdLocks(t, c)
		if locked := impl.LockedBlocks(c); !sameInts(locked, impl.IntsResult{List: []int64{6}}) {
			t.Fatal(locked)
		}
		if best := impl.BestFor(c, 0); best != (impl.IntResult{Value: 6}) {
			t.Fatalf("who heard of the lock finds %v", best)
		}
		if best := impl.BestFor(c, 1); best != (impl.IntResult{Value: top}) {
			t.Fatalf("who heard of nothing finds %v", best)
		}
		c = impl.GrowTree(c, impl.Node{Id: height + 20, Prev: top, Height: height}).Cluster
		top = height + 20
	}
	c = impl.GrowTree(c, impl.Node{Id: 8, Prev: 6, Height: 3}).Cluster
	if best := impl.BestFor(c, 0); best != (impl.IntResult{Value: 8}) {
		t.Error(best)
	}
}

// Each quorum of up to 4, each lot of bad ones who vote for all there is, and each way in which the others vote for one of two or for none: two are locked just where too many are bad, and then there is a way to it.
func TestTwoAreLockedJustWhereTooManyAreBad(t *testing.T) {
	tree := nodesOf(9, 0, 1, 5, 9, 2, 6, 9, 2)
	for n := 1; n <= 4; n++ {
		for need := int64(1); need <= int64(n); need++ {
			for badSet := range 1 << n {
				q, bad := quorumOf(need, firstKeys(n)...), keysIn(firstKeys(n), badSet)
				forks, doubles, safe := 0, 0, plainIsSafe(q, bad)
				eachWayToVote(q.Keys, bad, func(votes []impl.Vote) {
					c := hearAll(votedCluster(q, bad, tree, votes...))
					holdAudit(t, "one of two", c)
					holdLocks(t, c)
					if impl.PremiseOf(c) != safe {
						t.Fatalf("%v %v: %v", q, bad, !safe)
					}
					forks += countFalse(impl.NoFork(c))
					doubles += countFalse(impl.NoDouble(c))
				})
				if safe != (forks == 0) || safe != (doubles == 0) {
					t.Fatalf("%v with %v bad: %d forks, %d coins locked for two", q, bad, forks, doubles)
				}
			}
		}
	}
}

func countFalse(is bool) int {
	if is {
		return 0
	}
	return 1
}

// eachWayToVote: who is good votes for the block 5 and of 1:0 for 5, or for 6 and for 6, or not at all; who is bad for both.
func eachWayToVote(keys, bad []int64, tell func([]impl.Vote)) {
	if len(keys) == 0 {
		tell(nil)
		return
	}
	ways := [][]int64{nil, {5}, {6}}
	if slices.Contains(bad, keys[0]) {
		ways = [][]int64{{5, 6}}
	}
	eachWayToVote(keys[1:], bad, func(others []impl.Vote) {
		for _, way := range ways {
			votes := slices.Clone(others)
			for _, block := range way {
				votes = append(votes, blockVote(keys[0], block), coinVote(keys[0], 1, 0, block))
			}
			tell(votes)
		}
	})
}

// Each two lots of what is heard, one of them in the other one: what the lesser one locks the greater one does, and so do all Votes.
func TestWhoHearsLessLocksLess(t *testing.T) {
	votes := slices.Concat(blockVotes(7, 2, 3, 5), blockVotes(3, 7, 5), blockVotes(9, 2, 3, 5))
	c := ofFour([]int64{5}, votes...)
	all := impl.LockedBlocks(c).List
	if !slices.Equal(all, []int64{7, 9}) {
		t.Fatal(all)
	}
	places := []int64{0, 1, 2, 3, 4, 5, 6, 7}
	locks := make([][]int64, 1<<len(places))
	best := make([]int64, 1<<len(places))
	for set := range locks {
		c.Heard[0] = keysIn(places, set)
		locks[set] = impl.LocksAt(c, 0).List
		best[set] = impl.BestFor(c, 0).Value
		if extra := without(locks[set], all); len(extra) > 0 {
			t.Fatalf("%v are locked for one who heard %v", extra, c.Heard[0])
		}
		for less := range set {
			if less&set == less && len(without(locks[less], locks[set])) > 0 {
				t.Fatalf("%v is locked by %v, and %v by %v", locks[less], keysIn(places, less), locks[set], c.Heard[0])
			}
			for _, lock := range locks[less] {
				if less&set == less && !impl.IsAbove(c.Tree, lock, best[set]) {
					t.Fatalf("%d is locked for one who heard less, and %d is best", lock, best[set])
				}
			}
		}
	}
}

// All ways of up to 3 steps from two new clusters on, and of these behind one that has a tree and votes.
func TestAuditOfAllShortWays(t *testing.T) {
	var walk func(c impl.Cluster, left int)
	walk = func(c impl.Cluster, left int) {
		holdAudit(t, "a short way", c)
		holdLocks(t, c)
		if left == 0 {
			return
		}
		for _, step := range smallSteps() {
			if r, _ := step(t, c); r.Code == impl.OK {
				walk(r.Cluster, left-1)
			}
		}
	}
	walk(impl.NewCluster(quorumOf(2, 1, 2), []int64{2}, 1).Cluster, 3)
	walk(impl.NewCluster(quorumOf(1, 1, 2, 3), []int64{2, 9}, 2).Cluster, 2)
	grown := impl.NewCluster(quorumOf(2, 1, 2, 3), []int64{2}, 2).Cluster
	for _, n := range nodesOf(1, 0, 1, 2, 1, 2) {
		grown = impl.GrowTree(grown, n).Cluster
	}
	walk(impl.ChooseAt(impl.CastAt(grown, 3, 1).Cluster, 3, impl.Ref{Tx: 1}, 4).Cluster, 3)
}

// tightWalk has few blocks and few coins, so that much is locked.
type tightWalk struct {
	dice *rand.Rand
	c    impl.Cluster
}

func newTightWalk(dice *rand.Rand) *tightWalk {
	n := 1 + dice.Intn(6)
	q := quorumOf(impl.NeedOf(int64(n)).Value, firstKeys(n)...)
	if dice.Intn(3) == 0 {
		q.Need = 1 + dice.Int63n(int64(n))
	}
	bad := keysIn(firstKeys(n), dice.Intn(1<<n)&dice.Intn(1<<n))
	if dice.Intn(3) == 0 {
		bad = append(bad, 900)
	}
	w := &tightWalk{dice: dice, c: impl.NewCluster(q, bad, 1+dice.Int63n(4)).Cluster}
	for _, node := range randomTree(dice, 1+dice.Intn(9)) {
		w.c = impl.GrowTree(w.c, node).Cluster
	}
	return w
}

func (w *tightWalk) step() impl.ClusterResult {
	keys := w.c.Quorum.Keys
	key := keys[w.dice.Intn(len(keys))]
	x := blockVote(key, w.c.Tree[w.dice.Intn(len(w.c.Tree))].Id)
	if w.dice.Intn(3) == 0 {
		x = coinVote(key, 1, w.dice.Int63n(2), 1+w.dice.Int63n(2))
	}
	switch {
	case w.dice.Intn(2) == 0:
		return impl.HearAt(w.c, w.dice.Int63n(int64(len(w.c.Heard))), w.dice.Int63n(int64(len(w.c.Votes))+1))
	case slices.Contains(w.c.Bad, key):
		return impl.ForgeAt(w.c, x)
	case x.Kind == impl.VoteBlock:
		return impl.CastAt(w.c, key, x.Block)
	default:
		return impl.ChooseAt(w.c, key, x.Ref, x.Tx)
	}
}

// holdVotedStays: who voted has voted for ever, one behind the other, and who is not bad for blocks of one path.
func holdVotedStays(t *testing.T, was, c impl.Cluster) {
	t.Helper()
	for _, key := range c.Quorum.Keys {
		before, now := impl.VotedBy(was, key).List, impl.VotedBy(c, key).List
		if len(now) < len(before) || !slices.Equal(now[:len(before)], before) {
			t.Fatalf("%d voted for %v, and then for %v", key, before, now)
		}
		if slices.Contains(c.Bad, key) {
			continue
		}
		for i := 1; i < len(now); i++ {
			if now[i] == now[i-1] || !impl.IsAbove(c.Tree, now[i-1], now[i]) {
				t.Fatalf("%d voted for %v, which are not of one path", key, now)
			}
		}
	}
}

// holdLocksStay: what was locked stays locked, in its order.
func holdLocksStay(t *testing.T, was, c impl.Cluster) {
	t.Helper()
	blocks := impl.LockedBlocks(c).List
	if gone := without(impl.LockedBlocks(was).List, blocks); len(gone) > 0 {
		t.Fatalf("%v are locked no more", gone)
	}
	coins := impl.LockedCoins(c).Choices
	for _, choice := range impl.LockedCoins(was).Choices {
		if !slices.Contains(coins, choice) {
			t.Fatalf("%v is locked no more", choice)
		}
	}
}

func TestAuditOfRandomWays(t *testing.T) {
	dice := rand.New(rand.NewSource(13))
	var locked, forks, doubles int
	for range 250 {
		w := newTightWalk(dice)
		for i := range 120 {
			was := w.c
			r := w.step()
			if r.Code != impl.OK {
				continue
			}
			w.c = r.Cluster
			holdVotedStays(t, was, w.c)
			holdLocksStay(t, was, w.c)
			if i%20 == 0 {
				holdAudit(t, "a random way", w.c)
				holdLocks(t, w.c)
			}
		}
		holdAudit(t, "a random way", w.c)
		locked += holdLocks(t, w.c)
		forks += countFalse(impl.NoFork(w.c))
		doubles += countFalse(impl.NoDouble(w.c))
	}
	if locked < 100 || forks < 20 || doubles < 20 {
		t.Errorf("%d are locked where not too many are bad, %d forks and %d coins locked for two else: the ways are too tame", locked, forks, doubles)
	}
}

func TestAuditOfLongWays(t *testing.T) {
	dice := rand.New(rand.NewSource(15))
	for range 20 {
		w := newClusterWalk(dice)
		for range 400 {
			was := w.c
			if r, _ := w.step(t); r.Code == impl.OK {
				w.c = r.Cluster
				holdVotedStays(t, was, w.c)
			}
		}
		holdAudit(t, "a long way", w.c)
		holdLocks(t, w.c)
	}
}

// The edges that the document names, and wrong inputs.

// Each of the seven tells the fault ahead of all else, whatever it is asked, and nothing beside it.
func TestAuditOfWrongClusters(t *testing.T) {
	told := map[int64]bool{}
	for _, row := range slices.Concat(wrongClusters(), clustersWithTwoFaults()) {
		told[row.code] = true
		c := row.cluster
		holdAudit(t, row.name, c)
		for _, key := range []int64{2, 4, 5, 7, 900, math.MinInt64, math.MaxInt64} {
			if r := impl.VotedBy(c, key); !sameInts(r, impl.IntsResult{Code: row.code}) {
				t.Errorf("%s: VotedBy %d: %v", row.name, key, r)
			}
		}
		for _, hearer := range []int64{0, 2, 3, -1, math.MinInt64, math.MaxInt64} {
			if r := impl.BestFor(c, hearer); r != (impl.IntResult{Code: row.code}) {
				t.Errorf("%s: BestFor %d: %v", row.name, hearer, r)
			}
		}
		if r := impl.LockedBlocks(c); !sameInts(r, impl.IntsResult{Code: row.code}) {
			t.Errorf("%s: LockedBlocks: %v", row.name, r)
		}
		if r := impl.LockedCoins(c); !sameChoicesResults(r, impl.ChoicesResult{Code: row.code}) {
			t.Errorf("%s: LockedCoins: %v", row.name, r)
		}
		if impl.NoFork(c) || impl.NoDouble(c) || impl.PremiseOf(c) {
			t.Errorf("%s: NoFork %v, NoDouble %v, PremiseOf %v", row.name, impl.NoFork(c), impl.NoDouble(c), impl.PremiseOf(c))
		}
	}
	for _, code := range []int64{impl.ErrForm, impl.ErrMany, impl.ErrRange, impl.ErrNone, impl.ErrSign, impl.ErrTaken} {
		if !told[code] {
			t.Errorf("no cluster has the fault %d", code)
		}
	}
}

func TestAuditOfRightClusters(t *testing.T) {
	for _, row := range rightClusters() {
		holdAudit(t, row.name, row.cluster)
		holdLocks(t, row.cluster)
	}
}

// A cluster that would lock but for its fault: with the fault nothing is told of it.
func TestAFaultHidesTheLocks(t *testing.T) {
	right := ofFour([]int64{5}, slices.Concat(blockVotes(7, 2, 3, 7), coinVotes(1, 0, 4, 2, 3, 7))...)
	if len(impl.LockedBlocks(right).List) != 1 || len(impl.LockedCoins(right).Choices) != 1 || !impl.PremiseOf(right) || !impl.NoFork(right) || !impl.NoDouble(right) {
		t.Fatal(right)
	}
	for _, row := range []clusterChange{
		{"a place that is none", impl.ErrRange, func(c *impl.Cluster) { c.Heard[0] = []int64{6} }},
		{"a place twice", impl.ErrTaken, func(c *impl.Cluster) { c.Heard[0] = []int64{5, 5} }},
		{"no hearers", impl.ErrMany, func(c *impl.Cluster) { c.Heard = nil }},
		{"a vote that was not given", impl.ErrSign, func(c *impl.Cluster) { c.Votes = append(c.Votes, blockVote(2, 9)) }},
		{"a vote of one who is not of the quorum", impl.ErrNone, func(c *impl.Cluster) { c.Votes = append(c.Votes, blockVote(4, 9)) }},
		{"voters that are not just those", impl.ErrForm, func(c *impl.Cluster) { c.Voters = c.Voters[1:] }},
	} {
		c := sameCluster(right)
		row.change(&c)
		holdAudit(t, row.name, c)
		if r := impl.LockedBlocks(c); !sameInts(r, impl.IntsResult{Code: row.code}) {
			t.Errorf("%s: %v", row.name, r)
		}
		if r := impl.LockedCoins(c); !sameChoicesResults(r, impl.ChoicesResult{Code: row.code}) {
			t.Errorf("%s: %v", row.name, r)
		}
		if impl.NoFork(c) || impl.NoDouble(c) || impl.PremiseOf(c) {
			t.Errorf("%s: a bool is told", row.name)
		}
	}
}

func TestLockedBlocks(t *testing.T) {
	one := []int64{5}
	for _, row := range []struct {
		name    string
		cluster impl.Cluster
		want    []int64
	}{
		{"no votes", ofFour(one), nil},
		{"one vote", ofFour(one, blockVotes(7, 2)...), nil},
		{"one less than Need", ofFour(one, blockVotes(7, 2, 3)...), nil},
		{"one less than Need, one of them Bad", ofFour(one, blockVotes(7, 2, 5)...), nil},
		{"just Need", ofFour(one, blockVotes(7, 2, 3, 7)...), []int64{7}},
		{"just Need, one of them Bad", ofFour(one, blockVotes(7, 5, 3, 7)...), []int64{7}},
		{"just Need, the first of the quorum is not of them", ofFour(nil, blockVotes(7, 3, 5, 7)...), []int64{7}},
		{"more than Need", ofFour(one, blockVotes(7, 2, 3, 5, 7)...), []int64{7}},
		{"just Need, all Bad", ofFour([]int64{2, 3, 5, 7}, blockVotes(7, 2, 3, 5)...), []int64{7}},
		{"three votes of two", ofFour([]int64{2, 3}, slices.Concat(blockVotes(7, 2, 3), blockVotes(3, 2))...), nil},
		{"three votes for three of one path", ofFour(nil, blockVote(2, 7), blockVote(3, 3), blockVote(7, 9)), nil},
		{"what is above one that is locked is not", ofFour(nil, blockVotes(9, 2, 3, 7)...), []int64{9}},
		{"a block that is not in the tree", ofFour([]int64{2, 3, 5, 7}, blockVotes(4, 2, 3, 5, 7)...), nil},
		{"a block that is not in the tree, ahead of one that is", ofFour([]int64{2, 3, 5, 7}, slices.Concat(blockVotes(4, 2, 3, 5, 7), blockVotes(8, 2, 3, 5))...), []int64{8}},
		{"in the order of the tree", ofFour(nil, slices.Concat(blockVotes(20, 2, 3, 7), blockVotes(3, 7, 3, 2), blockVotes(9, 2, 3, 7), blockVotes(7, 3, 2, 7))...), []int64{7, 3, 9, 20}},
		{"in the order of the tree, of two branches", ofFour([]int64{2, 3, 5}, slices.Concat(blockVotes(60, 2, 3, 5), blockVotes(1, 2, 3, 5), blockVotes(2, 2, 3, 5), blockVotes(40, 2, 3, 5))...), []int64{40, 2, 60, 1}},
		{"votes of coins alone", ofFour(nil, coinVotes(7, 0, 7, 2, 3, 7)...), nil},
		{"votes of coins beside them", ofFour(nil, slices.Concat(blockVotes(7, 2, 3), coinVotes(7, 0, 7, 2, 3, 7))...), nil},
		{"a tree with no block", votedCluster(quorumOf(1, 1), []int64{1}, nil, blockVotes(1, 1)...), nil},
		{"Need 1", votedCluster(quorumOf(1, 1, 2), nil, wood(), blockVotes(9, 2)...), []int64{9}},
		{"Need 8 of 8", votedCluster(quorumOf(8, firstKeys(8)...), nil, wood(), blockVotes(9, firstKeys(8)...)...), []int64{9}},
		{"7 where 8 are needed", votedCluster(quorumOf(8, firstKeys(8)...), nil, wood(), blockVotes(9, firstKeys(7)...)...), nil},
	} {
		for _, c := range []impl.Cluster{row.cluster, hearAll(row.cluster)} {
			holdAudit(t, row.name, c)
			if r := impl.LockedBlocks(c); !sameInts(r, impl.IntsResult{List: row.want}) {
				t.Errorf("%s: %v, want %v", row.name, r, row.want)
			}
		}
		if r := impl.LocksAt(hearAll(row.cluster), 0); !sameInts(r, impl.IntsResult{List: row.want}) {
			t.Errorf("%s: who heard all locks %v, want %v", row.name, r, row.want)
		}
		if r := impl.LocksAt(row.cluster, 0); len(r.List) != 0 {
			t.Errorf("%s: who heard nothing locks %v", row.name, r)
		}
	}
}

func TestLockedCoins(t *testing.T) {
	one, two := []int64{5}, []int64{3, 5}
	for _, row := range []struct {
		name    string
		cluster impl.Cluster
		want    []impl.Choice
	}{
		{"no votes", ofFour(one), nil},
		{"one less than Need", ofFour(one, coinVotes(1, 0, 4, 2, 3)...), nil},
		{"just Need", ofFour(one, coinVotes(1, 0, 4, 2, 3, 7)...), choicesOf(1, 0, 4)},
		{"just Need, one of them Bad", ofFour(one, coinVotes(1, 0, 4, 5, 3, 7)...), choicesOf(1, 0, 4)},
		{"more than Need: told once", ofFour(one, coinVotes(1, 0, 4, 2, 3, 5, 7)...), choicesOf(1, 0, 4)},
		{"just Need, all Bad", ofFour([]int64{2, 3, 5, 7}, coinVotes(1, 0, 4, 2, 3, 5)...), choicesOf(1, 0, 4)},
		{"one Ref for one of two", ofFour(one, slices.Concat(coinVotes(1, 0, 4, 2, 3, 5), coinVotes(1, 0, 9, 5, 7))...), choicesOf(1, 0, 4)},
		{"one Ref for two", ofFour(two, slices.Concat(coinVotes(1, 0, 9, 3, 5, 7), coinVotes(1, 0, 4, 2, 3, 5))...), choicesOf(1, 0, 9, 1, 0, 4)},
		{"one Ref for none of two", ofFour(nil, slices.Concat(coinVotes(1, 0, 4, 2, 3), coinVotes(1, 0, 9, 5, 7))...), nil},
		{"two Refs of one Tx", ofFour(nil, slices.Concat(coinVotes(2, 0, 4, 2, 3, 7), coinVotes(1, 0, 4, 7, 3, 5))...), choicesOf(2, 0, 4, 1, 0, 4)},
		{"two Refs that differ in At alone", ofFour(nil, slices.Concat(coinVotes(1, 3, 4, 2, 3, 7), coinVotes(1, 0, 4, 7, 3, 5))...), choicesOf(1, 3, 4, 1, 0, 4)},
		{"three votes that differ in At", ofFour(nil, coinVote(2, 1, 0, 4), coinVote(3, 1, 1, 4), coinVote(7, 1, 2, 4)), nil},
		{"three votes that differ in the Ref's Tx", ofFour(nil, coinVote(2, 1, 0, 4), coinVote(3, 2, 0, 4), coinVote(7, 3, 0, 4)), nil},
		{"three votes that differ in Tx", ofFour(nil, coinVote(2, 1, 0, 4), coinVote(3, 1, 0, 5), coinVote(7, 1, 0, 6)), nil},
		{"in the order of the first votes, not of the locks", ofFour(nil, slices.Concat(coinVotes(9, 0, 1, 2), coinVotes(1, 0, 4, 2, 3, 7), coinVotes(9, 0, 1, 3, 7))...), choicesOf(9, 0, 1, 1, 0, 4)},
		{"in the order of the first votes, with one between them that is not locked", ofFour(one, slices.Concat(coinVotes(9, 0, 1, 5), coinVotes(5, 0, 1, 5), coinVotes(1, 0, 4, 2, 3, 7), coinVotes(5, 0, 1, 2), coinVotes(9, 0, 1, 3, 7))...), choicesOf(9, 0, 1, 1, 0, 4)},
		{"votes of blocks alone", ofFour(nil, blockVotes(7, 2, 3, 7)...), nil},
		{"a vote of a block beside them", ofFour(nil, slices.Concat(blockVotes(7, 7), coinVotes(1, 0, 7, 2, 3))...), nil},
		{"a vote of a block ahead and behind", ofFour(nil, slices.Concat(blockVotes(7, 7, 3, 2), coinVotes(1, 0, 4, 2, 3, 7), blockVotes(3, 7))...), choicesOf(1, 0, 4)},
		{"a coin for what it comes from", ofFour(nil, coinVotes(60, 3, 60, 2, 3, 7)...), choicesOf(60, 3, 60)},
		{"Need 1", votedCluster(quorumOf(1, 1, 2), nil, nil, coinVotes(1, 0, 4, 2)...), choicesOf(1, 0, 4)},
		{"100 votes of one who is Bad, Need 1", votedCluster(quorumOf(1, 5), one, nil, forgedVotes(100)...), forgedChoices(100)},
		{"50 votes each of two", votedCluster(quorumOf(2, 5, 6), []int64{5, 6}, nil, slices.Concat(forgedVotes(50), asKey(6, forgedVotes(50)))...), forgedChoices(50)},
	} {
		for _, c := range []impl.Cluster{row.cluster, hearAll(row.cluster)} {
			holdAudit(t, row.name, c)
			if r := impl.LockedCoins(c); !sameChoicesResults(r, impl.ChoicesResult{Choices: row.want}) {
				t.Errorf("%s: %v, want %v", row.name, r, row.want)
			}
		}
	}
}

func forgedChoices(n int) []impl.Choice {
	var choices []impl.Choice
	for _, x := range forgedVotes(n) {
		choices = append(choices, impl.Choice{Ref: x.Ref, Tx: x.Tx})
	}
	return choices
}

// asKey turns the votes to those of another key, in the other order.
func asKey(key int64, votes []impl.Vote) []impl.Vote {
	slices.Reverse(votes)
	for i := range votes {
		votes[i].Key = key
	}
	return votes
}

func TestNoFork(t *testing.T) {
	most := []int64{2, 3, 5}
	locked := func(blocks ...int64) impl.Cluster {
		var votes []impl.Vote
		for _, block := range blocks {
			votes = append(votes, blockVotes(block, most...)...)
		}
		return ofFour(most, votes...)
	}
	for _, row := range []struct {
		name    string
		cluster impl.Cluster
		want    bool
	}{
		{"no votes", ofFour(nil), true},
		{"no tree", votedCluster(quorumOf(1, 1), []int64{1}, nil, blockVotes(1, 1)...), true},
		{"none that is locked", ofFour(nil, slices.Concat(blockVotes(20, 2, 3), blockVotes(60, 5, 7))...), true},
		{"one", locked(9), true},
		{"one, and one beside it that has less than Need", ofFour([]int64{5}, slices.Concat(blockVotes(5, 2, 3, 5), blockVotes(3, 5, 7))...), true},
		{"two of one path", locked(7, 3), true},
		{"two of one path, not side by side", locked(20, 7), true},
		{"four of one path", locked(20, 9, 3, 7), true},
		{"two of one height", locked(3, 5), false},
		{"two of two heights that go apart", locked(5, 9), false},
		{"two of two first nodes", locked(7, 40), false},
		{"two behind two first nodes", locked(1, 20), false},
		{"three, the last two of which go apart", locked(7, 3, 5), false},
		{"four, of which one goes apart", locked(7, 3, 9, 2), false},
		{"two that go apart, one of which is not in the tree", locked(4, 9), true},
		{"two of one path, one of those bad votes for another one", ofFour(most, slices.Concat(blockVotes(7, most...), blockVotes(3, most...), blockVotes(40, 2, 3))...), true},
	} {
		for _, c := range []impl.Cluster{row.cluster, hearAll(row.cluster)} {
			holdAudit(t, row.name, c)
			if got := impl.NoFork(c); got != row.want {
				t.Errorf("%s: %v", row.name, got)
			}
		}
	}
}

func TestNoDouble(t *testing.T) {
	most := []int64{2, 3, 5}
	locked := func(numbers ...int64) impl.Cluster {
		var votes []impl.Vote
		for _, c := range choicesOf(numbers...) {
			votes = append(votes, coinVotes(c.Ref.Tx, c.Ref.At, c.Tx, most...)...)
		}
		return ofFour(most, votes...)
	}
	for _, row := range []struct {
		name    string
		cluster impl.Cluster
		want    bool
	}{
		{"no votes", ofFour(nil), true},
		{"votes of blocks alone", ofFour(most, slices.Concat(blockVotes(3, most...), blockVotes(5, most...))...), true},
		{"one", locked(1, 0, 4), true},
		{"one Ref for two Txs", locked(1, 0, 4, 1, 0, 5), false},
		{"one Ref for two Txs, not side by side", locked(1, 0, 4, 2, 0, 4, 1, 0, 5), false},
		{"the last two of three", locked(2, 0, 4, 1, 0, 4, 1, 0, 5), false},
		{"two Refs for one Tx", locked(1, 0, 4, 2, 0, 4), true},
		{"two Refs for two Txs", locked(1, 0, 4, 2, 0, 5), true},
		{"two Refs that differ in At alone", locked(1, 0, 4, 1, 1, 5), true},
		{"one Ref for two Txs, one of which has less than Need", ofFour(most, slices.Concat(coinVotes(1, 0, 4, most...), coinVotes(1, 0, 5, 2, 3))...), true},
		{"one Ref that many voted for", ofFour(most, coinVotes(1, 0, 4, 2, 3, 5, 7)...), true},
	} {
		for _, c := range []impl.Cluster{row.cluster, hearAll(row.cluster)} {
			holdAudit(t, row.name, c)
			if got := impl.NoDouble(c); got != row.want {
				t.Errorf("%s: %v", row.name, got)
			}
		}
	}
}

func TestPremiseOf(t *testing.T) {
	for _, row := range []struct {
		name   string
		quorum impl.Quorum
		bad    []int64
		want   bool
	}{
		{"3 of 4, none", quorumOf(3, 2, 3, 5, 7), nil, true},
		{"3 of 4, just so many", quorumOf(3, 2, 3, 5, 7), []int64{5}, true},
		{"3 of 4, one more", quorumOf(3, 2, 3, 5, 7), []int64{5, 7}, false},
		{"3 of 4, all", quorumOf(3, 2, 3, 5, 7), []int64{2, 3, 5, 7}, false},
		{"3 of 4, Bad that are not of it", quorumOf(3, 2, 3, 5, 7), []int64{1, 4, 6, 8, 900, 999}, true},
		{"3 of 4, just so many beside others", quorumOf(3, 2, 3, 5, 7), []int64{1, 4, 5, 6, 8}, true},
		{"3 of 4, one more beside others", quorumOf(3, 2, 3, 5, 7), []int64{1, 2, 4, 5, 6}, false},
		{"3 of 4, 20 Bad that are not of it", quorumOf(3, 21, 22, 23, 24), firstKeys(20), true},
		{"2 of 4, none", quorumOf(2, 2, 3, 5, 7), nil, false},
		{"1 of 4, none", quorumOf(1, 2, 3, 5, 7), nil, false},
		{"4 of 4, three", quorumOf(4, 2, 3, 5, 7), []int64{2, 3, 5}, true},
		{"4 of 4, four", quorumOf(4, 2, 3, 5, 7), []int64{2, 3, 5, 7}, false},
		{"1 of 1, none", quorumOf(1, 9), nil, true},
		{"1 of 1, it is", quorumOf(1, 9), []int64{9}, false},
		{"5 of 7, two", quorumOf(5, firstKeys(7)...), []int64{3, 7}, true},
		{"5 of 7, three", quorumOf(5, firstKeys(7)...), []int64{1, 3, 7}, false},
		{"8 of 8, seven", quorumOf(8, firstKeys(8)...), firstKeys(7), true},
		{"8 of 8, eight", quorumOf(8, firstKeys(8)...), firstKeys(8), false},
	} {
		c := votedCluster(row.quorum, row.bad, wood())
		holdAudit(t, row.name, c)
		if got := impl.PremiseOf(c); got != row.want || impl.IsSafe(row.quorum, row.bad) != row.want {
			t.Errorf("%s: %v", row.name, got)
		}
		c.Heard = nil
		if impl.PremiseOf(c) {
			t.Errorf("%s: true of a cluster with a fault", row.name)
		}
	}
}

// lockedLine: one, who is needed alone, voted for the first n of a line of 40.
func lockedLine(n int) impl.Cluster {
	var votes []impl.Vote
	for _, node := range line(n) {
		votes = append(votes, blockVote(3, node.Id))
	}
	return hearAll(votedCluster(quorumOf(1, 3), nil, line(40), votes...))
}

func TestBestFor(t *testing.T) {
	most := []int64{2, 3, 5}
	heard := func(places ...[]int64) impl.Cluster {
		c := ofFour(most, slices.Concat(blockVotes(5, most...), blockVotes(9, most...), blockVotes(8, most...), blockVotes(3, 2, 7))...)
		c.Heard = places
		return c
	}
	empty := hearAll(votedCluster(quorumOf(1, 5), []int64{5}, nil, blockVotes(7, 5)...))
	apart := hearAll(votedCluster(quorumOf(1, 5), []int64{5}, firstNodes(21), eachBlock(5, firstNodes(21))...))
	for _, row := range []struct {
		name    string
		cluster impl.Cluster
		hearer  int64
		want    impl.IntResult
	}{
		{"one who heard nothing", heard(nil), 0, impl.IntResult{Value: 20}},
		{"one who heard less than Need", heard([]int64{0, 1, 9}), 0, impl.IntResult{Value: 20}},
		{"one who heard of a lock", heard([]int64{2, 0, 1}), 0, impl.IntResult{Value: 60}},
		{"one who heard of another one", heard([]int64{8, 7, 6}), 0, impl.IntResult{Value: 1}},
		{"one who heard of one that goes with the highest", heard([]int64{3, 4, 5}), 0, impl.IntResult{Value: 20}},
		{"locks that do not go together", heard([]int64{0, 1, 2, 3, 4, 5}), 0, impl.IntResult{}},
		{"locks of two first nodes", heard([]int64{0, 1, 2, 6, 7, 8}), 0, impl.IntResult{}},
		{"all heard", hearAll(heard(nil)), 0, impl.IntResult{}},
		{"the first of four", heard([]int64{0, 1, 2}, nil, nil, nil), 0, impl.IntResult{Value: 60}},
		{"the second of four", heard([]int64{0, 1, 2}, nil, nil, nil), 1, impl.IntResult{Value: 20}},
		{"the last of four", heard(nil, nil, nil, []int64{6, 7, 8}), 3, impl.IntResult{Value: 1}},
		{"behind the last of four", heard(nil, nil, nil, []int64{6, 7, 8}), 4, impl.IntResult{Code: impl.ErrRange}},
		{"behind the last of one", heard([]int64{0, 1, 2}), 1, impl.IntResult{Code: impl.ErrRange}},
		{"the hearer -1", heard([]int64{0, 1, 2}), -1, impl.IntResult{Code: impl.ErrRange}},
		{"the lowest hearer there is", heard([]int64{0, 1, 2}), math.MinInt64, impl.IntResult{Code: impl.ErrRange}},
		{"the highest hearer there is", heard([]int64{0, 1, 2}), math.MaxInt64, impl.IntResult{Code: impl.ErrRange}},
		{"a tree with no block", empty, 0, impl.IntResult{}},
		{"a tree with no block, no such hearer", empty, 1, impl.IntResult{Code: impl.ErrRange}},
		{"20 locks of one path", lockedLine(20), 0, impl.IntResult{Value: 21}},
		{"21 locks of one path", lockedLine(21), 0, impl.IntResult{Code: impl.ErrMany}},
		{"40 locks of one path", lockedLine(40), 0, impl.IntResult{Code: impl.ErrMany}},
		{"21 locks that do not go together", apart, 0, impl.IntResult{Code: impl.ErrMany}},
		{"21 locks, no such hearer", apart, 1, impl.IntResult{Code: impl.ErrRange}},
	} {
		holdAudit(t, row.name, row.cluster)
		if r := impl.BestFor(row.cluster, row.hearer); r != row.want {
			t.Errorf("%s: %v, want %v", row.name, r, row.want)
		}
	}
	if r := impl.LockedBlocks(lockedLine(40)); r.Code != impl.OK || len(r.List) != 40 || !impl.NoFork(lockedLine(40)) {
		t.Errorf("what is locked has no bound: %v", r)
	}
}

func eachBlock(key int64, tree []impl.Node) []impl.Vote {
	var votes []impl.Vote
	for _, n := range tree {
		votes = append(votes, blockVote(key, n.Id))
	}
	return votes
}

func TestVotedBy(t *testing.T) {
	c := ofFour([]int64{5, 900}, blockVote(5, 60), blockVote(2, 7), coinVote(3, 1, 0, 4), blockVote(5, 4), blockVote(2, 9), coinVote(5, 1, 0, 9), blockVote(2, 3), coinVote(3, 2, 0, 4), coinVote(2, 1, 0, 7), blockVote(5, 7))
	for _, row := range []struct {
		name string
		key  int64
		want impl.IntsResult
	}{
		{"several, in the order of Votes", 2, impl.IntsResult{List: []int64{7, 9, 3}}},
		{"one who voted for coins alone", 3, impl.IntsResult{}},
		{"one who is Bad, for one that is not in the tree too", 5, impl.IntsResult{List: []int64{60, 4, 7}}},
		{"one who voted for nothing", 7, impl.IntsResult{}},
		{"one who is not of the quorum", 4, impl.IntsResult{Code: impl.ErrNone}},
		{"one who is Bad and not of the quorum", 900, impl.IntsResult{Code: impl.ErrNone}},
		{"the key 0", 0, impl.IntsResult{Code: impl.ErrNone}},
		{"the key -1", -1, impl.IntsResult{Code: impl.ErrNone}},
		{"the key 1000", 1000, impl.IntsResult{Code: impl.ErrNone}},
		{"the lowest key there is", math.MinInt64, impl.IntsResult{Code: impl.ErrNone}},
		{"the highest key there is", math.MaxInt64, impl.IntsResult{Code: impl.ErrNone}},
	} {
		for _, c := range []impl.Cluster{c, hearAll(c)} {
			holdAudit(t, row.name, c)
			if r := impl.VotedBy(c, row.key); !sameInts(r, row.want) {
				t.Errorf("%s: %v, want %v", row.name, r, row.want)
			}
		}
	}
	many := votedCluster(quorumOf(2, 5, 6), []int64{5, 6}, nil, slices.Concat(eachBlock(5, firstNodes(60)), eachBlock(6, firstNodes(40)))...)
	if r := impl.VotedBy(many, 5); r.Code != impl.OK || len(r.List) != 60 || r.List[59] != 60 {
		t.Error(r)
	}
	holdAudit(t, "100 votes", many)
}

// Promise 1: memory, nil and empty, the same again.

func TestAuditsChangeNothing(t *testing.T) {
	for _, row := range append(wrongClusters(), rightClusters()...) {
		c := roomyCluster(row.cluster)
		was := toldOf(memoriesOf(c))
		for _, call := range auditCalls() {
			call.call(c)
			if !slices.Equal(toldOf(memoriesOf(c)), was) {
				t.Fatalf("%s: %s changed an argument", row.name, call.name)
			}
		}
	}
}

type auditCall struct {
	name string
	call func(c impl.Cluster) any
}

// auditCalls are such that those with a list tell one of the cluster that locks much.
func auditCalls() []auditCall {
	return []auditCall{
		{"LockedBlocks", func(c impl.Cluster) any { return impl.LockedBlocks(c) }},
		{"LockedCoins", func(c impl.Cluster) any { return impl.LockedCoins(c) }},
		{"NoFork", func(c impl.Cluster) any { return impl.NoFork(c) }},
		{"NoDouble", func(c impl.Cluster) any { return impl.NoDouble(c) }},
		{"BestFor", func(c impl.Cluster) any { return impl.BestFor(c, 0) }},
		{"BestFor, none", func(c impl.Cluster) any { return impl.BestFor(c, 9) }},
		{"VotedBy", func(c impl.Cluster) any { return impl.VotedBy(c, 2) }},
		{"VotedBy, none", func(c impl.Cluster) any { return impl.VotedBy(c, 4) }},
		{"PremiseOf", func(c impl.Cluster) any { return impl.PremiseOf(c) }},
	}
}

func muchLocked() impl.Cluster {
	return hearAll(ofFour([]int64{5}, slices.Concat(blockVotes(9, 2, 3, 7), coinVotes(1, 0, 4, 2, 3, 5), blockVotes(7, 2, 3, 5, 7), coinVotes(1, 1, 4, 2, 3, 7))...))
}

func answerMemories(answer any) []memory {
	switch r := answer.(type) {
	case impl.IntsResult:
		return []memory{memoryOf(r.List, -9, tellWhole)}
	case impl.ChoicesResult:
		return []memory{memoryOf(r.Choices, choicesOf(-9, -9, -9)[0], tellWhole)}
	}
	return nil
}

func TestAuditsShareNoMemory(t *testing.T) {
	lists := 0
	for _, call := range auditCalls() {
		c := roomyCluster(muchLocked())
		one, two := answerMemories(call.call(c)), answerMemories(call.call(c))
		for _, part := range one {
			if part.told() != "" {
				lists++
			}
		}
		if !slices.Equal(toldOf(one), toldOf(two)) {
			t.Fatalf("%s: %v, and then %v", call.name, toldOf(one), toldOf(two))
		}
		parts := slices.Concat(one, two, memoriesOf(c))
		for i, part := range parts {
			was := toldOf(parts)
			part.spoil()
			now := toldOf(parts)
			for j := range parts {
				if i != j && was[j] != now[j] {
					t.Errorf("%s: who writes to one list writes to another one: %s, it was %s", call.name, now[j], was[j])
				}
			}
		}
	}
	if lists != 3 {
		t.Errorf("%d lists were told", lists)
	}
}

func TestEmptyAndNilOfAuditsAreTheSame(t *testing.T) {
	none := impl.Cluster{Quorum: quorumOf(1, 1), Heard: [][]int64{nil}, Voters: []impl.Voter{{Key: 1}}}
	empty := impl.Cluster{
		Quorum: quorumOf(1, 1), Bad: []int64{}, Tree: []impl.Node{}, Votes: []impl.Vote{},
		Voters: []impl.Voter{{Key: 1, Choices: []impl.Choice{}}}, Heard: [][]int64{{}},
	}
	for _, c := range []impl.Cluster{none, empty} {
		holdAudit(t, "an empty one", c)
		if !impl.NoFork(c) || !impl.NoDouble(c) || !impl.PremiseOf(c) || impl.BestFor(c, 0) != (impl.IntResult{}) {
			t.Error(c)
		}
	}
	for _, voters := range [][]impl.Voter{nil, {}} {
		c := impl.Cluster{Quorum: quorumOf(1, 1), Bad: []int64{1}, Voters: voters, Votes: blockVotes(3, 1), Heard: [][]int64{nil}}
		holdAudit(t, "all are Bad", c)
		if r := impl.VotedBy(c, 1); !sameInts(r, impl.IntsResult{List: []int64{3}}) || impl.PremiseOf(c) {
			t.Error(r)
		}
	}
	for _, c := range []impl.Cluster{{}, {Heard: [][]int64{}}} {
		holdAudit(t, "the zero value", c)
		if impl.LockedBlocks(c).Code != impl.ErrMany || impl.NoFork(c) || impl.NoDouble(c) || impl.PremiseOf(c) {
			t.Error(c)
		}
	}
}

func TestAuditsHangOnTheArgumentsAlone(t *testing.T) {
	var first []string
	for _, call := range auditCalls() {
		first = append(first, tellWhole(call.call(muchLocked())))
	}
	for i := range int64(20) {
		impl.LockedBlocks(fullCluster(int(90 + i)))
		impl.LockedCoins(fullCluster(100))
		impl.NoFork(lockedLine(int(i)))
		impl.BestFor(ordinaryCluster(), i)
		impl.VotedBy(ordinaryCluster(), i)
		for at, call := range auditCalls() {
			if told := tellWhole(call.call(muchLocked())); told != first[at] {
				t.Fatalf("%s: %s, and it was %s", call.name, told, first[at])
			}
		}
	}
}
