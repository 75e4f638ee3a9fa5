package tests

import (
	"fmt"
	"math"
	"math/rand"
	"slices"
	"strings"
	"testing"

	"loop.example/g00304/impl"
)

// The plain reading of chapter 12: what the program is held against.

func plainBadFault(q impl.Quorum, bad []int64, votes, hearers int64) int64 {
	if code := plainQuorumFault(q); code != impl.OK {
		return code
	}
	if len(bad) > 20 || votes > 100 || hearers < 1 || hearers > 4 {
		return impl.ErrMany
	}
	for _, key := range bad {
		if key < 1 || key > 999 {
			return impl.ErrRange
		}
	}
	for i := 1; i < len(bad); i++ {
		if bad[i] <= bad[i-1] {
			return impl.ErrForm
		}
	}
	return impl.OK
}

// plainGood tells the keys of the quorum that are not bad.
func plainGood(q impl.Quorum, bad []int64) []int64 {
	var good []int64
	for _, key := range q.Keys {
		if !slices.Contains(bad, key) {
			good = append(good, key)
		}
	}
	return good
}

func plainVoterOf(c impl.Cluster, key int64) int {
	for i, v := range c.Voters {
		if v.Key == key {
			return i
		}
	}
	return -1
}

// plainDidVote: the voter stands where it would stand had it voted so.
func plainDidVote(c impl.Cluster, x impl.Vote) bool {
	v := c.Voters[plainVoterOf(c, x.Key)]
	if x.Kind == 1 {
		return plainIsAbove(c.Tree, x.Block, v.Last)
	}
	for _, choice := range v.Choices {
		if choice.Ref == x.Ref && choice.Tx == x.Tx {
			return true
		}
	}
	return false
}

func plainVotesFault(c impl.Cluster) int64 {
	for i, x := range c.Votes {
		if code := plainVoteFault(x); code != impl.OK {
			return code
		}
		if !slices.Contains(c.Quorum.Keys, x.Key) {
			return impl.ErrNone
		}
		for _, ahead := range c.Votes[:i] {
			if ahead.Key == x.Key && ahead.Kind == x.Kind && ahead.Block == x.Block && ahead.Ref.Tx == x.Ref.Tx && ahead.Ref.At == x.Ref.At && ahead.Tx == x.Tx {
				return impl.ErrTaken
			}
		}
		if !slices.Contains(c.Bad, x.Key) && !plainDidVote(c, x) {
			return impl.ErrSign
		}
	}
	return impl.OK
}

func plainHeardFault(c impl.Cluster) int64 {
	for _, places := range c.Heard {
		for _, at := range places {
			if at < 0 || at >= int64(len(c.Votes)) {
				return impl.ErrRange
			}
		}
		times := map[int64]int64{}
		for _, at := range places {
			times[at]++
			if times[at] > 1 {
				return impl.ErrTaken
			}
		}
	}
	return impl.OK
}

func plainClusterFault(c impl.Cluster) int64 {
	if code := plainBadFault(c.Quorum, c.Bad, int64(len(c.Votes)), int64(len(c.Heard))); code != impl.OK {
		return code
	}
	if code := plainTreeFault(c.Tree); code != impl.OK {
		return code
	}
	var keys []int64
	for _, v := range c.Voters {
		keys = append(keys, v.Key)
	}
	if !slices.Equal(keys, plainGood(c.Quorum, c.Bad)) {
		return impl.ErrForm
	}
	for _, v := range c.Voters {
		if code := plainVoterFault(v); code != impl.OK {
			return code
		}
	}
	if code := plainVotesFault(c); code != impl.OK {
		return code
	}
	return plainHeardFault(c)
}

func plainNewCluster(q impl.Quorum, bad []int64, hearers int64) impl.ClusterResult {
	if code := plainBadFault(q, bad, 0, hearers); code != impl.OK {
		return impl.ClusterResult{Code: code}
	}
	c := impl.Cluster{Quorum: q, Bad: bad, Heard: make([][]int64, hearers)}
	for _, key := range plainGood(q, bad) {
		c.Voters = append(c.Voters, impl.Voter{Key: key})
	}
	return impl.ClusterResult{Cluster: sameCluster(c)}
}

func plainGrow(c impl.Cluster, n impl.Node) impl.ClusterResult {
	if code := plainClusterFault(c); code != impl.OK {
		return impl.ClusterResult{Code: code}
	}
	r := plainAddNode(c.Tree, n)
	if r.Code != impl.OK {
		return impl.ClusterResult{Code: r.Code}
	}
	grown := sameCluster(c)
	grown.Tree = r.Tree
	return impl.ClusterResult{Cluster: grown}
}

func plainPutVote(c impl.Cluster, x impl.Vote) impl.ClusterResult {
	for _, y := range c.Votes {
		if y == x {
			return impl.ClusterResult{Cluster: c}
		}
	}
	if len(c.Votes) == 100 {
		return impl.ClusterResult{Code: impl.ErrMany}
	}
	c.Votes = append(c.Votes, x)
	return impl.ClusterResult{Cluster: c}
}

func plainAsk(c impl.Cluster, key int64, ask func(impl.Voter) impl.VoterResult) impl.ClusterResult {
	if code := plainClusterFault(c); code != impl.OK {
		return impl.ClusterResult{Code: code}
	}
	at := plainVoterOf(c, key)
	if at < 0 {
		return impl.ClusterResult{Code: impl.ErrNone}
	}
	r := ask(c.Voters[at])
	if r.Code != impl.OK {
		return impl.ClusterResult{Code: r.Code}
	}
	asked := sameCluster(c)
	asked.Voters[at] = r.Voter
	return plainPutVote(asked, r.Vote)
}

func plainCastAt(c impl.Cluster, key, id int64) impl.ClusterResult {
	return plainAsk(c, key, func(v impl.Voter) impl.VoterResult { return plainCast(c.Tree, v, id) })
}

func plainChooseAt(c impl.Cluster, key int64, r impl.Ref, tx int64) impl.ClusterResult {
	return plainAsk(c, key, func(v impl.Voter) impl.VoterResult { return plainChooseFor(v, r, tx) })
}

func plainForge(c impl.Cluster, x impl.Vote) impl.ClusterResult {
	for _, code := range []int64{plainClusterFault(c), plainVoteFault(x)} {
		if code != impl.OK {
			return impl.ClusterResult{Code: code}
		}
	}
	if !slices.Contains(c.Bad, x.Key) || !slices.Contains(c.Quorum.Keys, x.Key) {
		return impl.ClusterResult{Code: impl.ErrSign}
	}
	return plainPutVote(sameCluster(c), x)
}

func plainHear(c impl.Cluster, hearer, at int64) impl.ClusterResult {
	if code := plainClusterFault(c); code != impl.OK {
		return impl.ClusterResult{Code: code}
	}
	if hearer < 0 || hearer >= int64(len(c.Heard)) || at < 0 || at >= int64(len(c.Votes)) {
		return impl.ClusterResult{Code: impl.ErrRange}
	}
	heard := sameCluster(c)
	if !slices.Contains(c.Heard[hearer], at) {
		heard.Heard[hearer] = append(heard.Heard[hearer], at)
	}
	return impl.ClusterResult{Cluster: heard}
}

// plainLocksAt counts who voted for each block, among what was heard.
func plainLocksAt(c impl.Cluster, hearer int64) impl.IntsResult {
	if code := plainClusterFault(c); code != impl.OK {
		return impl.IntsResult{Code: code}
	}
	if hearer < 0 || hearer >= int64(len(c.Heard)) {
		return impl.IntsResult{Code: impl.ErrRange}
	}
	who := map[int64]int64{}
	for _, at := range c.Heard[hearer] {
		if x := c.Votes[at]; x.Kind == 1 {
			who[x.Block]++
		}
	}
	var locked []int64
	for _, n := range c.Tree {
		if who[n.Id] >= c.Quorum.Need {
			locked = append(locked, n.Id)
		}
	}
	return impl.IntsResult{List: locked}
}

// sameCluster is a copy that shares nothing with c.
func sameCluster(c impl.Cluster) impl.Cluster {
	c.Quorum.Keys = slices.Clone(c.Quorum.Keys)
	c.Bad, c.Tree, c.Votes = slices.Clone(c.Bad), slices.Clone(c.Tree), slices.Clone(c.Votes)
	c.Voters, c.Heard = slices.Clone(c.Voters), slices.Clone(c.Heard)
	for i, v := range c.Voters {
		c.Voters[i] = copyVoter(v)
	}
	for i, places := range c.Heard {
		c.Heard[i] = slices.Clone(places)
	}
	return c
}

func sameClusters(a, b impl.Cluster) bool {
	return a.Quorum.Need == b.Quorum.Need && slices.Equal(a.Quorum.Keys, b.Quorum.Keys) && slices.Equal(a.Bad, b.Bad) &&
		slices.Equal(a.Tree, b.Tree) && slices.EqualFunc(a.Voters, b.Voters, sameVoters) && slices.Equal(a.Votes, b.Votes) &&
		slices.EqualFunc(a.Heard, b.Heard, func(x, y []int64) bool { return slices.Equal(x, y) })
}

func sameClusterResults(a, b impl.ClusterResult) bool {
	return a.Code == b.Code && sameClusters(a.Cluster, b.Cluster)
}

// holdCluster holds one call against the plain reading, and what was handed to it against what it was.
func holdCluster(t *testing.T, name string, c impl.Cluster, call, plain func(impl.Cluster) impl.ClusterResult) impl.ClusterResult {
	t.Helper()
	was := sameCluster(c)
	got := call(c)
	if !sameClusters(c, was) {
		t.Fatalf("%s: an argument was changed: %v, it was %v", name, c, was)
	}
	if want := plain(was); !sameClusterResults(got, want) {
		t.Fatalf("%s of %v = %v, want %v", name, c, got, want)
	}
	return got
}

func holdFaultAgainstPlain(t *testing.T, c impl.Cluster) int64 {
	t.Helper()
	was := sameCluster(c)
	got, want := impl.ClusterFault(c), plainClusterFault(c)
	if got != want {
		t.Fatalf("ClusterFault(%v) = %d, want %d", c, got, want)
	}
	if !sameClusters(c, was) {
		t.Fatalf("an argument was changed: %v, it was %v", c, was)
	}
	return got
}

func holdNewClusterAgainstPlain(t *testing.T, q impl.Quorum, bad []int64, hearers int64) impl.ClusterResult {
	t.Helper()
	wasKeys, wasBad := slices.Clone(q.Keys), slices.Clone(bad)
	got, want := impl.NewCluster(q, bad, hearers), plainNewCluster(q, bad, hearers)
	if !sameClusterResults(got, want) {
		t.Fatalf("NewCluster(%v, %v, %d) = %v, want %v", q, bad, hearers, got, want)
	}
	if !slices.Equal(q.Keys, wasKeys) || !slices.Equal(bad, wasBad) {
		t.Fatalf("an argument was changed: %v %v, they were %v %v", q, bad, wasKeys, wasBad)
	}
	return got
}

func holdGrowAgainstPlain(t *testing.T, c impl.Cluster, n impl.Node) impl.ClusterResult {
	t.Helper()
	return holdCluster(t, fmt.Sprint("GrowTree by ", n), c,
		func(c impl.Cluster) impl.ClusterResult { return impl.GrowTree(c, n) },
		func(c impl.Cluster) impl.ClusterResult { return plainGrow(c, n) })
}

func holdCastAtAgainstPlain(t *testing.T, c impl.Cluster, key, id int64) impl.ClusterResult {
	t.Helper()
	return holdCluster(t, fmt.Sprintf("CastAt %d for %d", key, id), c,
		func(c impl.Cluster) impl.ClusterResult { return impl.CastAt(c, key, id) },
		func(c impl.Cluster) impl.ClusterResult { return plainCastAt(c, key, id) })
}

func holdChooseAtAgainstPlain(t *testing.T, c impl.Cluster, key int64, r impl.Ref, tx int64) impl.ClusterResult {
	t.Helper()
	return holdCluster(t, fmt.Sprintf("ChooseAt %d of %v the %d", key, r, tx), c,
		func(c impl.Cluster) impl.ClusterResult { return impl.ChooseAt(c, key, r, tx) },
		func(c impl.Cluster) impl.ClusterResult { return plainChooseAt(c, key, r, tx) })
}

func holdForgeAgainstPlain(t *testing.T, c impl.Cluster, x impl.Vote) impl.ClusterResult {
	t.Helper()
	return holdCluster(t, fmt.Sprint("ForgeAt ", x), c,
		func(c impl.Cluster) impl.ClusterResult { return impl.ForgeAt(c, x) },
		func(c impl.Cluster) impl.ClusterResult { return plainForge(c, x) })
}

func holdHearAgainstPlain(t *testing.T, c impl.Cluster, hearer, at int64) impl.ClusterResult {
	t.Helper()
	return holdCluster(t, fmt.Sprintf("HearAt %d the %d", hearer, at), c,
		func(c impl.Cluster) impl.ClusterResult { return impl.HearAt(c, hearer, at) },
		func(c impl.Cluster) impl.ClusterResult { return plainHear(c, hearer, at) })
}

func holdLocksAgainstPlain(t *testing.T, c impl.Cluster, hearer int64) impl.IntsResult {
	t.Helper()
	was := sameCluster(c)
	got, want := impl.LocksAt(c, hearer), plainLocksAt(c, hearer)
	if !sameInts(got, want) {
		t.Fatalf("LocksAt(%v, %d) = %v, want %v", c, hearer, got, want)
	}
	if !sameClusters(c, was) {
		t.Fatalf("an argument was changed: %v, it was %v", c, was)
	}
	return got
}

// ordinaryCluster has the wood as its tree, and of four two who voted, one who did not, and one, 5, who is bad and voted for all that it liked.
func ordinaryCluster() impl.Cluster {
	return impl.Cluster{
		Quorum: quorumOf(3, 2, 3, 5, 7),
		Bad:    []int64{5, 900},
		Tree:   wood(),
		Voters: []impl.Voter{voterOf(2, 20, choicesOf(1, 0, 4, 1, 1, 4)...), voterOf(3, 9, choicesOf(1, 0, 9)...), voterOf(7, 0)},
		Votes: []impl.Vote{
			blockVote(2, 7), blockVote(5, 40), coinVote(2, 1, 0, 4), blockVote(2, 20), blockVote(3, 7),
			blockVote(5, 7), blockVote(5, 20), coinVote(5, 1, 0, 4), coinVote(3, 1, 0, 9), blockVote(3, 9),
		},
		Heard: [][]int64{{4, 0, 5}, {}, {9, 3, 1}},
	}
}

func clusterWith(change func(c *impl.Cluster)) impl.Cluster {
	c := ordinaryCluster()
	change(&c)
	return c
}

func withVotes(votes ...impl.Vote) impl.Cluster {
	return clusterWith(func(c *impl.Cluster) { c.Votes = append(c.Votes, votes...) })
}

// forgedVotes are n of the bad key 5, none of them among those of the ordinary cluster.
func forgedVotes(n int) []impl.Vote {
	var votes []impl.Vote
	for i := range int64(n) {
		votes = append(votes, coinVote(5, 60-i/60, 3, 1+i%60))
	}
	return votes
}

// fullCluster has n votes: those of the ordinary one, and behind them what 5 forged.
func fullCluster(n int) impl.Cluster {
	return withVotes(forgedVotes(n - len(ordinaryCluster().Votes))...)
}

// Promise 13: whatever a voter is asked the cluster has no fault, and what was voted stays; nobody votes for another one who is not bad; what one who is not bad voted for are blocks of one path.

func TestTheNumberOfHearers(t *testing.T) {
	if impl.MaxHearers != 4 {
		t.Error(impl.MaxHearers)
	}
}

// Of four one is bad: it votes for both of two blocks of one height, and in the name of nobody else. The three others lock one of them, for those who hear of it.
func TestAClusterFromItsStart(t *testing.T) {
	c := impl.NewCluster(quorumOf(3, 1, 2, 3, 4), []int64{4}, 2).Cluster
	for _, n := range nodesOf(9, 0, 1, 5, 9, 2, 6, 9, 2) {
		c = holdGrowAgainstPlain(t, c, n).Cluster
	}
	c = holdForgeAgainstPlain(t, c, blockVote(4, 5)).Cluster
	c = holdForgeAgainstPlain(t, c, blockVote(4, 6)).Cluster
	if r := holdForgeAgainstPlain(t, c, blockVote(1, 6)); r.Code != impl.ErrSign {
		t.Fatal(r)
	}
	for _, key := range []int64{1, 2} {
		c = holdCastAtAgainstPlain(t, c, key, 9).Cluster
		c = holdCastAtAgainstPlain(t, c, key, 5).Cluster
		if r := holdCastAtAgainstPlain(t, c, key, 6); r.Code != impl.ErrState {
			t.Fatal(r)
		}
	}
	c = holdCastAtAgainstPlain(t, c, 3, 6).Cluster
	want := []impl.Vote{blockVote(4, 5), blockVote(4, 6), blockVote(1, 9), blockVote(1, 5), blockVote(2, 9), blockVote(2, 5), blockVote(3, 6)}
	if !slices.Equal(c.Votes, want) || impl.ClusterFault(c) != impl.OK {
		t.Fatal(c)
	}
	for at := range int64(7) {
		if locked := holdLocksAgainstPlain(t, c, 0); (len(locked.List) == 1) != (at > 5) {
			t.Fatalf("%d were heard: %v", at, locked)
		}
		c = holdHearAgainstPlain(t, c, 0, at).Cluster
	}
	if locked := holdLocksAgainstPlain(t, c, 0); !sameInts(locked, impl.IntsResult{List: []int64{5}}) {
		t.Error(locked)
	}
	if locked := holdLocksAgainstPlain(t, c, 1); !sameInts(locked, impl.IntsResult{}) {
		t.Error(locked)
	}
}

// holdVoted asks of a cluster what is promised of it, where cast holds all votes that one who is not bad was asked for and gave.
func holdVoted(t *testing.T, c impl.Cluster, cast []impl.Vote) {
	t.Helper()
	var good []impl.Vote
	blocks := map[int64][]int64{}
	for _, x := range c.Votes {
		if !slices.Contains(c.Bad, x.Key) {
			good = append(good, x)
			if x.Kind == impl.VoteBlock {
				blocks[x.Key] = append(blocks[x.Key], x.Block)
			}
		}
	}
	if !slices.Equal(good, cast) {
		t.Fatalf("those who are not bad voted %v, and %v stands there", cast, good)
	}
	for key, list := range blocks {
		for i, b := range list {
			for _, a := range list[:i] {
				if a == b || !impl.IsAbove(c.Tree, a, b) {
					t.Fatalf("%d voted for %d and then for %d", key, a, b)
				}
			}
		}
	}
}

// holdStep asks what is promised of one step: no fault, and all that was there is there.
func holdStep(t *testing.T, was impl.Cluster, r impl.ClusterResult) impl.Cluster {
	t.Helper()
	if r.Code != impl.OK {
		if !sameClusterResults(r, impl.ClusterResult{Code: r.Code}) {
			t.Fatalf("beside a code: %v", r)
		}
		return was
	}
	c := r.Cluster
	if code := holdFaultAgainstPlain(t, c); code != impl.OK {
		t.Fatalf("%v has the fault %d", c, code)
	}
	if len(c.Votes) < len(was.Votes) || !slices.Equal(c.Votes[:len(was.Votes)], was.Votes) {
		t.Fatalf("%v was voted, %v stays", was.Votes, c.Votes)
	}
	if len(c.Tree) < len(was.Tree) || !slices.Equal(c.Tree[:len(was.Tree)], was.Tree) {
		t.Fatalf("the tree was %v, and is %v", was.Tree, c.Tree)
	}
	for i, places := range was.Heard {
		if len(c.Heard[i]) < len(places) || !slices.Equal(c.Heard[i][:len(places)], places) {
			t.Fatalf("%v was heard, %v stays", places, c.Heard[i])
		}
	}
	return c
}

// clusterStep does one thing to a cluster, and tells whose vote it asked for, 0 for nobody's.
type clusterStep func(t *testing.T, c impl.Cluster) (impl.ClusterResult, int64)

func smallSteps() []clusterStep {
	var steps []clusterStep
	for _, n := range nodesOf(1, 0, 1, 2, 1, 2, 3, 1, 2) {
		steps = append(steps, func(t *testing.T, c impl.Cluster) (impl.ClusterResult, int64) {
			return holdGrowAgainstPlain(t, c, n), 0
		})
	}
	for _, pair := range [][2]int64{{1, 1}, {1, 2}, {1, 3}, {2, 1}, {3, 2}} {
		steps = append(steps, func(t *testing.T, c impl.Cluster) (impl.ClusterResult, int64) {
			return holdCastAtAgainstPlain(t, c, pair[0], pair[1]), pair[0]
		})
	}
	for _, tx := range []int64{4, 5} {
		steps = append(steps, func(t *testing.T, c impl.Cluster) (impl.ClusterResult, int64) {
			return holdChooseAtAgainstPlain(t, c, 1, impl.Ref{Tx: 1}, tx), 1
		})
	}
	for _, x := range []impl.Vote{blockVote(2, 1), blockVote(2, 3), blockVote(1, 1), coinVote(2, 1, 0, 4)} {
		steps = append(steps, func(t *testing.T, c impl.Cluster) (impl.ClusterResult, int64) {
			return holdForgeAgainstPlain(t, c, x), 0
		})
	}
	for at := range int64(2) {
		steps = append(steps, func(t *testing.T, c impl.Cluster) (impl.ClusterResult, int64) {
			return holdHearAgainstPlain(t, c, 0, at), 0
		})
	}
	return steps
}

// All ways of up to 4 steps from two new clusters on.
func TestAllShortWaysOfACluster(t *testing.T) {
	steps := smallSteps()
	var walk func(c impl.Cluster, cast []impl.Vote, left int)
	walk = func(c impl.Cluster, cast []impl.Vote, left int) {
		holdVoted(t, c, cast)
		if left == 0 {
			holdLocksAgainstPlain(t, c, 0)
			return
		}
		for _, step := range steps {
			r, key := step(t, c)
			then := holdStep(t, c, r)
			given := slices.Clone(cast)
			if r.Code == impl.OK && key != 0 {
				for _, x := range then.Votes[len(c.Votes):] {
					if x.Key != key {
						t.Fatalf("%d was asked, and %v was put", key, x)
					}
					given = append(given, x)
				}
			}
			if r.Code == impl.OK {
				walk(then, given, left-1)
			}
		}
	}
	walk(impl.NewCluster(quorumOf(2, 1, 2), []int64{2}, 1).Cluster, nil, 4)
	walk(impl.NewCluster(quorumOf(1, 1, 2, 3), []int64{2, 9}, 2).Cluster, nil, 3)
}

type clusterWalk struct {
	dice *rand.Rand
	tree []impl.Node
	c    impl.Cluster
	cast []impl.Vote
}

func newClusterWalk(dice *rand.Rand) *clusterWalk {
	n := 1 + dice.Intn(8)
	keys := slices.Sorted(slices.Values(firstKeys(12)))
	dice.Shuffle(12, func(i, j int) { keys[i], keys[j] = keys[j], keys[i] })
	q := quorumOf(1+dice.Int63n(int64(n)), slices.Sorted(slices.Values(keys[:n]))...)
	dice.Shuffle(12, func(i, j int) { keys[i], keys[j] = keys[j], keys[i] })
	bad := slices.Sorted(slices.Values(keys[:dice.Intn(5)]))
	return &clusterWalk{dice: dice, tree: randomTree(dice, 1+dice.Intn(30)), c: impl.NewCluster(q, bad, 1+dice.Int63n(4)).Cluster}
}

func (w *clusterWalk) vote(key int64) impl.Vote {
	if w.dice.Intn(2) == 0 {
		return blockVote(key, w.tree[w.dice.Intn(len(w.tree))].Id)
	}
	return coinVote(key, 1+w.dice.Int63n(6), w.dice.Int63n(4), 1+w.dice.Int63n(3))
}

func (w *clusterWalk) step(t *testing.T) (impl.ClusterResult, int64) {
	key := 1 + w.dice.Int63n(12)
	if w.dice.Intn(3) > 0 {
		key = w.c.Quorum.Keys[w.dice.Intn(len(w.c.Quorum.Keys))]
	}
	x := w.vote(key)
	switch w.dice.Intn(6) {
	case 0:
		grown := len(w.c.Tree)
		if grown == len(w.tree) || w.dice.Intn(5) == 0 {
			return holdGrowAgainstPlain(t, w.c, w.tree[w.dice.Intn(len(w.tree))]), 0
		}
		return holdGrowAgainstPlain(t, w.c, w.tree[grown]), 0
	case 1, 2:
		if x.Kind == impl.VoteBlock {
			return holdCastAtAgainstPlain(t, w.c, key, x.Block), key
		}
		return holdChooseAtAgainstPlain(t, w.c, key, x.Ref, x.Tx), key
	case 3:
		if len(w.c.Bad) > 0 && w.dice.Intn(3) > 0 {
			x.Key = w.c.Bad[w.dice.Intn(len(w.c.Bad))]
		}
		return holdForgeAgainstPlain(t, w.c, x), 0
	default:
		return holdHearAgainstPlain(t, w.c, w.dice.Int63n(5), w.dice.Int63n(int64(len(w.c.Votes))+1)), 0
	}
}

func TestRandomWaysOfACluster(t *testing.T) {
	dice := rand.New(rand.NewSource(14))
	var full, locked, refused int
	for range 60 {
		w := newClusterWalk(dice)
		for range 700 {
			was := w.c
			r, key := w.step(t)
			w.c = holdStep(t, was, r)
			if r.Code != impl.OK {
				refused++
			} else if key != 0 {
				w.cast = append(w.cast, w.c.Votes[len(was.Votes):]...)
			}
		}
		holdVoted(t, w.c, w.cast)
		for hearer := int64(-1); hearer <= 4; hearer++ {
			locked += len(holdLocksAgainstPlain(t, w.c, hearer).List)
		}
		if len(w.c.Votes) == 100 {
			full++
		}
	}
	if full < 5 || locked < 20 || refused < 500 {
		t.Errorf("%d are full, %d blocks are locked, %d steps refused: the ways are too tame", full, locked, refused)
	}
}

// The edges that the document names, and wrong inputs.

type clusterRow struct {
	name    string
	cluster impl.Cluster
	code    int64
}

func wrongClusters() []clusterRow {
	rows := []clusterRow{
		{"the zero value", impl.Cluster{}, impl.ErrMany},
		{"21 Bad", clusterWith(func(c *impl.Cluster) { c.Bad = append([]int64{5}, firstKeys(999)[979:]...) }), impl.ErrMany},
		{"101 Votes", fullCluster(101), impl.ErrMany},
		{"150 Votes that are all the same", withVotes(slices.Repeat([]impl.Vote{blockVote(2, 7)}, 150)...), impl.ErrMany},
		{"no Heard", clusterWith(func(c *impl.Cluster) { c.Heard = nil }), impl.ErrMany},
		{"5 Heard", clusterWith(func(c *impl.Cluster) { c.Heard = make([][]int64, 5) }), impl.ErrMany},
		{"a Bad of -1", clusterWith(func(c *impl.Cluster) { c.Bad = []int64{-1, 5} }), impl.ErrRange},
		{"a Bad of 0", clusterWith(func(c *impl.Cluster) { c.Bad = []int64{0, 5} }), impl.ErrRange},
		{"a Bad of 1000", clusterWith(func(c *impl.Cluster) { c.Bad = []int64{5, 1000} }), impl.ErrRange},
		{"the lowest Bad there is", clusterWith(func(c *impl.Cluster) { c.Bad = []int64{math.MinInt64, 5} }), impl.ErrRange},
		{"the highest Bad there is", clusterWith(func(c *impl.Cluster) { c.Bad = []int64{5, math.MaxInt64} }), impl.ErrRange},
		{"Bad that are the same", clusterWith(func(c *impl.Cluster) { c.Bad = []int64{5, 5} }), impl.ErrForm},
		{"Bad that fall", clusterWith(func(c *impl.Cluster) { c.Bad = []int64{900, 5} }), impl.ErrForm},
		{"Bad that fall at the end", clusterWith(func(c *impl.Cluster) { c.Bad = []int64{5, 900, 899} }), impl.ErrForm},
		{"Bad that are the same, not side by side", clusterWith(func(c *impl.Cluster) { c.Bad = []int64{5, 900, 5} }), impl.ErrForm},
	}
	rows = append(rows, wrongVotersOfClusters()...)
	rows = append(rows, wrongVotesOfClusters()...)
	rows = append(rows, wrongHeard()...)
	for _, row := range wrongQuorums() {
		rows = append(rows, clusterRow{"a quorum: " + row.name, clusterWith(func(c *impl.Cluster) { c.Quorum = row.quorum }), row.code})
	}
	for _, row := range wrongTrees() {
		rows = append(rows, clusterRow{"a tree: " + row.name, clusterWith(func(c *impl.Cluster) { c.Tree = row.tree }), row.code})
	}
	return rows
}

func wrongVotersOfClusters() []clusterRow {
	voters := func(list ...impl.Voter) impl.Cluster {
		return clusterWith(func(c *impl.Cluster) { c.Voters = list })
	}
	two, three, seven := ordinaryCluster().Voters[0], ordinaryCluster().Voters[1], ordinaryCluster().Voters[2]
	rows := []clusterRow{
		{"no Voters", voters(), impl.ErrForm},
		{"Voters that lack the first", voters(three, seven), impl.ErrForm},
		{"Voters that lack the last", voters(two, three), impl.ErrForm},
		{"Voters that lack one in the midst", voters(two, seven), impl.ErrForm},
		{"a voter too many, behind", voters(two, three, seven, voterOf(8, 0)), impl.ErrForm},
		{"a voter too many, ahead", voters(voterOf(1, 0), two, three, seven), impl.ErrForm},
		{"a voter of another key", voters(two, three, voterOf(8, 0)), impl.ErrForm},
		{"a voter that is Bad", voters(two, three, voterOf(5, 0), seven), impl.ErrForm},
		{"a voter that is Bad and not of the quorum", voters(two, three, seven, voterOf(900, 0)), impl.ErrForm},
		{"a voter that is Bad instead of another one", voters(two, three, voterOf(5, 0)), impl.ErrForm},
		{"a voter twice", voters(two, three, seven, seven), impl.ErrForm},
		{"a voter twice, and one lacks", voters(two, three, three), impl.ErrForm},
		{"Voters that do not rise", voters(two, seven, three), impl.ErrForm},
		{"Voters that fall", voters(seven, three, two), impl.ErrForm},
		{"one who is Bad no more and has no voter", clusterWith(func(c *impl.Cluster) { c.Bad = nil }), impl.ErrForm},
		{"one who is Bad now and has a voter", clusterWith(func(c *impl.Cluster) { c.Bad = []int64{5, 7} }), impl.ErrForm},
		{"all are Bad, and there are voters", clusterWith(func(c *impl.Cluster) { c.Bad = firstKeys(20) }), impl.ErrForm},
		{"a voter with a key out of bounds", voters(two, three, voterOf(1000, 0)), impl.ErrForm},
		{"two voters with faults, the first of 41 Choices", voters(voterOf(2, 20, manyChoices(41)...), voterOf(3, 61), seven), impl.ErrMany},
		{"two voters with faults, the first of a Last", voters(voterOf(2, 61), voterOf(3, 9, manyChoices(41)...), seven), impl.ErrRange},
	}
	for _, row := range wrongVoters() {
		if v := row.voter; v.Key == 1 {
			v.Key = 7
			rows = append(rows, clusterRow{"a voter: " + row.name, voters(two, three, v), row.code})
		}
	}
	return rows
}

// wrongVotesOfClusters: in the ordinary cluster 2 stands behind 7 - 3 - 9 - 20, 3 behind 7 - 3 - 9, 7 has not voted, and 5 is bad.
func wrongVotesOfClusters() []clusterRow {
	rows := []clusterRow{
		{"a vote whose Key is not of the quorum", withVotes(blockVote(4, 7)), impl.ErrNone},
		{"a vote whose Key is below the quorum's", withVotes(coinVote(1, 1, 0, 4)), impl.ErrNone},
		{"a vote whose Key is Bad and not of the quorum", withVotes(blockVote(900, 7)), impl.ErrNone},
		{"a vote that stands twice", withVotes(blockVote(2, 7)), impl.ErrTaken},
		{"a vote that stands twice, side by side", withVotes(blockVote(3, 9)), impl.ErrTaken},
		{"a vote of a coin that stands twice", withVotes(coinVote(3, 1, 0, 9)), impl.ErrTaken},
		{"a vote of one who is Bad that stands twice", withVotes(blockVote(5, 40)), impl.ErrTaken},
		{"a vote of a coin of one who is Bad that stands twice", withVotes(coinVote(5, 1, 0, 4)), impl.ErrTaken},
		{"a vote for a block beside Last", withVotes(blockVote(3, 2)), impl.ErrSign},
		{"a vote for a block beside Last, of another first node", withVotes(blockVote(2, 40)), impl.ErrSign},
		{"a vote for a block beside Last, higher up", withVotes(blockVote(2, 5)), impl.ErrSign},
		{"a vote for a block behind Last", withVotes(blockVote(3, 20)), impl.ErrSign},
		{"a vote for a block that is not in the tree", withVotes(blockVote(2, 4)), impl.ErrSign},
		{"a vote for a block of a voter that has not voted", withVotes(blockVote(7, 7)), impl.ErrSign},
		{"a vote for a block that is not in the tree, of a voter that has not voted", withVotes(blockVote(7, 4)), impl.ErrSign},
		{"a vote for a Last that is not in the tree", clusterWith(func(c *impl.Cluster) { c.Voters[2].Last, c.Votes = 4, []impl.Vote{blockVote(7, 4)} }), impl.ErrSign},
		{"a vote of a Ref of which nothing was chosen", withVotes(coinVote(2, 1, 2, 4)), impl.ErrSign},
		{"a vote of a Ref of a voter that has chosen nothing", withVotes(coinVote(7, 1, 0, 4)), impl.ErrSign},
		{"a vote of a Ref with another Tx", withVotes(coinVote(2, 1, 1, 5)), impl.ErrSign},
		{"a vote of a Ref that another one chose so", withVotes(coinVote(3, 1, 0, 4)), impl.ErrSign},
		{"a vote of a Ref whose Tx was chosen of another one", withVotes(coinVote(3, 9, 0, 9)), impl.ErrSign},

		{"a Kind of 3, and a Key that is not of the quorum", withVotes(impl.Vote{Key: 900, Kind: 3}), impl.ErrForm},
		{"a Key of 1000", withVotes(blockVote(1000, 7)), impl.ErrRange},
		{"the block 61 of a Key that is not of the quorum", withVotes(blockVote(4, 61)), impl.ErrRange},
		{"the block 61 of one who is not Bad", withVotes(blockVote(2, 61)), impl.ErrRange},
		{"ErrSign ahead of a Kind of 3", withVotes(blockVote(2, 40), impl.Vote{Key: 5, Kind: 3}), impl.ErrSign},
		{"ErrTaken ahead of a Kind of 3", withVotes(blockVote(2, 7), impl.Vote{Key: 5, Kind: 3}), impl.ErrTaken},
		{"ErrNone ahead of a Kind of 3", withVotes(blockVote(4, 7), impl.Vote{Key: 5, Kind: 3}), impl.ErrNone},
		{"ErrSign ahead of ErrTaken", withVotes(blockVote(2, 40), blockVote(2, 7)), impl.ErrSign},
		{"ErrTaken ahead of ErrSign", withVotes(blockVote(2, 7), blockVote(2, 40)), impl.ErrTaken},
		{"ErrTaken ahead of ErrNone", withVotes(blockVote(2, 7), blockVote(4, 7)), impl.ErrTaken},
		{"a vote of a Key that is not of the quorum, twice", withVotes(blockVote(4, 7), blockVote(4, 7)), impl.ErrNone},
		{"a vote that it did not give, twice", withVotes(blockVote(2, 40), blockVote(2, 40)), impl.ErrSign},
		{"the last of 100 stands twice", clusterWith(func(c *impl.Cluster) { c.Votes = append(fullCluster(99).Votes, blockVote(2, 7)) }), impl.ErrTaken},
	}
	for _, row := range wrongVotes() {
		x := row.vote
		if x.Key == 1 {
			x.Key = 5
		}
		rows = append(rows, clusterRow{"a vote: " + row.name, withVotes(x), row.code})
	}
	return rows
}

func wrongHeard() []clusterRow {
	heard := func(places ...[]int64) impl.Cluster {
		return clusterWith(func(c *impl.Cluster) { c.Heard = places })
	}
	return []clusterRow{
		{"a place of -1", heard([]int64{-1}), impl.ErrRange},
		{"a place behind the last one", heard([]int64{10}), impl.ErrRange},
		{"a place behind the last one, at the end of the last hearer", heard(nil, nil, nil, []int64{9, 0, 10}), impl.ErrRange},
		{"the lowest place there is", heard([]int64{0, math.MinInt64}), impl.ErrRange},
		{"the highest place there is", heard([]int64{0, math.MaxInt64}), impl.ErrRange},
		{"a place, and there are no Votes", clusterWith(func(c *impl.Cluster) { c.Votes, c.Heard = nil, [][]int64{{0}} }), impl.ErrRange},
		{"the place 100 of 100", clusterWith(func(c *impl.Cluster) { c.Votes, c.Heard = fullCluster(100).Votes, [][]int64{{100}} }), impl.ErrRange},
		{"a place twice", heard([]int64{3, 3}), impl.ErrTaken},
		{"a place twice, not side by side", heard(nil, []int64{0, 3, 9, 0}), impl.ErrTaken},
		{"a place very often", heard(make([]int64, 200)), impl.ErrTaken},
		{"all places, and the last one again", heard([]int64{9, 8, 7, 6, 5, 4, 3, 2, 1, 0, 0}), impl.ErrTaken},

		{"one hearer: a place twice ahead of one out of bounds", heard([]int64{3, 3, 10}), impl.ErrRange},
		{"one hearer: a place out of bounds twice", heard([]int64{10, 10}), impl.ErrRange},
		{"a place twice, and out of bounds of the next hearer", heard([]int64{3, 3}, []int64{10}), impl.ErrTaken},
		{"a place out of bounds, and twice of the next hearer", heard([]int64{10}, []int64{3, 3}), impl.ErrRange},
	}
}

func rightClusters() []clusterRow {
	votes := func(list ...impl.Vote) impl.Cluster { return withVotes(list...) }
	return []clusterRow{
		{"an ordinary one", ordinaryCluster(), impl.OK},
		{"20 Bad", clusterWith(func(c *impl.Cluster) { c.Bad = append([]int64{5}, firstKeys(999)[980:]...) }), impl.OK},
		{"100 Votes", fullCluster(100), impl.OK},
		{"1 Heard", clusterWith(func(c *impl.Cluster) { c.Heard = make([][]int64, 1) }), impl.OK},
		{"4 Heard", clusterWith(func(c *impl.Cluster) { c.Heard = [][]int64{{9}, {9}, {}, {0, 9, 4}} }), impl.OK},
		{"a Bad of 1", clusterWith(func(c *impl.Cluster) { c.Bad = []int64{1, 5} }), impl.OK},
		{"a Bad of 999", clusterWith(func(c *impl.Cluster) { c.Bad = []int64{5, 999} }), impl.OK},
		{"Bad of which none is of the quorum", clusterWith(func(c *impl.Cluster) {
			c.Quorum, c.Bad, c.Votes, c.Heard = quorumOf(2, 2, 3, 7), []int64{1, 4, 5, 8}, c.Votes[2:5:5], [][]int64{{2}}
		}), impl.OK},
		{"no Bad", clusterWith(func(c *impl.Cluster) {
			c.Quorum, c.Bad, c.Votes, c.Heard = quorumOf(2, 2, 3, 7), nil, nil, [][]int64{nil}
		}), impl.OK},
		{"all are Bad", clusterWith(func(c *impl.Cluster) { c.Bad, c.Voters = []int64{2, 3, 5, 7}, nil }), impl.OK},
		{"no tree, and no votes", clusterWith(func(c *impl.Cluster) { c.Tree, c.Votes, c.Heard = nil, nil, [][]int64{nil} }), impl.OK},
		{"a Last that is not in the tree", clusterWith(func(c *impl.Cluster) { c.Voters[2].Last = 4 }), impl.OK},
		{"a Last for which no vote stands there", clusterWith(func(c *impl.Cluster) { c.Voters[2].Last = 40 }), impl.OK},
		{"a voter of 40 Choices", clusterWith(func(c *impl.Cluster) { c.Voters[2].Choices = manyChoices(40) }), impl.OK},

		{"a vote for a block above Last", votes(blockVote(3, 3)), impl.OK},
		{"a vote for a block two above Last", votes(blockVote(2, 3)), impl.OK},
		{"votes in another order than that of the path", votes(blockVote(2, 9), blockVote(2, 3)), impl.OK},
		{"a vote of a Ref with the Tx that was chosen", votes(coinVote(2, 1, 1, 4)), impl.OK},
		{"one who is Bad: for a block beside the other one", votes(blockVote(5, 5), blockVote(5, 60)), impl.OK},
		{"one who is Bad: for a block that is not in the tree", votes(blockVote(5, 4)), impl.OK},
		{"one who is Bad: of a Ref with two", votes(coinVote(5, 1, 0, 5), coinVote(5, 1, 0, 6)), impl.OK},
		{"one who is Bad: what the others did not", votes(blockVote(5, 2), coinVote(5, 1, 2, 4), coinVote(5, 1, 1, 5)), impl.OK},
		{"a place that two hearers heard", clusterWith(func(c *impl.Cluster) { c.Heard = [][]int64{{3, 4}, {4, 3}} }), impl.OK},
		{"all places, falling", clusterWith(func(c *impl.Cluster) { c.Heard = [][]int64{{9, 8, 7, 6, 5, 4, 3, 2, 1, 0}} }), impl.OK},
		{"the place 99 of 100", clusterWith(func(c *impl.Cluster) { c.Votes, c.Heard = fullCluster(100).Votes, [][]int64{{99, 0}} }), impl.OK},
		{"8 of the quorum", clusterWith(func(c *impl.Cluster) { *c = impl.NewCluster(quorumOf(8, firstKeys(8)...), nil, 4).Cluster }), impl.OK},
	}
}

// Each call asks the fault first, whatever else is not right, and answers nothing beside it.
func TestClusterFault(t *testing.T) {
	for _, row := range append(wrongClusters(), rightClusters()...) {
		if got := impl.ClusterFault(row.cluster); got != row.code {
			t.Errorf("%s: %d, want %d", row.name, got, row.code)
		}
		if got := plainClusterFault(row.cluster); got != row.code {
			t.Errorf("%s: the plain reading says %d, want %d", row.name, got, row.code)
		}
		for _, n := range nodesOf(10, 7, 2, 61, 0, 0) {
			holdGrowAgainstPlain(t, row.cluster, n)
		}
		for _, key := range []int64{0, 2, 3, 5, 7} {
			for _, id := range []int64{-1, 7, 20} {
				holdCastAtAgainstPlain(t, row.cluster, key, id)
				holdChooseAtAgainstPlain(t, row.cluster, key, impl.Ref{Tx: 1}, id)
				holdForgeAgainstPlain(t, row.cluster, blockVote(key, id))
			}
		}
		for hearer := int64(-1); hearer <= 4; hearer++ {
			holdHearAgainstPlain(t, row.cluster, hearer, 2)
			holdLocksAgainstPlain(t, row.cluster, hearer)
		}
	}
}

type clusterChange struct {
	name   string
	code   int64
	change func(c *impl.Cluster)
}

// orderedClusterFaults are those of the ordinary cluster, in the order in which they are asked.
func orderedClusterFaults() []clusterChange {
	return []clusterChange{
		{"Need 0", impl.ErrRange, func(c *impl.Cluster) { c.Quorum.Need = 0 }},
		{"22 Bad", impl.ErrMany, func(c *impl.Cluster) { c.Bad = append(c.Bad, firstKeys(999)[901:921]...) }},
		{"101 Votes", impl.ErrMany, func(c *impl.Cluster) { c.Votes = append(c.Votes, forgedVotes(91)...) }},
		{"6 Heard", impl.ErrMany, func(c *impl.Cluster) { c.Heard = append(c.Heard, nil, nil, nil) }},
		{"a Bad of 1000", impl.ErrRange, func(c *impl.Cluster) { c.Bad = append(c.Bad, 1000) }},
		{"Bad that fall", impl.ErrForm, func(c *impl.Cluster) { c.Bad = append(c.Bad, 1) }},
		{"a node that is there", impl.ErrTaken, func(c *impl.Cluster) { c.Tree = append(c.Tree, nodesOf(7, 0, 1)...) }},
		{"a voter too many", impl.ErrForm, func(c *impl.Cluster) { c.Voters = append(c.Voters, voterOf(8, 0)) }},
		{"a voter with a Last of 61", impl.ErrRange, func(c *impl.Cluster) { c.Voters[1].Last = 61 }},
		{"a vote that stands twice", impl.ErrTaken, func(c *impl.Cluster) { c.Votes[1] = c.Votes[0] }},
		{"a place of 999", impl.ErrRange, func(c *impl.Cluster) { c.Heard[1] = append(c.Heard[1], 999) }},
		{"a place twice of the last hearer", impl.ErrTaken, func(c *impl.Cluster) { c.Heard[2] = append(c.Heard[2], 9) }},
	}
}

// clustersWithTwoFaults have the code of the one that is named first.
func clustersWithTwoFaults() []clusterRow {
	var rows []clusterRow
	faults := orderedClusterFaults()
	for i, first := range faults {
		for _, second := range faults[i:] {
			c := clusterWith(func(c *impl.Cluster) {
				first.change(c)
				if second.name != first.name {
					second.change(c)
				}
			})
			rows = append(rows, clusterRow{first.name + ", " + second.name, c, first.code})
		}
	}
	return rows
}

// Of each two faults the one that is named first is told.
func TestTheOrderOfClusterFaults(t *testing.T) {
	for _, row := range clustersWithTwoFaults() {
		if got := holdFaultAgainstPlain(t, row.cluster); got != row.code {
			t.Errorf("%s: %d, want %d", row.name, got, row.code)
		}
	}
}

// Each vote that there may be in a small cluster, for each voter that there may be.
func TestAllVotesOfOneVoter(t *testing.T) {
	for n := int64(0); n <= 3; n++ {
		grownTrees(n, func(tree []impl.Node) {
			for last := int64(0); last <= 4; last++ {
				for _, bad := range [][]int64{nil, {4}, {9}} {
					c := impl.Cluster{Quorum: quorumOf(1, 4), Bad: bad, Tree: tree, Heard: [][]int64{nil}}
					if !slices.Contains(bad, 4) {
						c.Voters = []impl.Voter{voterOf(4, last, choicesOf(2, 0, 3)...)}
					}
					for block := int64(0); block <= 4; block++ {
						for _, x := range []impl.Vote{blockVote(4, block), blockVote(9, block), coinVote(4, 2, 0, block), coinVote(4, block, 0, 3)} {
							c.Votes = []impl.Vote{x}
							holdFaultAgainstPlain(t, c)
							c.Votes = []impl.Vote{blockVote(4, 1), x}
							holdFaultAgainstPlain(t, c)
						}
					}
				}
			}
		})
	}
}

func TestAllShortHeard(t *testing.T) {
	for votes := range 4 {
		c := clusterWith(func(c *impl.Cluster) { c.Votes = c.Votes[:votes] })
		listsOf([]int64{-1, 0, 1, 2, 3, 4}, 4, func(places []int64) {
			c.Heard = [][]int64{places, {0}}
			holdFaultAgainstPlain(t, c)
			c.Heard = [][]int64{nil, places}
			holdFaultAgainstPlain(t, c)
		})
	}
}

func TestAllShortBad(t *testing.T) {
	q := quorumOf(1, 1, 2, 999)
	listsOf([]int64{-1, 0, 1, 2, 3, 998, 999, 1000}, 4, func(bad []int64) {
		for _, hearers := range []int64{0, 1, 4, 5} {
			holdNewClusterAgainstPlain(t, q, bad, hearers)
		}
		c := impl.Cluster{Quorum: q, Bad: bad, Heard: make([][]int64, 1)}
		for _, keys := range [][]int64{nil, {1}, {2}, {1, 2}, {1, 999}, {1, 2, 999}} {
			c.Voters = nil
			for _, key := range keys {
				c.Voters = append(c.Voters, voterOf(key, 0))
			}
			holdFaultAgainstPlain(t, c)
		}
	})
}

func TestNewCluster(t *testing.T) {
	q := quorumOf(3, 2, 3, 5, 7)
	rows := []struct {
		name    string
		quorum  impl.Quorum
		bad     []int64
		hearers int64
		code    int64
	}{
		{"an ordinary one", q, []int64{5, 900}, 3, impl.OK},
		{"none is bad", q, nil, 1, impl.OK},
		{"all are bad", q, []int64{2, 3, 5, 7}, 4, impl.OK},
		{"none of those who are bad is of it", q, []int64{1, 4, 6, 999}, 2, impl.OK},
		{"20 bad", q, firstKeys(20), 1, impl.OK},
		{"one of 1", quorumOf(1, 1), []int64{1}, 1, impl.OK},
		{"8 keys", quorumOf(8, firstKeys(8)...), nil, 4, impl.OK},
		{"no hearers", q, nil, 0, impl.ErrMany},
		{"-1 hearers", q, nil, -1, impl.ErrMany},
		{"5 hearers", q, nil, 5, impl.ErrMany},
		{"the fewest hearers there are", q, nil, math.MinInt64, impl.ErrMany},
		{"the most hearers there are", q, nil, math.MaxInt64, impl.ErrMany},
		{"21 bad", q, firstKeys(21), 1, impl.ErrMany},
		{"a bad one of 0", q, []int64{0, 5}, 1, impl.ErrRange},
		{"a bad one of 1000", q, []int64{5, 1000}, 1, impl.ErrRange},
		{"a bad one of -1", q, []int64{-1}, 1, impl.ErrRange},
		{"bad ones that are the same", q, []int64{5, 5}, 1, impl.ErrForm},
		{"bad ones that fall", q, []int64{7, 5}, 1, impl.ErrForm},
		{"a quorum with a fault, 21 bad", quorumOf(0, 1), firstKeys(21), 1, impl.ErrRange},
		{"a quorum with a fault, no hearers", quorumOf(1, 2, 1), nil, 0, impl.ErrForm},
		{"no hearers, a bad one of 0", q, []int64{0}, 0, impl.ErrMany},
		{"21 bad that are all 0", q, make([]int64, 21), 1, impl.ErrMany},
		{"5 hearers, bad ones that fall", q, []int64{7, 5}, 5, impl.ErrMany},
		{"bad ones that fall ahead of one of 1000", q, []int64{7, 5, 1000}, 1, impl.ErrRange},
	}
	for _, row := range rows {
		r := holdNewClusterAgainstPlain(t, row.quorum, row.bad, row.hearers)
		if r.Code != row.code {
			t.Errorf("%s: %v, want %d", row.name, r, row.code)
		}
		if r.Code == impl.OK && impl.ClusterFault(r.Cluster) != impl.OK {
			t.Errorf("%s: a new one has the fault %d", row.name, impl.ClusterFault(r.Cluster))
		}
		if r.Code == impl.OK && (int64(len(r.Cluster.Heard)) != row.hearers || len(r.Cluster.Tree) != 0 || len(r.Cluster.Votes) != 0) {
			t.Errorf("%s: %v", row.name, r)
		}
	}
	for _, row := range append(wrongQuorums(), rightQuorums()...) {
		if r := holdNewClusterAgainstPlain(t, row.quorum, []int64{2, 999}, 2); r.Code != row.code {
			t.Errorf("%s: %v", row.name, r)
		}
	}
}

func TestGrowTree(t *testing.T) {
	c := ordinaryCluster()
	for _, row := range []struct {
		name string
		node impl.Node
		code int64
	}{
		{"behind another one", nodesOf(10, 20, 5)[0], impl.OK},
		{"beside another one", nodesOf(10, 7, 2)[0], impl.OK},
		{"a first one", nodesOf(10, 0, 1)[0], impl.OK},
		{"Id 0", nodesOf(0, 7, 2)[0], impl.ErrRange},
		{"Id 61", nodesOf(61, 7, 2)[0], impl.ErrRange},
		{"Height 0", nodesOf(10, 7, 0)[0], impl.ErrRange},
		{"Height 41", nodesOf(10, 7, 41)[0], impl.ErrRange},
		{"an Id that is there", nodesOf(7, 0, 1)[0], impl.ErrTaken},
		{"a Prev that is not there", nodesOf(10, 4, 2)[0], impl.ErrNone},
		{"a Prev that is itself", nodesOf(10, 10, 2)[0], impl.ErrNone},
		{"the Height of Prev", nodesOf(10, 7, 1)[0], impl.ErrForm},
		{"the Height of Prev and 2", nodesOf(10, 7, 3)[0], impl.ErrForm},
	} {
		want := impl.ClusterResult{Code: row.code}
		if row.code == impl.OK {
			want.Cluster = clusterWith(func(c *impl.Cluster) { c.Tree = append(c.Tree, row.node) })
		}
		if r := holdGrowAgainstPlain(t, c, row.node); !sameClusterResults(r, want) {
			t.Errorf("%s: %v, want %v", row.name, r, want)
		}
	}
	c.Tree, c.Votes, c.Heard = firstNodes(59), nil, [][]int64{nil}
	r := holdGrowAgainstPlain(t, c, nodesOf(60, 59, 2)[0])
	if r.Code != impl.OK || len(r.Cluster.Tree) != 60 {
		t.Fatal(r)
	}
	if r := holdGrowAgainstPlain(t, r.Cluster, nodesOf(60, 59, 2)[0]); r.Code != impl.ErrTaken {
		t.Error(r)
	}
}

func TestCastAt(t *testing.T) {
	strayed := clusterWith(func(c *impl.Cluster) { c.Voters[2].Last = 4 })
	for _, row := range []struct {
		name    string
		cluster impl.Cluster
		key, id int64
		code    int64
	}{
		{"one that has not voted", ordinaryCluster(), 7, 40, impl.OK},
		{"one that has not voted, for an end", ordinaryCluster(), 7, 60, impl.OK},
		{"for one behind Last", ordinaryCluster(), 3, 20, impl.OK},
		{"with 99 Votes", fullCluster(99), 3, 20, impl.OK},
		{"with 100 Votes", fullCluster(100), 3, 20, impl.ErrMany},
		{"with 100 Votes, for Last", fullCluster(100), 3, 9, impl.ErrState},
		{"with 100 Votes, of a key that is Bad", fullCluster(100), 5, 20, impl.ErrNone},
		{"for Last", ordinaryCluster(), 3, 9, impl.ErrState},
		{"for one above Last, for which its vote is there", ordinaryCluster(), 2, 7, impl.ErrState},
		{"for one above Last", ordinaryCluster(), 3, 3, impl.ErrState},
		{"for one beside Last", ordinaryCluster(), 3, 2, impl.ErrState},
		{"for one that is not in the tree", ordinaryCluster(), 7, 4, impl.ErrNone},
		{"for 0", ordinaryCluster(), 7, 0, impl.ErrNone},
		{"for 61", ordinaryCluster(), 7, 61, impl.ErrNone},
		{"of a key that is Bad", ordinaryCluster(), 5, 7, impl.ErrNone},
		{"of a key that is Bad and not of the quorum", ordinaryCluster(), 900, 7, impl.ErrNone},
		{"of a key that is not of the quorum", ordinaryCluster(), 4, 7, impl.ErrNone},
		{"of the key 0", ordinaryCluster(), 0, 7, impl.ErrNone},
		{"of the lowest key there is", ordinaryCluster(), math.MinInt64, 7, impl.ErrNone},
		{"of the highest key there is", ordinaryCluster(), math.MaxInt64, 7, impl.ErrNone},
		{"a Last that is not in the tree", strayed, 7, 7, impl.ErrState},
	} {
		want := impl.ClusterResult{Code: row.code}
		if row.code == impl.OK {
			want.Cluster = sameCluster(row.cluster)
			want.Cluster.Voters[plainVoterOf(want.Cluster, row.key)].Last = row.id
			want.Cluster.Votes = append(want.Cluster.Votes, blockVote(row.key, row.id))
		}
		if r := holdCastAtAgainstPlain(t, row.cluster, row.key, row.id); !sameClusterResults(r, want) {
			t.Errorf("%s: %v, want %v", row.name, r, want)
		}
	}
}

func TestChooseAt(t *testing.T) {
	unheard := clusterWith(func(c *impl.Cluster) { c.Voters[2].Choices = choicesOf(8, 1, 2) })
	chosen40 := clusterWith(func(c *impl.Cluster) { c.Voters[2].Choices = manyChoices(40) })
	for _, row := range []struct {
		name              string
		cluster           impl.Cluster
		key, refTx, at    int64
		tx                int64
		code              int64
		isNew, isNewVoted bool
	}{
		{"one that has chosen nothing", ordinaryCluster(), 7, 1, 0, 4, impl.OK, true, true},
		{"of another Ref", ordinaryCluster(), 2, 60, 3, 60, impl.OK, true, true},
		{"what it chose, and its vote is there", ordinaryCluster(), 2, 1, 0, 4, impl.OK, false, false},
		{"what it chose, and its vote is not there", ordinaryCluster(), 2, 1, 1, 4, impl.OK, false, true},
		{"what it chose, and no vote of it is there", unheard, 7, 8, 1, 2, impl.OK, false, true},
		{"with 99 Votes, a new one", fullCluster(99), 2, 2, 0, 4, impl.OK, true, true},
		{"with 99 Votes, one that is there", fullCluster(99), 2, 1, 0, 4, impl.OK, false, false},
		{"with 100 Votes, one that is there", fullCluster(100), 2, 1, 0, 4, impl.OK, false, false},
		{"with 100 Votes, a new one", fullCluster(100), 2, 2, 0, 4, impl.ErrMany, false, false},
		{"with 100 Votes, what it chose, and its vote is not there", fullCluster(100), 2, 1, 1, 4, impl.ErrMany, false, false},
		{"with 100 Votes, another Tx", fullCluster(100), 2, 1, 0, 5, impl.ErrTaken, false, false},
		{"another Tx", ordinaryCluster(), 2, 1, 0, 5, impl.ErrTaken, false, false},
		{"a Ref out of bounds", ordinaryCluster(), 2, 0, 0, 5, impl.ErrRange, false, false},
		{"a Ref with At 4", ordinaryCluster(), 2, 1, 4, 5, impl.ErrRange, false, false},
		{"a Tx of 0", ordinaryCluster(), 2, 1, 0, 0, impl.ErrRange, false, false},
		{"a Tx of 61", ordinaryCluster(), 2, 1, 0, 61, impl.ErrRange, false, false},
		{"one that has chosen 40, of another Ref", chosen40, 7, 11, 0, 1, impl.ErrMany, false, false},
		{"one that has chosen 40, one of these", chosen40, 7, 1, 0, 60, impl.OK, false, true},
		{"of a key that is Bad", ordinaryCluster(), 5, 1, 0, 4, impl.ErrNone, false, false},
		{"of a key that is Bad and not of the quorum", ordinaryCluster(), 900, 1, 0, 4, impl.ErrNone, false, false},
		{"of a key that is not of the quorum", ordinaryCluster(), 4, 1, 0, 4, impl.ErrNone, false, false},
		{"of a key that is not of the quorum, a Tx of 0", ordinaryCluster(), 4, 1, 0, 0, impl.ErrNone, false, false},
		{"of the lowest key there is", ordinaryCluster(), math.MinInt64, 1, 0, 4, impl.ErrNone, false, false},
	} {
		want := impl.ClusterResult{Code: row.code}
		if row.code == impl.OK {
			want.Cluster = sameCluster(row.cluster)
		}
		if row.isNew {
			v := &want.Cluster.Voters[plainVoterOf(want.Cluster, row.key)]
			v.Choices = append(v.Choices, choicesOf(row.refTx, row.at, row.tx)...)
		}
		if row.isNewVoted {
			want.Cluster.Votes = append(want.Cluster.Votes, coinVote(row.key, row.refTx, row.at, row.tx))
		}
		if r := holdChooseAtAgainstPlain(t, row.cluster, row.key, impl.Ref{Tx: row.refTx, At: row.at}, row.tx); !sameClusterResults(r, want) {
			t.Errorf("%s: %v, want %v", row.name, r, want)
		}
	}
}

func TestForgeAt(t *testing.T) {
	for _, row := range []struct {
		name    string
		cluster impl.Cluster
		vote    impl.Vote
		code    int64
		isNew   bool
	}{
		{"for a block", ordinaryCluster(), blockVote(5, 60), impl.OK, true},
		{"for a block that is not in the tree", ordinaryCluster(), blockVote(5, 4), impl.OK, true},
		{"of a coin for which it voted already", ordinaryCluster(), coinVote(5, 1, 0, 5), impl.OK, true},
		{"one that is there", ordinaryCluster(), blockVote(5, 40), impl.OK, false},
		{"one of a coin that is there", ordinaryCluster(), coinVote(5, 1, 0, 4), impl.OK, false},
		{"with 99 Votes, a new one", fullCluster(99), blockVote(5, 60), impl.OK, true},
		{"with 99 Votes, one that is there", fullCluster(99), blockVote(5, 40), impl.OK, false},
		{"with 100 Votes, one that is there", fullCluster(100), blockVote(5, 40), impl.OK, false},
		{"with 100 Votes, a new one", fullCluster(100), blockVote(5, 60), impl.ErrMany, false},
		{"with 100 Votes, of a key that is not Bad", fullCluster(100), blockVote(7, 7), impl.ErrSign, false},
		{"of a key that is not Bad", ordinaryCluster(), blockVote(7, 7), impl.ErrSign, false},
		{"of a key that is not Bad, and it is there", ordinaryCluster(), blockVote(2, 7), impl.ErrSign, false},
		{"of a key that is not Bad, what it chose", ordinaryCluster(), coinVote(2, 1, 1, 4), impl.ErrSign, false},
		{"of a key that is Bad and not of the quorum", ordinaryCluster(), blockVote(900, 7), impl.ErrSign, false},
		{"of a key that is neither", ordinaryCluster(), blockVote(4, 7), impl.ErrSign, false},
		{"with a fault, of a key that is not Bad", ordinaryCluster(), blockVote(2, 61), impl.ErrRange, false},
		{"with a fault, of a key that is neither", ordinaryCluster(), impl.Vote{Key: 4, Kind: 3}, impl.ErrForm, false},
		{"with a fault, and 100 Votes", fullCluster(100), blockVote(5, 0), impl.ErrRange, false},
		{"the Key 1000", ordinaryCluster(), blockVote(1000, 7), impl.ErrRange, false},
	} {
		want := impl.ClusterResult{Code: row.code}
		if row.code == impl.OK {
			want.Cluster = sameCluster(row.cluster)
		}
		if row.isNew {
			want.Cluster.Votes = append(want.Cluster.Votes, row.vote)
		}
		if r := holdForgeAgainstPlain(t, row.cluster, row.vote); !sameClusterResults(r, want) {
			t.Errorf("%s: %v, want %v", row.name, r, want)
		}
	}
	for _, row := range wrongVotes() {
		x := row.vote
		if x.Key == 1 {
			x.Key = 5
		}
		if r := holdForgeAgainstPlain(t, ordinaryCluster(), x); r.Code != row.code {
			t.Errorf("%s: %v", row.name, r)
		}
	}
}

func TestHearAt(t *testing.T) {
	for _, row := range []struct {
		name       string
		hearer, at int64
		code       int64
		isNew      bool
	}{
		{"the first place", 1, 0, impl.OK, true},
		{"the last place", 1, 9, impl.OK, true},
		{"behind others", 0, 3, impl.OK, true},
		{"the last hearer", 2, 0, impl.OK, true},
		{"what it heard already", 0, 4, impl.OK, false},
		{"what it heard already, in the midst", 2, 3, impl.OK, false},
		{"what another one heard", 2, 4, impl.OK, true},
		{"the place -1", 0, -1, impl.ErrRange, false},
		{"the place 10", 0, 10, impl.ErrRange, false},
		{"the hearer -1", -1, 0, impl.ErrRange, false},
		{"the hearer 3", 3, 0, impl.ErrRange, false},
		{"the lowest place there is", 0, math.MinInt64, impl.ErrRange, false},
		{"the highest place there is", 0, math.MaxInt64, impl.ErrRange, false},
		{"the lowest hearer there is", math.MinInt64, 0, impl.ErrRange, false},
		{"the highest hearer there is", math.MaxInt64, 0, impl.ErrRange, false},
	} {
		want := impl.ClusterResult{Code: row.code}
		if row.code == impl.OK {
			want.Cluster = ordinaryCluster()
		}
		if row.isNew {
			want.Cluster.Heard[row.hearer] = append(want.Cluster.Heard[row.hearer], row.at)
		}
		if r := holdHearAgainstPlain(t, ordinaryCluster(), row.hearer, row.at); !sameClusterResults(r, want) {
			t.Errorf("%s: %v, want %v", row.name, r, want)
		}
	}
	for _, votes := range []int64{0, 1, 99, 100} {
		c := clusterWith(func(c *impl.Cluster) { c.Votes, c.Heard = fullCluster(100).Votes[:votes], make([][]int64, 4) })
		for _, at := range []int64{-1, 0, votes - 1, votes} {
			for _, hearer := range []int64{-1, 0, 3, 4} {
				r := holdHearAgainstPlain(t, c, hearer, at)
				if isIn := at >= 0 && at < votes && hearer >= 0 && hearer < 4; isIn != (r.Code == impl.OK) {
					t.Errorf("%d votes, %d hears %d: %v", votes, hearer, at, r)
				}
			}
		}
	}
}

func TestLocksAt(t *testing.T) {
	heard := func(places ...int64) impl.Cluster {
		return clusterWith(func(c *impl.Cluster) {
			c.Votes = append(c.Votes, blockVote(2, 9), blockVote(5, 9), blockVote(3, 3), blockVote(2, 3), blockVote(5, 3))
			c.Heard = [][]int64{nil, places}
		})
	}
	for _, row := range []struct {
		name    string
		cluster impl.Cluster
		hearer  int64
		want    impl.IntsResult
	}{
		{"three heard, one of them of who is Bad", ordinaryCluster(), 0, impl.IntsResult{List: []int64{7}}},
		{"none heard", ordinaryCluster(), 1, impl.IntsResult{}},
		{"three heard, of three blocks", ordinaryCluster(), 2, impl.IntsResult{}},
		{"the hearer -1", ordinaryCluster(), -1, impl.IntsResult{Code: impl.ErrRange}},
		{"the hearer 3", ordinaryCluster(), 3, impl.IntsResult{Code: impl.ErrRange}},
		{"the lowest hearer there is", ordinaryCluster(), math.MinInt64, impl.IntsResult{Code: impl.ErrRange}},
		{"the highest hearer there is", ordinaryCluster(), math.MaxInt64, impl.IntsResult{Code: impl.ErrRange}},
		{"two of three heard", heard(0, 4), 1, impl.IntsResult{}},
		{"votes that were put and not heard", heard(0, 4, 9, 10), 1, impl.IntsResult{}},
		{"two that are locked, in the order of the tree", heard(9, 10, 11, 5, 4, 0), 1, impl.IntsResult{List: []int64{7, 9}}},
		{"three that are locked", heard(14, 13, 12, 11, 10, 9, 5, 4, 0), 1, impl.IntsResult{List: []int64{7, 3, 9}}},
		{"all heard", heard(0, 1, 2, 3, 4, 5, 6, 7, 8, 9, 10, 11, 12, 13, 14), 1, impl.IntsResult{List: []int64{7, 3, 9}}},
		{"a hearer that heard nothing beside one that heard all", heard(0, 1, 2, 3, 4, 5, 6, 7, 8, 9, 10, 11, 12, 13, 14), 0, impl.IntsResult{}},
	} {
		if r := holdLocksAgainstPlain(t, row.cluster, row.hearer); !sameInts(r, row.want) {
			t.Errorf("%s: %v, want %v", row.name, r, row.want)
		}
	}
}

// One vote of each key of a quorum of 4, of which some are bad: a block is locked just where Need were heard, whoever they are; a block that is not in the tree never is.
func TestLocksOfEachLotHeard(t *testing.T) {
	for need := int64(1); need <= 4; need++ {
		for badSet := range 16 {
			keys := firstKeys(4)
			c := impl.NewCluster(quorumOf(need, keys...), keysIn(keys, badSet), 1).Cluster
			c = impl.GrowTree(c, nodesOf(8, 0, 1)[0]).Cluster
			for _, key := range keys {
				if r := impl.ForgeAt(c, blockVote(key, 9)); r.Code == impl.OK {
					c = impl.ForgeAt(r.Cluster, blockVote(key, 8)).Cluster
					continue
				}
				c = impl.CastAt(c, key, 8).Cluster
			}
			for set := range 1 << len(c.Votes) {
				count := int64(0)
				c.Heard[0] = nil
				for at, x := range c.Votes {
					if set>>at&1 == 0 {
						continue
					}
					c.Heard[0] = append(c.Heard[0], int64(at))
					if x.Block == 8 {
						count++
					}
				}
				want := impl.IntsResult{}
				if count >= need {
					want.List = []int64{8}
				}
				if r := holdLocksAgainstPlain(t, c, 0); !sameInts(r, want) {
					t.Fatalf("%v: %v, want %v", c, r, want)
				}
			}
		}
	}
}

// Promise 1: memory, nil and empty, the same again.

// roomyCluster has marks behind the end of each of its lists that nobody may write to.
func roomyCluster(c impl.Cluster) impl.Cluster {
	c.Quorum.Keys, c.Bad, c.Tree, c.Votes = roomyNumbers(c.Quorum.Keys), roomyNumbers(c.Bad), roomyTree(c.Tree), roomyVotes(c.Votes)
	voters := append(slices.Clone(c.Voters), voterOf(71, 72), voterOf(73, 74))
	for i, v := range voters {
		voters[i] = roomyVoter(v)
	}
	heard := append(slices.Clone(c.Heard), []int64{75}, []int64{76})
	for i, places := range heard {
		heard[i] = roomyNumbers(places)
	}
	c.Voters, c.Heard = voters[:len(c.Voters)], heard[:len(c.Heard)]
	return c
}

// memory is one list of a cluster: what stands in it up to its capacity, and how to write over that.
type memory struct {
	told  func() string
	spoil func()
}

// memoryOf is told by what stands in the list itself: a list in it is another memory.
func memoryOf[T any](list []T, mark T, tell func(T) string) memory {
	whole := list[:cap(list)]
	return memory{
		told: func() string {
			var told []string
			for _, x := range whole {
				told = append(told, tell(x))
			}
			return strings.Join(told, " ")
		},
		spoil: func() {
			for i := range whole {
				whole[i] = mark
			}
		},
	}
}

func tellWhole[T any](x T) string { return fmt.Sprint(x) }

func tellVoter(v impl.Voter) string { return fmt.Sprint(v.Key, v.Last, len(v.Choices)) }

func tellLength(list []int64) string { return fmt.Sprint(len(list)) }

func memoriesOf(c impl.Cluster) []memory {
	parts := []memory{
		memoryOf(c.Quorum.Keys, -9, tellWhole), memoryOf(c.Bad, -9, tellWhole), memoryOf(c.Tree, impl.Node{Id: -9}, tellWhole),
		memoryOf(c.Votes, blockVote(-9, -9), tellWhole), memoryOf(c.Voters, voterOf(-9, -9), tellVoter), memoryOf(c.Heard, make([]int64, 50), tellLength),
	}
	for _, v := range c.Voters[:cap(c.Voters)] {
		parts = append(parts, memoryOf(v.Choices, choicesOf(-9, -9, -9)[0], tellWhole))
	}
	for _, places := range c.Heard[:cap(c.Heard)] {
		parts = append(parts, memoryOf(places, -9, tellWhole))
	}
	return parts
}

func toldOf(parts []memory) []string {
	var told []string
	for _, part := range parts {
		told = append(told, part.told())
	}
	return told
}

type clusterCall struct {
	name string
	call func(c impl.Cluster) impl.ClusterResult
}

func clusterCalls() []clusterCall {
	return []clusterCall{
		{"NewCluster", func(c impl.Cluster) impl.ClusterResult { return impl.NewCluster(c.Quorum, c.Bad, int64(len(c.Heard))) }},
		{"GrowTree", func(c impl.Cluster) impl.ClusterResult { return impl.GrowTree(c, nodesOf(10, 0, 1)[0]) }},
		{"CastAt", func(c impl.Cluster) impl.ClusterResult { return impl.CastAt(c, 7, 40) }},
		{"ChooseAt", func(c impl.Cluster) impl.ClusterResult { return impl.ChooseAt(c, 2, impl.Ref{Tx: 9}, 9) }},
		{"ChooseAt, again", func(c impl.Cluster) impl.ClusterResult { return impl.ChooseAt(c, 2, impl.Ref{Tx: 1}, 4) }},
		{"ForgeAt", func(c impl.Cluster) impl.ClusterResult { return impl.ForgeAt(c, blockVote(5, 60)) }},
		{"ForgeAt, again", func(c impl.Cluster) impl.ClusterResult { return impl.ForgeAt(c, blockVote(5, 40)) }},
		{"HearAt", func(c impl.Cluster) impl.ClusterResult { return impl.HearAt(c, 0, 1) }},
		{"HearAt, again", func(c impl.Cluster) impl.ClusterResult { return impl.HearAt(c, 0, 0) }},
	}
}

func TestClustersAreNotChanged(t *testing.T) {
	for _, row := range append(wrongClusters(), rightClusters()...) {
		c := roomyCluster(row.cluster)
		was := toldOf(memoriesOf(c))
		impl.ClusterFault(c)
		for hearer := int64(-1); hearer <= 4; hearer++ {
			impl.LocksAt(c, hearer)
		}
		for _, call := range clusterCalls() {
			call.call(c)
			if !slices.Equal(toldOf(memoriesOf(c)), was) {
				t.Fatalf("%s: %s changed an argument", row.name, call.name)
			}
		}
	}
}

func TestAnswersOfClustersShareNoMemory(t *testing.T) {
	for _, row := range rightClusters() {
		for _, call := range clusterCalls() {
			c := roomyCluster(row.cluster)
			one, two := call.call(c), call.call(c)
			if !sameClusterResults(one, two) {
				t.Fatalf("%s: %s: %v, and then %v", row.name, call.name, one, two)
			}
			parts := slices.Concat(memoriesOf(one.Cluster), memoriesOf(two.Cluster), memoriesOf(c))
			for i, part := range parts {
				was := toldOf(parts)
				part.spoil()
				now := toldOf(parts)
				for j := range parts {
					if i != j && was[j] != now[j] {
						t.Errorf("%s: %s: who writes to one list writes to another one: %s, it was %s", row.name, call.name, now[j], was[j])
					}
				}
			}
		}
	}
}

func TestLocksShareNoMemory(t *testing.T) {
	c := roomyCluster(ordinaryCluster())
	was := toldOf(memoriesOf(c))
	one, two := impl.LocksAt(c, 0), impl.LocksAt(c, 0)
	spoilNumbers(one.List)
	if !slices.Equal(toldOf(memoriesOf(c)), was) || !sameInts(two, impl.IntsResult{List: []int64{7}}) {
		t.Error("who writes to an answer writes to something else")
	}
	for _, part := range memoriesOf(c) {
		part.spoil()
	}
	if !sameInts(two, impl.IntsResult{List: []int64{7}}) {
		t.Error("who writes to an argument writes to the answer")
	}
}

func TestEmptyAndNilOfClustersAreTheSame(t *testing.T) {
	none := impl.Cluster{Quorum: quorumOf(1, 1), Heard: [][]int64{nil}, Voters: []impl.Voter{{Key: 1}}}
	empty := impl.Cluster{
		Quorum: quorumOf(1, 1), Bad: []int64{}, Tree: []impl.Node{}, Votes: []impl.Vote{},
		Voters: []impl.Voter{{Key: 1, Choices: []impl.Choice{}}}, Heard: [][]int64{{}},
	}
	for _, c := range []impl.Cluster{none, empty} {
		if code := holdFaultAgainstPlain(t, c); code != impl.OK {
			t.Error(code)
		}
		grown := holdGrowAgainstPlain(t, c, nodesOf(1, 0, 1)[0])
		if cast := holdCastAtAgainstPlain(t, grown.Cluster, 1, 1); cast.Code != impl.OK || len(cast.Cluster.Votes) != 1 {
			t.Error(cast)
		}
		holdChooseAtAgainstPlain(t, c, 1, impl.Ref{Tx: 1}, 1)
		holdForgeAgainstPlain(t, c, blockVote(1, 1))
		holdHearAgainstPlain(t, c, 0, 0)
		if r := holdLocksAgainstPlain(t, c, 0); !sameInts(r, impl.IntsResult{}) {
			t.Error(r)
		}
	}
	for _, bad := range [][]int64{nil, {}} {
		if r := holdNewClusterAgainstPlain(t, quorumOf(1, 1), bad, 1); !sameClusterResults(r, impl.ClusterResult{Cluster: none}) {
			t.Error(r)
		}
	}
	if code := impl.ClusterFault(impl.Cluster{Quorum: quorumOf(1, 1), Voters: none.Voters, Heard: [][]int64{}}); code != impl.ErrMany {
		t.Error(code)
	}
}

func TestClustersHangOnTheArgumentsAlone(t *testing.T) {
	var first []impl.ClusterResult
	for _, call := range clusterCalls() {
		first = append(first, call.call(ordinaryCluster()))
	}
	for i := range int64(20) {
		impl.NewCluster(quorumOf(1, i+1), []int64{i}, i)
		impl.ClusterFault(fullCluster(int(90 + i)))
		impl.CastAt(fullCluster(99), 7, i)
		impl.LocksAt(fullCluster(100), i)
		for at, call := range clusterCalls() {
			if r := call.call(ordinaryCluster()); !sameClusterResults(r, first[at]) || r.Code != impl.OK {
				t.Fatalf("%s: %v, and it was %v", call.name, r, first[at])
			}
		}
		if r := impl.LocksAt(ordinaryCluster(), 0); !sameInts(r, impl.IntsResult{List: []int64{7}}) {
			t.Fatal(r)
		}
	}
}
