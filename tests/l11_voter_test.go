package tests

import (
	"math"
	"math/rand"
	"slices"
	"testing"

	"loop.example/g00304/impl"
)

// The plain reading of chapter 11: what the program is held against.

func plainVoterFault(v impl.Voter) int64 {
	if v.Key < 1 || v.Key > 999 || v.Last < 0 || v.Last > 60 {
		return impl.ErrRange
	}
	if len(v.Choices) > 40 {
		return impl.ErrMany
	}
	for i, c := range v.Choices {
		if !plainRefIsSo(c.Ref) || c.Tx < 1 || c.Tx > 60 {
			return impl.ErrRange
		}
		for _, ahead := range v.Choices[:i] {
			if ahead.Ref.Tx == c.Ref.Tx && ahead.Ref.At == c.Ref.At {
				return impl.ErrTaken
			}
		}
	}
	return impl.OK
}

func plainVoteFault(x impl.Vote) int64 {
	hasCoin := x.Ref.Tx != 0 || x.Ref.At != 0 || x.Tx != 0
	if x.Kind != 1 && x.Kind != 2 || x.Kind == 1 && hasCoin || x.Kind == 2 && x.Block != 0 {
		return impl.ErrForm
	}
	if x.Key < 1 || x.Key > 999 {
		return impl.ErrRange
	}
	if x.Kind == 1 && (x.Block < 1 || x.Block > 60) {
		return impl.ErrRange
	}
	if x.Kind == 2 && (!plainRefIsSo(x.Ref) || x.Tx < 1 || x.Tx > 60) {
		return impl.ErrRange
	}
	return impl.OK
}

func plainNewVoter(key int64) impl.VoterResult {
	if key < 1 || key > 999 {
		return impl.VoterResult{Code: impl.ErrRange}
	}
	return impl.VoterResult{Voter: impl.Voter{Key: key}}
}

func plainCast(tree []impl.Node, v impl.Voter, id int64) impl.VoterResult {
	for _, code := range []int64{plainTreeFault(tree), plainVoterFault(v)} {
		if code != impl.OK {
			return impl.VoterResult{Code: code}
		}
	}
	if plainNode(tree, id) < 0 {
		return impl.VoterResult{Code: impl.ErrNone}
	}
	if v.Last != 0 && !plainIsAbove(tree, v.Last, id) || v.Last == id {
		return impl.VoterResult{Code: impl.ErrState}
	}
	return impl.VoterResult{Vote: blockVote(v.Key, id), Voter: voterOf(v.Key, id, v.Choices...)}
}

func plainChooseFor(v impl.Voter, r impl.Ref, tx int64) impl.VoterResult {
	if code := plainVoterFault(v); code != impl.OK {
		return impl.VoterResult{Code: code}
	}
	if !plainRefIsSo(r) || tx < 1 || tx > 60 {
		return impl.VoterResult{Code: impl.ErrRange}
	}
	isNew := true
	for _, c := range v.Choices {
		if c.Ref == r && c.Tx != tx {
			return impl.VoterResult{Code: impl.ErrTaken}
		}
		isNew = isNew && c.Ref != r
	}
	choices := slices.Clone(v.Choices)
	if isNew {
		if len(v.Choices) == 40 {
			return impl.VoterResult{Code: impl.ErrMany}
		}
		choices = append(choices, impl.Choice{Ref: r, Tx: tx})
	}
	return impl.VoterResult{Vote: coinVote(v.Key, r.Tx, r.At, tx), Voter: voterOf(v.Key, v.Last, choices...)}
}

// plainCount goes through the votes and tells who voted so, each once.
func plainCount(votes []impl.Vote, q impl.Quorum, x impl.Vote) impl.IntResult {
	for _, code := range []int64{plainQuorumFault(q), plainVoteFault(x)} {
		if code != impl.OK {
			return impl.IntResult{Code: code}
		}
	}
	if len(votes) > 100 {
		return impl.IntResult{Code: impl.ErrMany}
	}
	var who []int64
	for _, y := range votes {
		if y.Kind != x.Kind || y.Block != x.Block || y.Ref.Tx != x.Ref.Tx || y.Ref.At != x.Ref.At || y.Tx != x.Tx {
			continue
		}
		if slices.Contains(q.Keys, y.Key) && !slices.Contains(who, y.Key) {
			who = append(who, y.Key)
		}
	}
	return impl.IntResult{Value: int64(len(who))}
}

func plainIsLocked(votes []impl.Vote, q impl.Quorum, x impl.Vote) bool {
	r := plainCount(votes, q, x)
	return r.Code == impl.OK && r.Value >= q.Need
}

func blockVote(key, block int64) impl.Vote {
	return impl.Vote{Key: key, Kind: 1, Block: block}
}

func coinVote(key, refTx, at, tx int64) impl.Vote {
	return impl.Vote{Key: key, Kind: 2, Ref: impl.Ref{Tx: refTx, At: at}, Tx: tx}
}

func voterOf(key, last int64, choices ...impl.Choice) impl.Voter {
	return impl.Voter{Key: key, Last: last, Choices: choices}
}

// choicesOf takes three numbers for each choice: Tx and At of the Ref, and Tx.
func choicesOf(numbers ...int64) []impl.Choice {
	var choices []impl.Choice
	for part := range slices.Chunk(numbers, 3) {
		choices = append(choices, impl.Choice{Ref: impl.Ref{Tx: part[0], At: part[1]}, Tx: part[2]})
	}
	return choices
}

// manyChoices are of the refs 1:0, 1:1, 1:2, 1:3, 2:0 and so on.
func manyChoices(n int) []impl.Choice {
	var choices []impl.Choice
	for i := range int64(n) {
		choices = append(choices, choicesOf(i/4+1, i%4, 60-i%60)...)
	}
	return choices
}

func withChoice(list []impl.Choice, at int, numbers ...int64) []impl.Choice {
	changed := slices.Clone(list)
	changed[at] = choicesOf(numbers...)[0]
	return changed
}

// votesFor are those of the keys for the same as x.
func votesFor(x impl.Vote, keys ...int64) []impl.Vote {
	var votes []impl.Vote
	for _, key := range keys {
		x.Key = key
		votes = append(votes, x)
	}
	return votes
}

func sameVoters(a, b impl.Voter) bool {
	return a.Key == b.Key && a.Last == b.Last && slices.Equal(a.Choices, b.Choices)
}

func sameVoterResults(a, b impl.VoterResult) bool {
	return a.Code == b.Code && a.Vote == b.Vote && sameVoters(a.Voter, b.Voter)
}

func copyVoter(v impl.Voter) impl.Voter {
	v.Choices = slices.Clone(v.Choices)
	return v
}

func holdVoterAgainstPlain(t *testing.T, v impl.Voter) {
	t.Helper()
	was := copyVoter(v)
	if got, want := impl.VoterFault(v), plainVoterFault(v); got != want {
		t.Fatalf("VoterFault(%v) = %d, want %d", v, got, want)
	}
	if !sameVoters(v, was) {
		t.Fatalf("an argument was changed: %v, it was %v", v, was)
	}
}

func holdVoteAgainstPlain(t *testing.T, x impl.Vote) {
	t.Helper()
	if got, want := impl.VoteFault(x), plainVoteFault(x); got != want {
		t.Fatalf("VoteFault(%v) = %d, want %d", x, got, want)
	}
}

func holdCastAgainstPlain(t *testing.T, tree []impl.Node, v impl.Voter, id int64) impl.VoterResult {
	t.Helper()
	wasTree, was := slices.Clone(tree), copyVoter(v)
	got, want := impl.CastFor(tree, v, id), plainCast(tree, v, id)
	if !sameVoterResults(got, want) {
		t.Fatalf("CastFor(%v, %v, %d) = %v, want %v", tree, v, id, got, want)
	}
	if !slices.Equal(tree, wasTree) || !sameVoters(v, was) {
		t.Fatalf("an argument was changed: %v %v, they were %v %v", tree, v, wasTree, was)
	}
	return got
}

func holdChooseForAgainstPlain(t *testing.T, v impl.Voter, r impl.Ref, tx int64) impl.VoterResult {
	t.Helper()
	was := copyVoter(v)
	got, want := impl.ChooseFor(v, r, tx), plainChooseFor(v, r, tx)
	if !sameVoterResults(got, want) {
		t.Fatalf("ChooseFor(%v, %v, %d) = %v, want %v", v, r, tx, got, want)
	}
	if !sameVoters(v, was) {
		t.Fatalf("an argument was changed: %v, it was %v", v, was)
	}
	return got
}

func holdCountAgainstPlain(t *testing.T, votes []impl.Vote, q impl.Quorum, x impl.Vote) impl.IntResult {
	t.Helper()
	wasVotes, wasKeys := slices.Clone(votes), slices.Clone(q.Keys)
	got, want := impl.CountFor(votes, q, x), plainCount(votes, q, x)
	if got != want {
		t.Fatalf("CountFor(%v, %v, %v) = %v, want %v", votes, q, x, got, want)
	}
	if locked := impl.IsLocked(votes, q, x); locked != plainIsLocked(votes, q, x) {
		t.Fatalf("IsLocked(%v, %v, %v) = %v", votes, q, x, locked)
	}
	if !slices.Equal(votes, wasVotes) || !slices.Equal(q.Keys, wasKeys) {
		t.Fatalf("an argument was changed: %v %v, they were %v %v", votes, q, wasVotes, wasKeys)
	}
	return got
}

// Promise 12: a voter's votes for blocks are each behind the one ahead; of a coin a voter chooses one, for ever; a lock needs as many as are needed, each counted once.

func TestTheNumbersOfTheKinds(t *testing.T) {
	if impl.VoteBlock != 1 || impl.VoteCoin != 2 {
		t.Error(impl.VoteBlock, impl.VoteCoin)
	}
}

// In the wood the voter 5 goes by 7 and 9 to 20; what is beside that way it never votes for.
func TestAVoterGoesOneWay(t *testing.T) {
	v := impl.NewVoter(5).Voter
	for _, step := range []struct {
		id   int64
		code int64
	}{
		{0, impl.ErrNone}, {6, impl.ErrNone}, {7, impl.OK}, {7, impl.ErrState}, {40, impl.ErrState}, {1, impl.ErrState}, {9, impl.OK},
		{7, impl.ErrState}, {3, impl.ErrState}, {9, impl.ErrState}, {2, impl.ErrState}, {5, impl.ErrState}, {60, impl.ErrState}, {61, impl.ErrNone},
		{20, impl.OK}, {20, impl.ErrState}, {9, impl.ErrState}, {60, impl.ErrState}, {0, impl.ErrNone},
	} {
		r := holdCastAgainstPlain(t, wood(), v, step.id)
		want := impl.VoterResult{Code: step.code}
		if step.code == impl.OK {
			want.Vote, want.Voter = blockVote(5, step.id), voterOf(5, step.id)
			v = r.Voter
		}
		if !sameVoterResults(r, want) {
			t.Fatalf("for %d: %v, want %v", step.id, r, want)
		}
	}
}

// Each voter of each tree of up to 4 nodes, asked for each pair of blocks, and for a third one.
func TestVotesInAllSmallTrees(t *testing.T) {
	for n := int64(0); n <= 4; n++ {
		grownTrees(n, func(tree []impl.Node) {
			for last := int64(0); last <= 5; last++ {
				for id := int64(-1); id <= 5; id++ {
					one := holdCastAgainstPlain(t, tree, voterOf(7, last, choicesOf(1, 0, 2)...), id)
					if one.Code != impl.OK {
						continue
					}
					if last != 0 && (last == id || !impl.IsAbove(tree, last, id)) {
						t.Fatalf("%v: it voted for %d behind %d", tree, id, last)
					}
					for other := int64(0); other <= 4; other++ {
						two := holdCastAgainstPlain(t, tree, one.Voter, other)
						if goes := other != id && impl.IsAbove(tree, id, other); goes != (two.Code == impl.OK) {
							t.Fatalf("%v: for %d behind %d: %v", tree, other, id, two)
						}
					}
				}
			}
		})
	}
}

// holdWalk asks of all that a voter voted for on its way what is promised of it.
func holdWalk(t *testing.T, tree []impl.Node, blocks []int64, chosen map[impl.Ref]int64, v impl.Voter) {
	t.Helper()
	for i, block := range blocks {
		for _, ahead := range blocks[:i] {
			if ahead == block || !impl.IsAbove(tree, ahead, block) {
				t.Fatalf("%v: %d was voted for behind %d", tree, block, ahead)
			}
		}
	}
	if len(v.Choices) != len(chosen) || impl.VoterFault(v) != impl.OK {
		t.Fatal(v, chosen)
	}
	for _, c := range v.Choices {
		if chosen[c.Ref] != c.Tx {
			t.Fatalf("%v was chosen, %d is told", c, chosen[c.Ref])
		}
	}
	if len(blocks) > 0 && v.Last != blocks[len(blocks)-1] {
		t.Fatal(v, blocks)
	}
}

func TestRandomWalksOfAVoter(t *testing.T) {
	dice := rand.New(rand.NewSource(12))
	cast, refused := 0, 0
	for range 60 {
		whole := randomTree(dice, 1+dice.Intn(60))
		shown := 1 + dice.Intn(len(whole))
		v := impl.NewVoter(1 + dice.Int63n(999)).Voter
		var blocks []int64
		chosen := map[impl.Ref]int64{}
		for range 120 {
			if dice.Intn(4) == 0 && shown < len(whole) {
				shown++
			}
			tree := whole[:shown]
			if dice.Intn(2) == 0 {
				r := holdCastAgainstPlain(t, tree, v, tree[dice.Intn(len(tree))].Id)
				if r.Code != impl.OK {
					refused++
					continue
				}
				cast++
				blocks = append(blocks, r.Vote.Block)
				v = r.Voter
				continue
			}
			ref := impl.Ref{Tx: 1 + dice.Int63n(15), At: dice.Int63n(4)}
			r := holdChooseForAgainstPlain(t, v, ref, 1+dice.Int63n(3))
			if r.Code == impl.OK {
				if was, found := chosen[ref]; found && was != r.Vote.Tx {
					t.Fatalf("of %v it chose %d and %d", ref, was, r.Vote.Tx)
				}
				chosen[ref] = r.Vote.Tx
				v = r.Voter
			}
		}
		holdWalk(t, whole, blocks, chosen, v)
	}
	if cast < 100 || refused < 100 {
		t.Errorf("%d votes, %d refused: the walks are too tame", cast, refused)
	}
}

// Of each of 40 coins the voter chooses one, and stays with it whatever it is asked later.
func TestAChoiceStaysForEver(t *testing.T) {
	v := impl.NewVoter(999).Voter
	for i := range int64(40) {
		r := impl.Ref{Tx: i/4 + 1, At: i % 4}
		got := holdChooseForAgainstPlain(t, v, r, i+1)
		if got.Code != impl.OK || got.Vote != coinVote(999, r.Tx, r.At, i+1) || got.Voter.Last != 0 {
			t.Fatal(got)
		}
		v = got.Voter
		for j := int64(0); j <= i; j++ {
			r := impl.Ref{Tx: j/4 + 1, At: j % 4}
			same := holdChooseForAgainstPlain(t, v, r, j+1)
			if same.Code != impl.OK || !sameVoters(same.Voter, v) || same.Vote != coinVote(999, r.Tx, r.At, j+1) {
				t.Fatalf("again %v: %v", r, same)
			}
			for _, other := range []int64{j, j + 2} {
				other = (other+59)%60 + 1
				if got := holdChooseForAgainstPlain(t, v, r, other); !sameVoterResults(got, impl.VoterResult{Code: impl.ErrTaken}) {
					t.Fatalf("another one of %v: %v", r, got)
				}
			}
		}
	}
	if got := holdChooseForAgainstPlain(t, v, impl.Ref{Tx: 11}, 1); !sameVoterResults(got, impl.VoterResult{Code: impl.ErrMany}) {
		t.Error(got)
	}
}

// Each lot of voters of quorums of 1 to 6 keys, once and twice, in both orders: it is locked just where as many as are needed are in it.
func TestALockNeedsAsManyAsAreNeeded(t *testing.T) {
	all := []int64{1, 5, 6, 40, 300, 999}
	for _, x := range []impl.Vote{blockVote(2, 60), coinVote(2, 60, 3, 60)} {
		for n := 1; n <= len(all); n++ {
			for set := range 1 << n {
				who := keysIn(all[:n], set)
				votes := votesFor(x, who...)
				twice := slices.Concat(votes, votes)
				slices.Reverse(votes)
				for need := int64(1); need <= int64(n); need++ {
					q := quorumOf(need, all[:n]...)
					for _, list := range [][]impl.Vote{votes, twice} {
						if r := holdCountAgainstPlain(t, list, q, x); r != (impl.IntResult{Value: int64(len(who))}) {
							t.Fatalf("%v of %v: %v", who, q, r)
						}
						if impl.IsLocked(list, q, x) != (int64(len(who)) >= need) {
							t.Fatalf("%v of %v: the lock is not right", who, q)
						}
					}
				}
			}
		}
	}
}

// Three of four voters vote for one of two blocks of one height: that one is locked, and the other one never can be.
func TestThreeOfFourLockABlock(t *testing.T) {
	q, tree := quorumOf(3, 2, 3, 4, 5), nodesOf(1, 0, 1, 2, 1, 2, 3, 1, 2)
	var votes []impl.Vote
	for i, key := range []int64{4, 2, 5} {
		if impl.IsLocked(votes, q, blockVote(9, 2)) {
			t.Fatalf("%d votes lock it", i)
		}
		r := impl.CastFor(tree, impl.NewVoter(key).Voter, 2)
		if impl.CastFor(tree, r.Voter, 3).Code != impl.ErrState {
			t.Fatal("it votes for both")
		}
		votes = append(votes, r.Vote, r.Vote)
	}
	votes = append(votes, impl.CastFor(tree, impl.NewVoter(3).Voter, 3).Vote)
	if !impl.IsLocked(votes, q, blockVote(9, 2)) || impl.IsLocked(votes, q, blockVote(9, 3)) || impl.IsLocked(votes, q, blockVote(9, 1)) {
		t.Error(votes)
	}
}

// The edges that the document names, and wrong inputs.

type voterRow struct {
	name  string
	voter impl.Voter
	code  int64
}

func wrongVoters() []voterRow {
	return []voterRow{
		{"the zero value", impl.Voter{}, impl.ErrRange},
		{"Key -1", voterOf(-1, 0), impl.ErrRange},
		{"Key 0", voterOf(0, 1), impl.ErrRange},
		{"Key 1000", voterOf(1000, 0), impl.ErrRange},
		{"the lowest Key there is", voterOf(math.MinInt64, 0), impl.ErrRange},
		{"the highest Key there is", voterOf(math.MaxInt64, 0), impl.ErrRange},
		{"Last -1", voterOf(1, -1), impl.ErrRange},
		{"Last 61", voterOf(1, 61), impl.ErrRange},
		{"the lowest Last there is", voterOf(1, math.MinInt64), impl.ErrRange},
		{"the highest Last there is", voterOf(1, math.MaxInt64), impl.ErrRange},
		{"41 Choices", voterOf(1, 0, manyChoices(41)...), impl.ErrMany},
		{"100 Choices", voterOf(1, 0, manyChoices(100)...), impl.ErrMany},
		{"a Ref with Tx 0", voterOf(1, 0, choicesOf(0, 0, 1)...), impl.ErrRange},
		{"a Ref with Tx -1", voterOf(1, 0, choicesOf(-1, 0, 1)...), impl.ErrRange},
		{"a Ref with Tx 61", voterOf(1, 0, choicesOf(61, 0, 1)...), impl.ErrRange},
		{"a Ref with At -1", voterOf(1, 0, choicesOf(1, -1, 1)...), impl.ErrRange},
		{"a Ref with At 4", voterOf(1, 0, choicesOf(1, 4, 1)...), impl.ErrRange},
		{"a Tx of -1", voterOf(1, 0, choicesOf(1, 0, -1)...), impl.ErrRange},
		{"a Tx of 0", voterOf(1, 0, choicesOf(1, 0, 0)...), impl.ErrRange},
		{"a Tx of 61", voterOf(1, 0, choicesOf(1, 0, 61)...), impl.ErrRange},
		{"the lowest Tx there is", voterOf(1, 0, choicesOf(1, 0, math.MinInt64)...), impl.ErrRange},
		{"the highest Tx there is", voterOf(1, 0, choicesOf(1, 0, math.MaxInt64)...), impl.ErrRange},
		{"a Tx of 0 in the midst", voterOf(1, 0, choicesOf(1, 0, 1, 1, 1, 0, 1, 2, 1)...), impl.ErrRange},
		{"a Tx of 61 at the end of 40", voterOf(1, 0, withChoice(manyChoices(40), 39, 10, 3, 61)...), impl.ErrRange},
		{"one Ref twice, with one Tx", voterOf(1, 0, choicesOf(1, 0, 5, 1, 0, 5)...), impl.ErrTaken},
		{"one Ref twice, with two", voterOf(1, 0, choicesOf(1, 0, 5, 1, 0, 6)...), impl.ErrTaken},
		{"one Ref twice, not side by side", voterOf(1, 0, choicesOf(60, 3, 5, 1, 0, 5, 60, 3, 5)...), impl.ErrTaken},
		{"the first Ref of 40 at the end", voterOf(1, 0, withChoice(manyChoices(40), 39, 1, 0, 7)...), impl.ErrTaken},

		{"Key 0, 41 Choices", voterOf(0, 0, manyChoices(41)...), impl.ErrRange},
		{"Last 61, 41 Choices", voterOf(1, 61, manyChoices(41)...), impl.ErrRange},
		{"Last 61, one Ref twice", voterOf(1, 61, choicesOf(1, 0, 5, 1, 0, 5)...), impl.ErrRange},
		{"41 Choices, the first with a Tx of 0", voterOf(1, 0, withChoice(manyChoices(41), 0, 1, 0, 0)...), impl.ErrMany},
		{"41 Choices, all of one Ref", voterOf(1, 0, slices.Repeat(choicesOf(1, 0, 5), 41)...), impl.ErrMany},
		{"one Ref twice, the second with a Tx of 0", voterOf(1, 0, choicesOf(1, 0, 5, 1, 0, 0)...), impl.ErrRange},
		{"one Ref twice, the first with a Tx of 0", voterOf(1, 0, choicesOf(1, 0, 0, 1, 0, 5)...), impl.ErrRange},
		{"one Ref twice ahead of a Tx of 0", voterOf(1, 0, choicesOf(1, 0, 5, 1, 0, 5, 2, 0, 0)...), impl.ErrTaken},
		{"a Tx of 0 ahead of one Ref twice", voterOf(1, 0, choicesOf(2, 0, 0, 1, 0, 5, 1, 0, 5)...), impl.ErrRange},
		{"a Ref out of bounds twice", voterOf(1, 0, choicesOf(61, 0, 5, 61, 0, 5)...), impl.ErrRange},
	}
}

func rightVoters() []voterRow {
	return []voterRow{
		{"Key 1", voterOf(1, 0), impl.OK},
		{"Key 999", voterOf(999, 0), impl.OK},
		{"Last 1", voterOf(1, 1), impl.OK},
		{"Last 60", voterOf(1, 60), impl.OK},
		{"1 Choice", voterOf(7, 3, choicesOf(1, 0, 1)...), impl.OK},
		{"a choice at the upper bounds", voterOf(7, 3, choicesOf(60, 3, 60)...), impl.OK},
		{"one Tx of several Refs", voterOf(7, 3, choicesOf(1, 0, 5, 1, 1, 5, 2, 0, 5)...), impl.OK},
		{"a Tx that is the Ref's own", voterOf(7, 3, choicesOf(5, 0, 5)...), impl.OK},
		{"Refs that fall", voterOf(7, 3, choicesOf(9, 3, 1, 9, 2, 1, 4, 0, 2)...), impl.OK},
		{"40 Choices", voterOf(999, 60, manyChoices(40)...), impl.OK},
	}
}

func TestVoterFault(t *testing.T) {
	for _, row := range append(wrongVoters(), rightVoters()...) {
		if got := impl.VoterFault(row.voter); got != row.code {
			t.Errorf("%s: %d, want %d", row.name, got, row.code)
		}
		if got := plainVoterFault(row.voter); got != row.code {
			t.Errorf("%s: the plain reading says %d, want %d", row.name, got, row.code)
		}
	}
}

func TestAllShortVoters(t *testing.T) {
	var elements []impl.Choice
	for _, ref := range refsOf(0, 0, 1, 0, 1, 3, 1, 4, 60, 0, 61, 1) {
		for _, tx := range []int64{0, 1, 60, 61} {
			elements = append(elements, impl.Choice{Ref: ref, Tx: tx})
		}
	}
	listsOf(elements, 3, func(choices []impl.Choice) { holdVoterAgainstPlain(t, voterOf(1, 0, choices...)) })
	for _, key := range edgeNumbers {
		for _, last := range append([]int64{59, 60, 61}, edgeNumbers...) {
			for _, choices := range [][]impl.Choice{nil, choicesOf(1, 0, 1), choicesOf(1, 0, 0), manyChoices(41)} {
				holdVoterAgainstPlain(t, voterOf(key, last, choices...))
			}
		}
	}
}

type voteRow struct {
	name string
	vote impl.Vote
	code int64
}

func wrongVotes() []voteRow {
	return []voteRow{
		{"the zero value", impl.Vote{}, impl.ErrForm},
		{"Kind 0", impl.Vote{Key: 1, Block: 1}, impl.ErrForm},
		{"Kind 0, of a coin", impl.Vote{Key: 1, Ref: impl.Ref{Tx: 1}, Tx: 1}, impl.ErrForm},
		{"Kind 3", impl.Vote{Key: 1, Kind: 3, Block: 1}, impl.ErrForm},
		{"Kind 3, of a coin", impl.Vote{Key: 1, Kind: 3, Ref: impl.Ref{Tx: 1}, Tx: 1}, impl.ErrForm},
		{"Kind -1", impl.Vote{Key: 1, Kind: -1, Block: 1}, impl.ErrForm},
		{"the lowest Kind there is", impl.Vote{Key: 1, Kind: math.MinInt64, Block: 1}, impl.ErrForm},
		{"the highest Kind there is", impl.Vote{Key: 1, Kind: math.MaxInt64, Block: 1}, impl.ErrForm},
		{"for a block, with a Ref", impl.Vote{Key: 1, Kind: 1, Block: 1, Ref: impl.Ref{Tx: 1}}, impl.ErrForm},
		{"for a block, with the At of a Ref alone", impl.Vote{Key: 1, Kind: 1, Block: 1, Ref: impl.Ref{At: 1}}, impl.ErrForm},
		{"for a block, with a Tx", impl.Vote{Key: 1, Kind: 1, Block: 1, Tx: 1}, impl.ErrForm},
		{"for a block, with a Tx of -1", impl.Vote{Key: 1, Kind: 1, Block: 1, Tx: -1}, impl.ErrForm},
		{"for a block, with all of a coin", impl.Vote{Key: 1, Kind: 1, Block: 1, Ref: impl.Ref{Tx: 1}, Tx: 1}, impl.ErrForm},
		{"for a block, with a coin instead", impl.Vote{Key: 1, Kind: 1, Ref: impl.Ref{Tx: 1}, Tx: 1}, impl.ErrForm},
		{"of a coin, with a Block", impl.Vote{Key: 1, Kind: 2, Block: 1, Ref: impl.Ref{Tx: 1}, Tx: 1}, impl.ErrForm},
		{"of a coin, with a Block of -1", impl.Vote{Key: 1, Kind: 2, Block: -1, Ref: impl.Ref{Tx: 1}, Tx: 1}, impl.ErrForm},
		{"of a coin, with a Block instead", impl.Vote{Key: 1, Kind: 2, Block: 1}, impl.ErrForm},
		{"Key -1", blockVote(-1, 1), impl.ErrRange},
		{"Key 0", blockVote(0, 1), impl.ErrRange},
		{"Key 1000", blockVote(1000, 1), impl.ErrRange},
		{"Key 0, of a coin", coinVote(0, 1, 0, 1), impl.ErrRange},
		{"Key 1000, of a coin", coinVote(1000, 1, 0, 1), impl.ErrRange},
		{"the lowest Key there is", blockVote(math.MinInt64, 1), impl.ErrRange},
		{"the highest Key there is", coinVote(math.MaxInt64, 1, 0, 1), impl.ErrRange},
		{"Block -1", blockVote(1, -1), impl.ErrRange},
		{"Block 0", blockVote(1, 0), impl.ErrRange},
		{"Block 61", blockVote(1, 61), impl.ErrRange},
		{"a Ref with Tx -1", coinVote(1, -1, 0, 1), impl.ErrRange},
		{"a Ref with Tx 0", coinVote(1, 0, 0, 1), impl.ErrRange},
		{"a Ref with Tx 61", coinVote(1, 61, 0, 1), impl.ErrRange},
		{"a Ref with At -1", coinVote(1, 1, -1, 1), impl.ErrRange},
		{"a Ref with At 4", coinVote(1, 1, 4, 1), impl.ErrRange},
		{"Tx -1", coinVote(1, 1, 0, -1), impl.ErrRange},
		{"Tx 0", coinVote(1, 1, 0, 0), impl.ErrRange},
		{"Tx 61", coinVote(1, 1, 0, 61), impl.ErrRange},
		{"of a coin, and of none", impl.Vote{Key: 1, Kind: 2}, impl.ErrRange},

		{"Kind 0, Key 0", impl.Vote{Block: 61}, impl.ErrForm},
		{"for a block, Key 0, with a Tx", impl.Vote{Kind: 1, Block: 1, Tx: 1}, impl.ErrForm},
		{"for the block 61, with a Ref", impl.Vote{Key: 1, Kind: 1, Block: 61, Ref: impl.Ref{Tx: 1}}, impl.ErrForm},
		{"of a coin, Tx 0, with a Block", impl.Vote{Key: 1, Kind: 2, Block: 1, Ref: impl.Ref{Tx: 1}}, impl.ErrForm},
	}
}

func rightVotes() []voteRow {
	return []voteRow{
		{"for the block 1", blockVote(1, 1), impl.OK},
		{"for the block 60", blockVote(999, 60), impl.OK},
		{"of a coin, at the lower bounds", coinVote(1, 1, 0, 1), impl.OK},
		{"of a coin, at the upper bounds", coinVote(999, 60, 3, 60), impl.OK},
	}
}

func TestVoteFault(t *testing.T) {
	for _, row := range append(wrongVotes(), rightVotes()...) {
		if got := impl.VoteFault(row.vote); got != row.code {
			t.Errorf("%s: %d, want %d", row.name, got, row.code)
		}
		if got := plainVoteFault(row.vote); got != row.code {
			t.Errorf("%s: the plain reading says %d, want %d", row.name, got, row.code)
		}
	}
}

func TestAllVotes(t *testing.T) {
	small := []int64{math.MinInt64, -1, 0, 1, 3, 4, 60, 61, math.MaxInt64}
	for _, key := range []int64{math.MinInt64, -1, 0, 1, 999, 1000, math.MaxInt64} {
		for _, kind := range []int64{math.MinInt64, -1, 0, 1, 2, 3, math.MaxInt64} {
			for _, block := range small {
				for _, refTx := range small {
					for _, at := range small {
						for _, tx := range small {
							holdVoteAgainstPlain(t, impl.Vote{Key: key, Kind: kind, Block: block, Ref: impl.Ref{Tx: refTx, At: at}, Tx: tx})
						}
					}
				}
			}
		}
	}
}

func TestNewVoter(t *testing.T) {
	for key := int64(-2); key <= 1002; key++ {
		r := impl.NewVoter(key)
		if !sameVoterResults(r, plainNewVoter(key)) {
			t.Fatalf("%d: %v", key, r)
		}
		if r.Code == impl.OK && impl.VoterFault(r.Voter) != impl.OK {
			t.Fatalf("%d: a new voter has a fault", key)
		}
	}
	for _, key := range edgeNumbers {
		if r := impl.NewVoter(key); !sameVoterResults(r, plainNewVoter(key)) {
			t.Errorf("%d: %v", key, r)
		}
	}
	for key, code := range map[int64]int64{-1: impl.ErrRange, 0: impl.ErrRange, 1: impl.OK, 999: impl.OK, 1000: impl.ErrRange} {
		if r := impl.NewVoter(key); r.Code != code {
			t.Errorf("%d: %v", key, r)
		}
	}
}

func TestCastFor(t *testing.T) {
	chosen := choicesOf(4, 1, 9, 2, 0, 9)
	bent := nodesOf(1, 0, 1, 2, 5, 2)
	rows := []struct {
		name  string
		tree  []impl.Node
		voter impl.Voter
		id    int64
		code  int64
	}{
		{"one that has not voted, for a first node", wood(), voterOf(5, 0), 7, impl.OK},
		{"one that has not voted, for another first node", wood(), voterOf(5, 0), 40, impl.OK},
		{"one that has not voted, for an end", wood(), voterOf(5, 0, chosen...), 20, impl.OK},
		{"the very block that it voted for", wood(), voterOf(5, 9), 9, impl.ErrState},
		{"the very first node that it voted for", wood(), voterOf(5, 7), 7, impl.ErrState},
		{"one above that", wood(), voterOf(5, 9), 3, impl.ErrState},
		{"the first one above that", wood(), voterOf(5, 20), 7, impl.ErrState},
		{"one beside it", wood(), voterOf(5, 9), 2, impl.ErrState},
		{"one beside it, that is higher", wood(), voterOf(5, 2), 20, impl.ErrState},
		{"one beside it, of another first node", wood(), voterOf(5, 7), 1, impl.ErrState},
		{"the one behind it", wood(), voterOf(5, 9, chosen...), 20, impl.OK},
		{"one that is two behind it", wood(), voterOf(5, 3), 20, impl.OK},
		{"one that is three behind it", wood(), voterOf(5, 7, chosen...), 20, impl.OK},
		{"behind it, on another branch than the highest", wood(), voterOf(5, 7), 60, impl.OK},
		{"a Last that is not in the tree", wood(), voterOf(5, 4), 20, impl.ErrState},
		{"a Last that is not in the tree, for a first node", wood(), voterOf(5, 4), 7, impl.ErrState},
		{"an id that is not in the tree", wood(), voterOf(5, 0), 4, impl.ErrNone},
		{"an id that is not in the tree, and is Last", wood(), voterOf(5, 4), 4, impl.ErrNone},
		{"an id of 0", wood(), voterOf(5, 0), 0, impl.ErrNone},
		{"an id of 0, behind 9", wood(), voterOf(5, 9), 0, impl.ErrNone},
		{"an id of 61", wood(), voterOf(5, 0), 61, impl.ErrNone},
		{"an id of -1", wood(), voterOf(5, 0), -1, impl.ErrNone},
		{"the lowest id there is", wood(), voterOf(5, 9), math.MinInt64, impl.ErrNone},
		{"the highest id there is", wood(), voterOf(5, 9), math.MaxInt64, impl.ErrNone},
		{"no tree", nil, voterOf(5, 0), 1, impl.ErrNone},
		{"no tree, id 0", nil, voterOf(5, 0), 0, impl.ErrNone},
		{"no tree, and it has voted", nil, voterOf(5, 1), 1, impl.ErrNone},
		{"the end of a line of 40", line(40), voterOf(999, 60, manyChoices(40)...), 21, impl.OK},
		{"the start of a line of 40", line(40), voterOf(1, 21), 60, impl.ErrState},
		{"a tree with a fault", bent, voterOf(5, 0), 1, impl.ErrNone},
		{"a tree with a fault, a voter with one", nodesOf(1, 0, 1, 1, 0, 1), voterOf(0, 0), 9, impl.ErrTaken},
		{"a tree with a fault, an id that is not in it", nodesOf(1, 0, 2), voterOf(5, 0), 9, impl.ErrForm},
		{"a voter with a fault", wood(), voterOf(0, 0), 7, impl.ErrRange},
		{"a voter with a fault, an id that is not in the tree", wood(), voterOf(5, 0, manyChoices(41)...), 4, impl.ErrMany},
		{"a voter with a fault, the block that it voted for", wood(), voterOf(5, 9, choicesOf(1, 0, 2, 1, 0, 2)...), 9, impl.ErrTaken},
		{"a Last of 61", wood(), voterOf(5, 61), 7, impl.ErrRange},
	}
	for _, row := range rows {
		want := impl.VoterResult{Code: row.code}
		if row.code == impl.OK {
			want.Vote, want.Voter = blockVote(row.voter.Key, row.id), voterOf(row.voter.Key, row.id, row.voter.Choices...)
		}
		if r := holdCastAgainstPlain(t, row.tree, row.voter, row.id); !sameVoterResults(r, want) {
			t.Errorf("%s: %v, want %v", row.name, r, want)
		}
	}
}

func TestTheCodesOfCastFor(t *testing.T) {
	for _, tree := range wrongTrees() {
		for _, voter := range append(wrongVoters()[:4], rightVoters()...) {
			for _, id := range []int64{0, 1, 2, 61} {
				if r := holdCastAgainstPlain(t, tree.tree, voter.voter, id); !sameVoterResults(r, impl.VoterResult{Code: tree.code}) {
					t.Errorf("%s, %s: %v, want %d", tree.name, voter.name, r, tree.code)
				}
			}
		}
	}
	for _, voter := range wrongVoters() {
		for _, id := range []int64{-1, 0, 4, 7, 20, 61} {
			if r := holdCastAgainstPlain(t, wood(), voter.voter, id); !sameVoterResults(r, impl.VoterResult{Code: voter.code}) {
				t.Errorf("%s: %v, want %d", voter.name, r, voter.code)
			}
		}
	}
	for last := int64(-1); last <= 61; last++ {
		for id := int64(-1); id <= 61; id++ {
			holdCastAgainstPlain(t, wood(), voterOf(5, last, choicesOf(1, 0, 2)...), id)
		}
	}
}

func TestChooseFor(t *testing.T) {
	two := voterOf(5, 9, choicesOf(4, 1, 9, 2, 0, 9)...)
	rows := []struct {
		name  string
		voter impl.Voter
		ref   impl.Ref
		tx    int64
		code  int64
		isNew bool
	}{
		{"the first choice", voterOf(5, 0), impl.Ref{Tx: 1}, 1, impl.OK, true},
		{"at the upper bounds", voterOf(999, 60), impl.Ref{Tx: 60, At: 3}, 60, impl.OK, true},
		{"another Ref", two, impl.Ref{Tx: 4, At: 2}, 9, impl.OK, true},
		{"a Ref that is below the others", two, impl.Ref{Tx: 1}, 3, impl.OK, true},
		{"a Ref of another Tx with the same At", two, impl.Ref{Tx: 5, At: 1}, 9, impl.OK, true},
		{"the same again", two, impl.Ref{Tx: 4, At: 1}, 9, impl.OK, false},
		{"the last one again", two, impl.Ref{Tx: 2}, 9, impl.OK, false},
		{"another one of it", two, impl.Ref{Tx: 4, At: 1}, 8, impl.ErrTaken, false},
		{"another one of the last", two, impl.Ref{Tx: 2}, 10, impl.ErrTaken, false},
		{"39 Choices, a new one", voterOf(5, 9, manyChoices(39)...), impl.Ref{Tx: 10, At: 3}, 1, impl.OK, true},
		{"39 Choices, one of them", voterOf(5, 9, manyChoices(39)...), impl.Ref{Tx: 1, At: 1}, 59, impl.OK, false},
		{"40 Choices, a new one", voterOf(5, 9, manyChoices(40)...), impl.Ref{Tx: 11}, 1, impl.ErrMany, false},
		{"40 Choices, one of them", voterOf(5, 9, manyChoices(40)...), impl.Ref{Tx: 1, At: 1}, 59, impl.OK, false},
		{"40 Choices, the last of them", voterOf(5, 9, manyChoices(40)...), impl.Ref{Tx: 10, At: 3}, 21, impl.OK, false},
		{"40 Choices, another one of one of them", voterOf(5, 9, manyChoices(40)...), impl.Ref{Tx: 1, At: 1}, 58, impl.ErrTaken, false},
		{"a Ref with Tx -1", two, impl.Ref{Tx: -1}, 1, impl.ErrRange, false},
		{"a Ref with Tx 0", two, impl.Ref{}, 1, impl.ErrRange, false},
		{"a Ref with Tx 61", two, impl.Ref{Tx: 61}, 1, impl.ErrRange, false},
		{"a Ref with At -1", two, impl.Ref{Tx: 1, At: -1}, 1, impl.ErrRange, false},
		{"a Ref with At 4", two, impl.Ref{Tx: 1, At: 4}, 1, impl.ErrRange, false},
		{"Tx -1", two, impl.Ref{Tx: 1}, -1, impl.ErrRange, false},
		{"Tx 0", two, impl.Ref{Tx: 1}, 0, impl.ErrRange, false},
		{"Tx 61", two, impl.Ref{Tx: 1}, 61, impl.ErrRange, false},
		{"the lowest Tx there is", two, impl.Ref{Tx: 1}, math.MinInt64, impl.ErrRange, false},
		{"the highest Tx there is", two, impl.Ref{Tx: 1}, math.MaxInt64, impl.ErrRange, false},
		{"Tx 0, and it chose another one", two, impl.Ref{Tx: 4, At: 1}, 0, impl.ErrRange, false},
		{"Tx 61, 40 Choices", voterOf(5, 9, manyChoices(40)...), impl.Ref{Tx: 11}, 61, impl.ErrRange, false},
		{"a Ref out of bounds, 40 Choices", voterOf(5, 9, manyChoices(40)...), impl.Ref{Tx: 61}, 1, impl.ErrRange, false},
	}
	for _, row := range rows {
		want := impl.VoterResult{Code: row.code}
		if row.code == impl.OK {
			want.Vote, want.Voter = coinVote(row.voter.Key, row.ref.Tx, row.ref.At, row.tx), copyVoter(row.voter)
		}
		if row.isNew {
			want.Voter.Choices = append(want.Voter.Choices, impl.Choice{Ref: row.ref, Tx: row.tx})
		}
		if r := holdChooseForAgainstPlain(t, row.voter, row.ref, row.tx); !sameVoterResults(r, want) {
			t.Errorf("%s: %v, want %v", row.name, r, want)
		}
	}
	for _, row := range wrongVoters() {
		for _, ref := range refsOf(0, 0, 1, 0, 60, 3, 61, 0) {
			for _, tx := range []int64{0, 1, 5, 6, 61} {
				if r := holdChooseForAgainstPlain(t, row.voter, ref, tx); !sameVoterResults(r, impl.VoterResult{Code: row.code}) {
					t.Errorf("%s: %v, want %d", row.name, r, row.code)
				}
			}
		}
	}
}

func TestAllShortChoicesOfAVoter(t *testing.T) {
	elements := choicesOf(1, 0, 1, 1, 0, 2, 1, 1, 1, 2, 0, 1, 1, 4, 1)
	listsOf(elements, 3, func(choices []impl.Choice) {
		for _, ref := range refsOf(0, 0, 1, -1, 1, 0, 1, 1, 2, 0, 2, 3, 2, 4, 60, 3, 61, 0) {
			for _, tx := range []int64{math.MinInt64, 0, 1, 2, 60, 61} {
				holdChooseForAgainstPlain(t, voterOf(3, 2, choices...), ref, tx)
			}
		}
	})
}

func TestCountFor(t *testing.T) {
	q := quorumOf(2, 2, 3, 5)
	block, coin := blockVote(999, 4), coinVote(999, 4, 1, 6)
	rows := []struct {
		name   string
		votes  []impl.Vote
		quorum impl.Quorum
		x      impl.Vote
		want   impl.IntResult
		locked bool
	}{
		{"no votes", nil, q, block, impl.IntResult{}, false},
		{"one below Need", votesFor(block, 3), q, block, impl.IntResult{Value: 1}, false},
		{"just Need", votesFor(block, 5, 3), q, block, impl.IntResult{Value: 2}, true},
		{"one above Need", votesFor(block, 5, 3, 2), q, block, impl.IntResult{Value: 3}, true},
		{"just Need of a coin", votesFor(coin, 5, 3), q, coin, impl.IntResult{Value: 2}, true},
		{"one below Need of a coin", votesFor(coin, 5), q, coin, impl.IntResult{Value: 1}, false},
		{"one key twice", votesFor(block, 3, 3), q, block, impl.IntResult{Value: 1}, false},
		{"one key 100 times", slices.Repeat(votesFor(block, 3), 100), q, block, impl.IntResult{Value: 1}, false},
		{"one key twice, and another one", votesFor(block, 3, 2, 3), q, block, impl.IntResult{Value: 2}, true},
		{"keys that are not of the quorum", votesFor(block, 1, 4, 6, 999), q, block, impl.IntResult{}, false},
		{"one of the quorum, and others", votesFor(block, 1, 4, 5, 999), q, block, impl.IntResult{Value: 1}, false},
		{"keys out of bounds", votesFor(block, 0, -1, 1000, math.MinInt64), q, block, impl.IntResult{}, false},
		{"x is of the quorum, and not among votes", votesFor(block, 3), q, blockVote(2, 4), impl.IntResult{Value: 1}, false},
		{"x is of the quorum, and among votes", votesFor(block, 2, 3), q, blockVote(2, 4), impl.IntResult{Value: 2}, true},
		{"another block", votesFor(blockVote(1, 5), 2, 3, 5), q, block, impl.IntResult{}, false},
		{"a coin instead", votesFor(coin, 2, 3, 5), q, block, impl.IntResult{}, false},
		{"a block instead", votesFor(block, 2, 3, 5), q, coin, impl.IntResult{}, false},
		{"another Tx of the Ref", votesFor(coinVote(1, 4, 1, 7), 2, 3, 5), q, coin, impl.IntResult{}, false},
		{"another At of the Ref", votesFor(coinVote(1, 4, 0, 6), 2, 3, 5), q, coin, impl.IntResult{}, false},
		{"another Tx in the Ref", votesFor(coinVote(1, 3, 1, 6), 2, 3, 5), q, coin, impl.IntResult{}, false},
		{"two choices, one of each", slices.Concat(votesFor(coin, 2), votesFor(coinVote(1, 4, 1, 7), 3)), q, coin, impl.IntResult{Value: 1}, false},
		{"who votes for both", slices.Concat(votesFor(coin, 2, 3), votesFor(coinVote(1, 4, 1, 7), 2, 3)), q, coin, impl.IntResult{Value: 2}, true},
		{"votes with a fault among votes", slices.Concat(make([]impl.Vote, 3), votesFor(impl.Vote{Kind: 1, Block: 4, Tx: 1}, 2, 3, 5), votesFor(block, 5)), q, block, impl.IntResult{Value: 1}, false},
		{"votes of Kind 3", votesFor(impl.Vote{Kind: 3, Block: 4}, 2, 3, 5), q, block, impl.IntResult{}, false},
		{"votes that have all of both kinds", votesFor(impl.Vote{Kind: 1, Block: 4, Ref: coin.Ref, Tx: 6}, 2, 3, 5), q, block, impl.IntResult{}, false},
		{"votes of a coin with a Block", votesFor(impl.Vote{Kind: 2, Block: 4, Ref: coin.Ref, Tx: 6}, 2, 3, 5), q, coin, impl.IntResult{}, false},
		{"the last ones of 100 votes", slices.Concat(votesFor(blockVote(1, 9), firstKeys(98)...), votesFor(block, 5, 2)), q, block, impl.IntResult{Value: 2}, true},
		{"101 votes", slices.Concat(votesFor(block, 5, 2), votesFor(blockVote(1, 9), firstKeys(99)...)), q, block, impl.IntResult{Code: impl.ErrMany}, false},
		{"101 votes with faults", make([]impl.Vote, 101), q, block, impl.IntResult{Code: impl.ErrMany}, false},
		{"100 votes with faults", make([]impl.Vote, 100), q, block, impl.IntResult{}, false},
		{"Need 1 and no vote", nil, quorumOf(1, 2), block, impl.IntResult{}, false},
		{"Need 1", votesFor(block, 2), quorumOf(1, 2), block, impl.IntResult{Value: 1}, true},
		{"all 8 of 8", votesFor(block, firstKeys(8)...), quorumOf(8, firstKeys(8)...), block, impl.IntResult{Value: 8}, true},
		{"7 of 8, Need 8", votesFor(block, firstKeys(7)...), quorumOf(8, firstKeys(8)...), block, impl.IntResult{Value: 7}, false},
		{"a quorum with a fault", votesFor(block, 2, 3), quorumOf(1, 3, 2), block, impl.IntResult{Code: impl.ErrForm}, false},
		{"Need 0", votesFor(block, 2, 3), quorumOf(0, 2, 3), block, impl.IntResult{Code: impl.ErrRange}, false},
		{"a vote with a fault", votesFor(block, 2, 3), q, blockVote(0, 4), impl.IntResult{Code: impl.ErrRange}, false},
		{"a vote with a fault that all gave", votesFor(blockVote(2, 61), 2, 3, 5), q, blockVote(2, 61), impl.IntResult{Code: impl.ErrRange}, false},
		{"a quorum with a fault, a vote with one, 101 votes", make([]impl.Vote, 101), quorumOf(1), impl.Vote{Key: 1}, impl.IntResult{Code: impl.ErrMany}, false},
		{"a quorum that does not rise, a vote with a fault", nil, quorumOf(1, 3, 2), impl.Vote{Key: 1, Kind: 1}, impl.IntResult{Code: impl.ErrForm}, false},
		{"Need 0, a vote of no kind", nil, quorumOf(0, 2, 3), impl.Vote{Key: 1}, impl.IntResult{Code: impl.ErrRange}, false},
		{"a vote with a fault, 101 votes", make([]impl.Vote, 101), q, impl.Vote{Key: 1}, impl.IntResult{Code: impl.ErrForm}, false},
		{"a vote out of bounds, 101 votes", make([]impl.Vote, 101), q, blockVote(1, 0), impl.IntResult{Code: impl.ErrRange}, false},
	}
	for _, row := range rows {
		if r := holdCountAgainstPlain(t, row.votes, row.quorum, row.x); r != row.want {
			t.Errorf("%s: %v, want %v", row.name, r, row.want)
		}
		if impl.IsLocked(row.votes, row.quorum, row.x) != row.locked {
			t.Errorf("%s: locked is not %v", row.name, row.locked)
		}
	}
}

func TestTheCodesOfCountFor(t *testing.T) {
	for _, quorum := range wrongQuorums() {
		for _, vote := range append(wrongVotes(), rightVotes()...) {
			for _, votes := range [][]impl.Vote{nil, {vote.vote}, make([]impl.Vote, 101)} {
				r := holdCountAgainstPlain(t, votes, quorum.quorum, vote.vote)
				if r != (impl.IntResult{Code: quorum.code}) || impl.IsLocked(votes, quorum.quorum, vote.vote) {
					t.Errorf("%s, %s: %v, want %d", quorum.name, vote.name, r, quorum.code)
				}
			}
		}
	}
	for _, vote := range wrongVotes() {
		for _, n := range []int{0, 1, 100, 101} {
			votes := slices.Repeat(votesFor(vote.vote, 5), n)
			r := holdCountAgainstPlain(t, votes, quorumOf(1, 5), vote.vote)
			if r != (impl.IntResult{Code: vote.code}) || impl.IsLocked(votes, quorumOf(1, 5), vote.vote) {
				t.Errorf("%s: %v, want %d", vote.name, r, vote.code)
			}
		}
	}
}

// What differs from x in one field alone is not counted, whatever that field is.
func TestVotesThatDifferInOneField(t *testing.T) {
	for _, x := range []impl.Vote{blockVote(2, 7), coinVote(2, 7, 1, 7)} {
		for field := range 5 {
			for _, number := range []int64{-1, 0, 1, 2, 3, 6, 7, 8} {
				y := x
				*[]*int64{&y.Kind, &y.Block, &y.Ref.Tx, &y.Ref.At, &y.Tx}[field] = number
				want := int64(0)
				if y == x {
					want = 1
				}
				if r := holdCountAgainstPlain(t, []impl.Vote{y}, quorumOf(1, 2), x); r != (impl.IntResult{Value: want}) {
					t.Errorf("%v for %v: %v", y, x, r)
				}
			}
		}
		for key := int64(-1); key <= 4; key++ {
			r := holdCountAgainstPlain(t, votesFor(x, key), quorumOf(1, 1, 3), x)
			if isOne := key == 1 || key == 3; (r.Value == 1) != isOne || r.Code != impl.OK {
				t.Errorf("the key %d: %v", key, r)
			}
		}
	}
}

func TestAllShortVotes(t *testing.T) {
	elements := []impl.Vote{blockVote(1, 1), blockVote(2, 1), blockVote(2, 2), coinVote(1, 1, 0, 1), coinVote(2, 1, 0, 1), coinVote(3, 1, 0, 2), {Key: 1}, blockVote(9, 1)}
	quorums := []impl.Quorum{quorumOf(1, 1), quorumOf(2, 1, 2), quorumOf(2, 1, 2, 3), quorumOf(3, 1, 2, 3), quorumOf(1, 4, 9), quorumOf(1, 2, 1)}
	listsOf(elements, 4, func(votes []impl.Vote) {
		for _, q := range quorums {
			for _, x := range []impl.Vote{blockVote(7, 1), blockVote(2, 2), coinVote(1, 1, 0, 1), coinVote(9, 1, 0, 2), {Key: 1}} {
				holdCountAgainstPlain(t, votes, q, x)
			}
		}
	})
}

func TestRandomVotes(t *testing.T) {
	dice := rand.New(rand.NewSource(13))
	for range 400 {
		var votes []impl.Vote
		for range dice.Intn(103) {
			x := blockVote(1+dice.Int63n(9), 1+dice.Int63n(2))
			if dice.Intn(2) == 0 {
				x = coinVote(1+dice.Int63n(9), 1, dice.Int63n(2), 1+dice.Int63n(2))
			}
			votes = append(votes, x)
		}
		n := 1 + dice.Intn(8)
		q := quorumOf(1+dice.Int63n(int64(n)), firstKeys(n)...)
		for _, x := range []impl.Vote{blockVote(5, 1), blockVote(900, 2), coinVote(1, 1, 0, 1), coinVote(2, 1, 1, 2), coinVote(2, 1, 2, 2)} {
			holdCountAgainstPlain(t, votes, q, x)
		}
	}
}

// Promise 1: memory, nil and empty, the same again.

// roomyVoter has marks behind the end of its Choices that nobody may write to.
func roomyVoter(v impl.Voter) impl.Voter {
	whole := append(slices.Clone(v.Choices), choicesOf(71, 72, 73, 74, 75, 76)...)
	v.Choices = whole[:len(v.Choices)]
	return v
}

func spoilChoices(list []impl.Choice) {
	list = list[:cap(list)]
	for i := range list {
		list[i] = choicesOf(-9, -9, -9)[0]
	}
}

func roomyVotes(votes []impl.Vote) []impl.Vote {
	whole := append(slices.Clone(votes), blockVote(71, 72), blockVote(73, 74))
	return whole[:len(votes)]
}

func TestVotersAreNotChanged(t *testing.T) {
	for _, row := range append(wrongVoters(), rightVoters()...) {
		v, tree := roomyVoter(row.voter), roomyTree(wood())
		was, wasTree := slices.Clone(v.Choices[:cap(v.Choices)]), slices.Clone(tree[:cap(tree)])
		impl.VoterFault(v)
		for _, id := range []int64{0, 1, 4, 7, 9, 20, 61} {
			impl.CastFor(tree, v, id)
			for at := int64(-1); at <= 4; at++ {
				impl.ChooseFor(v, impl.Ref{Tx: id, At: at}, 5)
				impl.ChooseFor(v, impl.Ref{Tx: 59, At: at}, id)
			}
		}
		if !slices.Equal(v.Choices[:cap(v.Choices)], was) || !slices.Equal(tree[:cap(tree)], wasTree) {
			t.Errorf("%s: an argument was changed: %v %v", row.name, v.Choices[:cap(v.Choices)], tree[:cap(tree)])
		}
	}
}

func TestVotesAreNotChanged(t *testing.T) {
	x := blockVote(9, 4)
	for _, plain := range [][]impl.Vote{nil, votesFor(x, 3), votesFor(x, 5, 3, 3, 2), make([]impl.Vote, 5), votesFor(x, firstKeys(100)...), votesFor(x, firstKeys(101)...)} {
		for _, row := range append(wrongQuorums(), rightQuorums()...) {
			votes, q := roomyVotes(plain), impl.Quorum{Keys: roomyNumbers(row.quorum.Keys), Need: row.quorum.Need}
			wasVotes, wasKeys := slices.Clone(votes[:cap(votes)]), slices.Clone(q.Keys[:cap(q.Keys)])
			impl.CountFor(votes, q, x)
			impl.IsLocked(votes, q, x)
			if !slices.Equal(votes[:cap(votes)], wasVotes) || !slices.Equal(q.Keys[:cap(q.Keys)], wasKeys) {
				t.Errorf("%s: an argument was changed", row.name)
			}
		}
	}
}

func TestAnswersOfVotersShareNoMemory(t *testing.T) {
	for _, row := range rightVoters() {
		calls := map[string]func(v impl.Voter) impl.VoterResult{
			"CastFor":              func(v impl.Voter) impl.VoterResult { v.Last = 7; return impl.CastFor(wood(), v, 20) },
			"ChooseFor, a new one": func(v impl.Voter) impl.VoterResult { return impl.ChooseFor(v, impl.Ref{Tx: 59}, 5) },
			"ChooseFor, the same":  func(v impl.Voter) impl.VoterResult { return impl.ChooseFor(v, firstRef(v), firstTx(v)) },
		}
		for name, call := range calls {
			v := roomyVoter(row.voter)
			was := slices.Clone(v.Choices[:cap(v.Choices)])
			one, two := call(v), call(v)
			want := copyVoter(two.Voter)
			if one.Code != two.Code || !sameVoterResults(one, two) {
				t.Fatalf("%s: %s: %v, and then %v", row.name, name, one, two)
			}
			spoilChoices(one.Voter.Choices)
			if !slices.Equal(v.Choices[:cap(v.Choices)], was) {
				t.Errorf("%s: %s: who writes to the answer writes to an argument", row.name, name)
			}
			spoilChoices(v.Choices)
			if !sameVoters(two.Voter, want) {
				t.Errorf("%s: %s: who writes to an argument or to another answer writes to the answer: %v", row.name, name, two)
			}
		}
	}
}

func firstRef(v impl.Voter) impl.Ref {
	if len(v.Choices) == 0 {
		return impl.Ref{Tx: 1}
	}
	return v.Choices[0].Ref
}

func firstTx(v impl.Voter) int64 {
	if len(v.Choices) == 0 {
		return 1
	}
	return v.Choices[0].Tx
}

func TestEmptyAndNilOfVotersAreTheSame(t *testing.T) {
	for _, none := range [][]impl.Choice{nil, {}} {
		v := impl.Voter{Key: 5, Choices: none}
		if code := impl.VoterFault(v); code != impl.OK {
			t.Error(code)
		}
		if r := impl.CastFor(wood(), v, 7); !sameVoterResults(r, impl.VoterResult{Vote: blockVote(5, 7), Voter: voterOf(5, 7)}) {
			t.Error(r)
		}
		if r := impl.ChooseFor(v, impl.Ref{Tx: 1}, 2); !sameVoterResults(r, impl.VoterResult{Vote: coinVote(5, 1, 0, 2), Voter: voterOf(5, 0, choicesOf(1, 0, 2)...)}) {
			t.Error(r)
		}
	}
	for _, tree := range [][]impl.Node{nil, {}} {
		if r := impl.CastFor(tree, voterOf(5, 0), 1); !sameVoterResults(r, impl.VoterResult{Code: impl.ErrNone}) {
			t.Error(r)
		}
	}
	for _, votes := range [][]impl.Vote{nil, {}} {
		if r := impl.CountFor(votes, quorumOf(1, 1), blockVote(1, 1)); r != (impl.IntResult{}) {
			t.Error(r)
		}
		if r := impl.CountFor(votes, impl.Quorum{Keys: []int64{}, Need: 1}, blockVote(1, 1)); r != (impl.IntResult{Code: impl.ErrMany}) {
			t.Error(r)
		}
	}
}

func TestVotersHangOnTheArgumentsAlone(t *testing.T) {
	for i := range int64(30) {
		impl.NewVoter(i)
		impl.CastFor(wood(), voterOf(5, 7), i)
		impl.ChooseFor(voterOf(5, 7), impl.Ref{Tx: 1}, i)
		impl.CountFor(votesFor(blockVote(1, i), 2, 3), quorumOf(2, 2, 3), blockVote(5, i))
		impl.VoteFault(blockVote(i, i))
		impl.VoterFault(voterOf(i, i))
		if r := impl.CastFor(wood(), voterOf(5, 0), 40); !sameVoterResults(r, impl.VoterResult{Vote: blockVote(5, 40), Voter: voterOf(5, 40)}) {
			t.Fatal(r)
		}
		if r := impl.ChooseFor(voterOf(5, 7), impl.Ref{Tx: 1}, 60); !sameVoterResults(r, impl.VoterResult{Vote: coinVote(5, 1, 0, 60), Voter: voterOf(5, 7, choicesOf(1, 0, 60)...)}) {
			t.Fatal(r)
		}
		if r := impl.CountFor(votesFor(blockVote(1, 4), 2), quorumOf(2, 2, 3), blockVote(5, 4)); r != (impl.IntResult{Value: 1}) {
			t.Fatal(r)
		}
		if impl.IsLocked(votesFor(blockVote(1, 4), 2), quorumOf(2, 2, 3), blockVote(5, 4)) {
			t.Fatal("what was asked ahead left a trace")
		}
	}
}
