package tests

import (
	"fmt"
	"math"
	"math/rand"
	"runtime"
	"slices"
	"testing"
	"time"

	"loop.example/g00304/impl"
)

// The plain reading of chapter 15: what the program is held against. It folds each path from its first block on, and keeps nothing beside the chain.

// plainUndos are those that are told along a path that can be folded.
func plainUndos(l impl.Ledger, path []int64) []impl.Undo {
	var s impl.State
	var undos []impl.Undo
	for _, id := range path {
		r := plainConnect(l, s, id)
		s, undos = r.State, append(undos, r.Undo)
	}
	return undos
}

func plainNodesFault(c impl.Chain) int64 {
	for _, n := range c.Tree {
		read := plainBlockIn(c.Ledger, n.Id)
		if read.Code != impl.OK {
			return read.Code
		}
		if read.Block.Prev != n.Prev || read.Block.Height != n.Height {
			return impl.ErrForm
		}
		if r := plainFold(c.Ledger, plainPathTo(c.Tree, n.Id).List); r.Code != impl.OK {
			return r.Code
		}
	}
	return impl.OK
}

func plainLockFault(tree []impl.Node, ahead []int64, id int64) int64 {
	if plainNode(tree, id) < 0 {
		return impl.ErrNone
	}
	for _, other := range ahead {
		if !plainRelated(tree, id, other) {
			return impl.ErrState
		}
	}
	return impl.OK
}

func plainChainFault(c impl.Chain) int64 {
	for _, code := range []int64{plainFault(c.Ledger), plainTreeFault(c.Tree)} {
		if code != impl.OK {
			return code
		}
	}
	if len(c.Locks) > 20 {
		return impl.ErrMany
	}
	if code := plainNodesFault(c); code != impl.OK {
		return code
	}
	for i, id := range c.Locks {
		if code := plainLockFault(c.Tree, c.Locks[:i], id); code != impl.OK {
			return code
		}
	}
	if c.State.Tip != plainBestOf(c.Tree, c.Locks).Value {
		return impl.ErrState
	}
	path := plainPathTo(c.Tree, c.State.Tip).List
	if !plainSameStates(c.State, plainFold(c.Ledger, path).State) {
		return impl.ErrState
	}
	if !slices.EqualFunc(c.Undos, plainUndos(c.Ledger, path), sameUndos) {
		return impl.ErrForm
	}
	return impl.OK
}

func plainNewChain(l impl.Ledger) impl.ChainResult {
	if code := plainFault(l); code != impl.OK {
		return impl.ChainResult{Code: code}
	}
	return impl.ChainResult{Chain: impl.Chain{Ledger: l}}
}

// plainMove asks no fault: what is moved need not stand where it has to yet.
func plainMove(c impl.Chain, id int64) impl.ChainResult {
	path := plainPathTo(c.Tree, id)
	if path.Code != impl.OK {
		return impl.ChainResult{Code: path.Code}
	}
	r := impl.ChainResult{Chain: copyChain(c)}
	for r.Chain.State.Tip != 0 && !slices.Contains(path.List, r.Chain.State.Tip) {
		last := len(r.Chain.Undos) - 1
		back := plainDisconnect(c.Ledger, r.Chain.State, r.Chain.Undos[last])
		if back.Code != impl.OK {
			return impl.ChainResult{Code: back.Code}
		}
		r.Chain.State, r.Chain.Undos = back.State, r.Chain.Undos[:last]
		r.Moved++
	}
	for _, next := range path.List[slices.Index(path.List, r.Chain.State.Tip)+1:] {
		on := plainConnect(c.Ledger, r.Chain.State, next)
		if on.Code != impl.OK {
			return impl.ChainResult{Code: on.Code}
		}
		r.Chain.State, r.Chain.Undos = on.State, append(r.Chain.Undos, on.Undo)
		r.Moved++
	}
	return r
}

func plainMoveTo(c impl.Chain, id int64) impl.ChainResult {
	if code := plainChainFault(c); code != impl.OK {
		return impl.ChainResult{Code: code}
	}
	return plainMove(c, id)
}

func plainTakeBlock(c impl.Chain, id int64) impl.ChainResult {
	if code := plainChainFault(c); code != impl.OK {
		return impl.ChainResult{Code: code}
	}
	read := plainBlockIn(c.Ledger, id)
	if read.Code != impl.OK {
		return impl.ChainResult{Code: read.Code}
	}
	added := plainAddNode(c.Tree, impl.Node{Id: id, Prev: read.Block.Prev, Height: read.Block.Height})
	if added.Code != impl.OK {
		return impl.ChainResult{Code: added.Code}
	}
	if r := plainFold(c.Ledger, plainPathTo(added.Tree, id).List); r.Code != impl.OK {
		return impl.ChainResult{Code: r.Code}
	}
	with := copyChain(c)
	with.Tree = added.Tree
	return plainMove(with, plainBestOf(with.Tree, with.Locks).Value)
}

func plainLockBlock(c impl.Chain, id int64) impl.ChainResult {
	if code := plainChainFault(c); code != impl.OK {
		return impl.ChainResult{Code: code}
	}
	if code := plainLockFault(c.Tree, c.Locks, id); code != impl.OK {
		return impl.ChainResult{Code: code}
	}
	if slices.Contains(c.Locks, id) {
		return impl.ChainResult{Chain: c}
	}
	if len(c.Locks) == 20 {
		return impl.ChainResult{Code: impl.ErrMany}
	}
	with := copyChain(c)
	with.Locks = append(with.Locks, id)
	return plainMove(with, plainBestOf(with.Tree, with.Locks).Value)
}

// plainSameChains: the others ask the fault first, and this one is one of them.
func plainSameChains(a, b impl.Chain) bool {
	if plainChainFault(a) != impl.OK || plainChainFault(b) != impl.OK {
		return false
	}
	return plainSameStates(a.State, b.State) && slices.Equal(a.Tree, b.Tree) && slices.Equal(a.Locks, b.Locks)
}

// isSameChain holds all of two chains against each other, what SameChains leaves out as well.
func isSameChain(a, b impl.Chain) bool {
	return sameLedgers(a.Ledger, b.Ledger) && slices.Equal(a.Tree, b.Tree) && slices.Equal(a.Locks, b.Locks) &&
		plainSameStates(a.State, b.State) && slices.EqualFunc(a.Undos, b.Undos, sameUndos)
}

func sameChainResults(a, b impl.ChainResult) bool {
	return a.Code == b.Code && a.Moved == b.Moved && isSameChain(a.Chain, b.Chain)
}

func copyUndos(list []impl.Undo) []impl.Undo {
	var copied []impl.Undo
	for _, u := range list {
		copied = append(copied, copyUndo(u))
	}
	return copied
}

func copyChain(c impl.Chain) impl.Chain {
	return impl.Chain{Ledger: copyLedger(c.Ledger), Tree: slices.Clone(c.Tree), Locks: slices.Clone(c.Locks), State: copyState(c.State), Undos: copyUndos(c.Undos)}
}

// chainOf works a chain out by the plain reading, and asks nothing of the program: of a ledger, locks, and the blocks that came, in order.
func chainOf(l impl.Ledger, locks []int64, ids ...int64) impl.Chain {
	c := impl.Chain{Ledger: l, Locks: locks}
	for _, id := range ids {
		b := plainBlockIn(l, id).Block
		c.Tree = append(c.Tree, impl.Node{Id: id, Prev: b.Prev, Height: b.Height})
	}
	path := plainPathTo(c.Tree, plainBestOf(c.Tree, locks).Value).List
	c.State, c.Undos = plainFold(l, path).State, plainUndos(l, path)
	return c
}

func chainWith(c impl.Chain, change func(c *impl.Chain)) impl.Chain {
	other := copyChain(c)
	change(&other)
	return other
}

// holdChain holds all functions against the plain reading, and where there is no code against the promise.
func holdChain(t *testing.T, name string, c impl.Chain, ids ...int64) int64 {
	t.Helper()
	was := copyChain(c)
	code := impl.ChainFault(c)
	if want := plainChainFault(c); code != want {
		t.Fatalf("%s: ChainFault %v = %d, want %d", name, c, code, want)
	}
	for _, id := range ids {
		holdTake(t, name, c, id)
		holdLock(t, name, c, id)
		holdMove(t, name, c, id)
	}
	if got, want := impl.SameChains(c, copyChain(c)), code == impl.OK; got != want {
		t.Fatalf("%s: it is the same as itself: %v", name, got)
	}
	if !isSameChain(c, was) {
		t.Fatalf("%s: an argument was changed: %v, it was %v", name, c, was)
	}
	if code == impl.OK {
		holdStanding(t, name, c)
	}
	return code
}

func holdTake(t *testing.T, name string, c impl.Chain, id int64) impl.ChainResult {
	t.Helper()
	r, want := impl.TakeBlock(c, id), plainTakeBlock(c, id)
	if !sameChainResults(r, want) {
		t.Fatalf("%s: TakeBlock %d = %v, want %v", name, id, r, want)
	}
	if r.Code == impl.OK {
		holdStanding(t, name, r.Chain)
		holdMoved(t, name, r.Chain.Tree, c.State.Tip, r.Chain.State.Tip, r.Moved)
	}
	return r
}

func holdLock(t *testing.T, name string, c impl.Chain, id int64) impl.ChainResult {
	t.Helper()
	r, want := impl.LockBlock(c, id), plainLockBlock(c, id)
	if !sameChainResults(r, want) {
		t.Fatalf("%s: LockBlock %d = %v, want %v", name, id, r, want)
	}
	if r.Code == impl.OK {
		holdStanding(t, name, r.Chain)
		holdMoved(t, name, r.Chain.Tree, c.State.Tip, r.Chain.State.Tip, r.Moved)
		if !impl.IsAbove(r.Chain.Tree, id, r.Chain.State.Tip) {
			t.Fatalf("%s: %d is locked, and the chain stands behind %d", name, id, r.Chain.State.Tip)
		}
	}
	return r
}

func holdMove(t *testing.T, name string, c impl.Chain, id int64) impl.ChainResult {
	t.Helper()
	r, want := impl.MoveTo(c, id), plainMoveTo(c, id)
	if !sameChainResults(r, want) {
		t.Fatalf("%s: MoveTo %d = %v, want %v", name, id, r, want)
	}
	if r.Code == impl.OK {
		holdPath(t, name, r.Chain)
		holdMoved(t, name, c.Tree, c.State.Tip, id, r.Moved)
		if r.Chain.State.Tip != id || !sameLedgers(r.Chain.Ledger, c.Ledger) || !slices.Equal(r.Chain.Tree, c.Tree) || !slices.Equal(r.Chain.Locks, c.Locks) {
			t.Fatalf("%s: it is moved to %d: %v", name, id, r)
		}
	}
	return r
}

// Promise 16, in its own words: what is held here asks no plain reading.

// holdPath: the state of a chain is that of the blocks of its path, and with its undos all of them are taken back.
func holdPath(t *testing.T, name string, c impl.Chain) {
	t.Helper()
	path := impl.PathTo(c.Tree, c.State.Tip)
	folded := impl.FoldBlocks(c.Ledger, path.List)
	if path.Code != impl.OK || folded.Code != impl.OK || !impl.SameStates(c.State, folded.State) || len(c.Undos) != len(path.List) {
		t.Fatalf("%s: behind %v there is %v, want %v", name, path, c.State, folded)
	}
	s := c.State
	for _, undo := range slices.Backward(c.Undos) {
		r := impl.DisconnectBlock(c.Ledger, s, undo)
		if r.Code != impl.OK {
			t.Fatalf("%s: %v is not taken back: %v", name, undo, r)
		}
		s = r.State
	}
	if !impl.SameStates(s, impl.State{}) {
		t.Fatalf("%s: all is taken back: %v", name, s)
	}
}

// holdStanding: a chain that has no fault stands behind the best one, and each lock is above where it stands.
func holdStanding(t *testing.T, name string, c impl.Chain) {
	t.Helper()
	if code := impl.ChainFault(c); code != impl.OK {
		t.Fatalf("%s: %v has the fault %d", name, c, code)
	}
	if best := impl.BestOf(c.Tree, c.Locks); best != (impl.IntResult{Value: c.State.Tip}) {
		t.Fatalf("%s: the chain stands behind %d, the best one is %v", name, c.State.Tip, best)
	}
	for _, lock := range c.Locks {
		if !impl.IsAbove(c.Tree, lock, c.State.Tip) {
			t.Fatalf("%s: the lock %d is not above %d", name, lock, c.State.Tip)
		}
	}
	holdPath(t, name, c)
}

// holdMoved: as many are moved as there are on both paths below where they part.
func holdMoved(t *testing.T, name string, tree []impl.Node, from, to, moved int64) {
	t.Helper()
	one, two := impl.PathTo(tree, from).List, impl.PathTo(tree, to).List
	want := 0
	for _, id := range one {
		if !slices.Contains(two, id) {
			want++
		}
	}
	for _, id := range two {
		if !slices.Contains(one, id) {
			want++
		}
	}
	if moved != int64(want) {
		t.Fatalf("%s: from %d to %d: %d are moved, want %d", name, from, to, moved, want)
	}
}

// orchard has the story and what grows beside it, and behind each right block that is an end wrong ones: 17 parts from the story at the first block, 22 in its midst, 19 just below its end; 15 is a first block of its own.
func orchard() impl.Ledger {
	l, _ := story()
	more := ledgerBy(
		by("block 0 1 5 -"),
		by("block 15 2 5 -"),
		by("block 1 2 9 -"),
		by("block 17 3 9 3"),
		by("block 8 5 9 10"),
		by("block 19 6 9 -"),
		by("block 20 7 9 9+12"),
		by("block 2 3 9 3+5"),
		by("block 14 7 9 -"),
		by("block 14 7 9 7"),
		by("block 14 7 9 1"),
		by("block 14 7 9 60"),
		by("block 24 8 9 -"),
		by("block 13 7 9 -"),
		by("block 14 9 9 -"),
		by("pay 2:0 900=1_of_2"),
		by("block 14 7 8 30"),
		by("pay 14:0 1=1_of_8", 8),
		by("block 14 7 8 32"),
		by("pay 2:0 2000=1_of_2", 2),
		by("block 14 7 8 34"),
		by("join 4 2:0 1000=1_of_2", 2),
		by("block 14 7 8 36"),
		by("leave 9 2:0 1000=1_of_2", 2, 9),
		by("block 14 7 8 38"),
		by("a text that is neither"),
		by("block 1 2 7 3"),
		by("block 0 1 6 3"),
		by("block 42 2 6 -"),
		by("block 23 8 9 -"),
		by("block 16 3 5 -"),
		by("block 18 4 9 -"),
	)
	for _, sign := range more.Signs {
		l.Signs = append(l.Signs, impl.Sign{Key: sign.Key, Id: sign.Id + 14})
	}
	l.Texts = append(l.Texts, more.Texts...)
	return l
}

// rightBlocks of the orchard stand in an order in which each may be taken.
func rightBlocks() []int64 {
	return []int64{1, 2, 6, 8, 11, 14, 15, 16, 17, 18, 19, 20, 21, 22, 23, 44, 45, 46}
}

// orchardIds are all its numbers, and some that it has not.
func orchardIds() []int64 {
	ids := []int64{math.MinInt64, -1, 0}
	for i := range orchard().Texts {
		ids = append(ids, int64(i+1))
	}
	return append(ids, int64(len(orchard().Texts)+1), 60, 61, math.MaxInt64)
}

// takeAll takes the blocks one behind the other; each has to be taken.
func takeAll(t *testing.T, c impl.Chain, ids ...int64) impl.Chain {
	t.Helper()
	for _, id := range ids {
		r := impl.TakeBlock(c, id)
		if r.Code != impl.OK {
			t.Fatalf("%d is not taken: %d", id, r.Code)
		}
		c = r.Chain
	}
	return c
}

func lockAll(t *testing.T, c impl.Chain, ids ...int64) impl.Chain {
	t.Helper()
	for _, id := range ids {
		r := impl.LockBlock(c, id)
		if r.Code != impl.OK {
			t.Fatalf("%d is not locked: %d", id, r.Code)
		}
		c = r.Chain
	}
	return c
}

// Ordinary chains.

func TestAChainTakesAStory(t *testing.T) {
	l, ids := story()
	states := storyStates()
	c := impl.NewChain(l)
	if !sameChainResults(c, impl.ChainResult{Chain: impl.Chain{Ledger: l}}) {
		t.Fatal(c)
	}
	for i, id := range ids {
		was := c.Chain
		c = holdTake(t, "the story", was, id)
		if c.Code != impl.OK || c.Moved != 1 || !impl.SameStates(c.Chain.State, states[i+1]) {
			t.Fatalf("%d is taken: %v, want %v", id, c, states[i+1])
		}
		if done := impl.ConnectBlock(l, was.State, id); len(c.Chain.Undos) != i+1 || !sameUndos(c.Chain.Undos[i], done.Undo) {
			t.Fatalf("%d is taken: %v, want %v", id, c.Chain.Undos, done.Undo)
		}
		if last := c.Chain.Tree[i]; last.Id != id || last.Height != int64(i+1) || len(c.Chain.Tree) != i+1 || len(c.Chain.Locks) != 0 {
			t.Fatalf("%d is taken: %v", id, c.Chain)
		}
		holdChain(t, "the story", c.Chain, ids...)
	}
	for i, id := range append([]int64{0}, ids...) {
		if r := holdMove(t, "the story", c.Chain, id); r.Moved != int64(len(ids)-i) || !impl.SameStates(r.Chain.State, states[i]) || len(r.Chain.Undos) != i {
			t.Errorf("moved to %d: %v, want %v", id, r, states[i])
		}
	}
}

// chainRow: what comes of it where one more is taken, locked or moved to.
type chainRow struct {
	name  string
	taken []int64
	locks []int64
	id    int64
	code  int64
	tip   int64
	moved int64
}

func (row chainRow) chain() impl.Chain {
	return chainOf(orchard(), row.locks, row.taken...)
}

func (row chainRow) hold(t *testing.T, r impl.ChainResult) {
	t.Helper()
	if code := impl.ChainFault(row.chain()); code != impl.OK {
		t.Fatalf("%s: it begins with the fault %d", row.name, code)
	}
	if r.Code != row.code || r.Moved != row.moved || r.Chain.State.Tip != row.tip {
		t.Errorf("%s: %d is asked: the code %d, the tip %d, %d moved, want %v", row.name, row.id, r.Code, r.Chain.State.Tip, r.Moved, row)
	}
	if row.code != impl.OK && !sameChainResults(r, impl.ChainResult{Code: row.code}) {
		t.Errorf("%s: beside the code %d there is %v", row.name, row.code, r)
	}
}

func TestTakeBlock(t *testing.T) {
	end := []int64{1, 2, 6, 8, 11, 14}
	for _, row := range []chainRow{
		{"the first one of all", nil, nil, 1, impl.OK, 1, 1},
		{"the next one on the same path", []int64{1, 2}, nil, 6, impl.OK, 6, 1},
		{"the next one, of several at the end", end, nil, 23, impl.OK, 23, 1},
		{"higher, from another first block", []int64{1, 15}, nil, 16, impl.OK, 16, 3},
		{"higher, parted at the first block", []int64{1, 2, 17}, nil, 18, impl.OK, 18, 3},
		{"higher, parted behind it", []int64{1, 2, 22, 6}, nil, 8, impl.OK, 8, 3},
		{"higher, parted just below Tip", []int64{1, 2, 6, 8, 11, 19}, nil, 20, impl.OK, 20, 3},
		{"higher, and the others go back further", append(slices.Clone(end), 19, 20), nil, 21, impl.OK, 21, 5},
		{"higher, with the same transaction in both", []int64{1, 2, 22, 17, 18}, nil, 46, impl.OK, 46, 5},
		{"as high as Tip", []int64{1, 2, 6, 8, 11}, nil, 19, impl.OK, 11, 0},
		{"as high as Tip, a first block", []int64{1}, nil, 15, impl.OK, 1, 0},
		{"as high as Tip, parted further up", append(slices.Clone(end), 19), nil, 20, impl.OK, 14, 0},
		{"not so high", end, nil, 17, impl.OK, 14, 0},
		{"behind one that is not Tip", append(slices.Clone(end), 17), nil, 18, impl.OK, 14, 0},
		{"higher, but it does not go with Tip, which is locked", []int64{1, 2, 6, 8, 11, 19}, []int64{11}, 20, impl.OK, 11, 0},
		{"higher, but it does not go with one of two locks", append(slices.Clone(end), 19, 20), []int64{8, 11}, 21, impl.OK, 14, 0},
		{"higher, but it does not go with a first block that is locked", []int64{1, 15}, []int64{1}, 16, impl.OK, 1, 0},
		{"higher, and it goes with the lock", append(slices.Clone(end), 19, 20), []int64{8}, 21, impl.OK, 21, 5},
		{"higher, and it goes with all locks", append(slices.Clone(end), 19, 20), []int64{8, 1, 8, 2, 6}, 21, impl.OK, 21, 5},
		{"not so high, but on the path that is locked", []int64{1, 2, 6, 8, 11, 17}, []int64{17}, 18, impl.OK, 18, 1},

		{"the number 0", end, nil, 0, impl.ErrRange, 0, 0},
		{"the number -1", end, nil, -1, impl.ErrRange, 0, 0},
		{"a number that is not in the ledger", end, nil, 47, impl.ErrRange, 0, 0},
		{"the last number that a ledger may have", end, nil, 60, impl.ErrRange, 0, 0},
		{"the lowest number there is", end, nil, math.MinInt64, impl.ErrRange, 0, 0},
		{"the highest number there is", end, nil, math.MaxInt64, impl.ErrRange, 0, 0},
		{"a transaction", end, nil, 3, impl.ErrText, 0, 0},
		{"another text", end, nil, 40, impl.ErrText, 0, 0},
		{"Tip itself", end, nil, 14, impl.ErrTaken, 0, 0},
		{"the first one again", end, nil, 1, impl.ErrTaken, 0, 0},
		{"one on a branch again", append(slices.Clone(end), 17), nil, 17, impl.ErrTaken, 0, 0},
		{"one whose Prev is not in the tree", end, nil, 44, impl.ErrNone, 0, 0},
		{"one whose Prev is wrong, and not in the tree", end, nil, 27, impl.ErrNone, 0, 0},
		{"one whose Prev is a transaction", end, nil, 28, impl.ErrNone, 0, 0},
		{"one whose Prev is not in the tree, which is empty", nil, nil, 2, impl.ErrNone, 0, 0},
		{"one whose Height is not that of Prev and 1", end, nil, 29, impl.ErrForm, 0, 0},
		{"one that spends what is gone", end, nil, 24, impl.ErrNone, 0, 0},
		{"one of whose transactions one is a block", end, nil, 25, impl.ErrText, 0, 0},
		{"one of whose transactions one is not there", end, nil, 26, impl.ErrRange, 0, 0},
		{"one that nobody signed", end, nil, 31, impl.ErrSign, 0, 0},
		{"one that spends too early", end, nil, 33, impl.ErrEarly, 0, 0},
		{"one that spends too much", end, nil, 35, impl.ErrValue, 0, 0},
		{"one where a member joins again", end, nil, 37, impl.ErrTaken, 0, 0},
		{"one where none leaves", end, nil, 39, impl.ErrNone, 0, 0},
		{"a wrong one on a branch", end, nil, 41, impl.ErrEarly, 0, 0},
		{"a wrong first one", end, nil, 42, impl.ErrNone, 0, 0},
		{"a wrong first one, of an empty tree", nil, nil, 42, impl.ErrNone, 0, 0},
		{"a wrong one that does not go with the lock", append(slices.Clone(end), 17), []int64{17}, 24, impl.ErrNone, 0, 0},
	} {
		r := holdTake(t, row.name, row.chain(), row.id)
		row.hold(t, r)
		if want := append(row.chain().Tree, nodeIn(row.id)); row.code == impl.OK && (!slices.Equal(r.Chain.Tree, want) || !slices.Equal(r.Chain.Locks, row.locks) || !sameLedgers(r.Chain.Ledger, orchard())) {
			t.Errorf("%s: %v, want the tree %v", row.name, r.Chain, want)
		}
	}
}

// nodeIn is the node of a block of the orchard.
func nodeIn(id int64) impl.Node {
	b := plainBlockIn(orchard(), id).Block
	return impl.Node{Id: id, Prev: b.Prev, Height: b.Height}
}

func TestLockBlock(t *testing.T) {
	end := []int64{1, 2, 6, 8, 11, 14}
	all := append(slices.Clone(end), 15, 16, 17, 18, 19, 20)
	for _, row := range []chainRow{
		{"Tip", end, nil, 14, impl.OK, 14, 0},
		{"just above Tip", end, nil, 11, impl.OK, 14, 0},
		{"the first one", end, nil, 1, impl.OK, 14, 0},
		{"the only one", []int64{15}, nil, 15, impl.OK, 15, 0},
		{"one on another branch, as high", all, nil, 20, impl.OK, 20, 4},
		{"one on another branch, just below its end", all, nil, 19, impl.OK, 20, 4},
		{"one on another branch, from the first block on", all, nil, 17, impl.OK, 18, 7},
		{"the end of that branch", all, nil, 18, impl.OK, 18, 7},
		{"another first block", all, nil, 15, impl.OK, 16, 8},
		{"one above a lock", all, []int64{11}, 2, impl.OK, 14, 0},
		{"one below a lock, on the same path", all, []int64{2}, 11, impl.OK, 14, 0},
		{"one below a lock, on another branch", all, []int64{2}, 19, impl.OK, 20, 4},
		{"one between two locks", all, []int64{1, 11}, 8, impl.OK, 14, 0},
		{"a lock", all, []int64{8}, 8, impl.OK, 14, 0},
		{"the last one of several locks", all, []int64{1, 19, 20}, 20, impl.OK, 20, 0},
		{"a lock that stands there twice", all, []int64{8, 8}, 8, impl.OK, 14, 0},

		{"0", all, nil, 0, impl.ErrNone, 0, 0},
		{"-1", all, nil, -1, impl.ErrNone, 0, 0},
		{"a transaction", all, nil, 3, impl.ErrNone, 0, 0},
		{"a block that is not in the tree", all, nil, 21, impl.ErrNone, 0, 0},
		{"one of an empty tree", nil, nil, 1, impl.ErrNone, 0, 0},
		{"0 of an empty tree", nil, nil, 0, impl.ErrNone, 0, 0},
		{"61", all, nil, 61, impl.ErrNone, 0, 0},
		{"the lowest number there is", all, nil, math.MinInt64, impl.ErrNone, 0, 0},
		{"the highest number there is", all, nil, math.MaxInt64, impl.ErrNone, 0, 0},
		{"not in the tree, beside a lock", all, []int64{20}, 21, impl.ErrNone, 0, 0},
		{"one beside the lock", all, []int64{11}, 19, impl.ErrState, 0, 0},
		{"one on another branch than the lock", all, []int64{18}, 2, impl.ErrState, 0, 0},
		{"another first block than the lock", all, []int64{1}, 15, impl.ErrState, 0, 0},
		{"one that goes with the first lock, not with the last one", all, []int64{1, 2, 11}, 19, impl.ErrState, 0, 0},
		{"one that goes with the last lock, not with the first one", all, []int64{11, 2, 1}, 19, impl.ErrState, 0, 0},
		{"one that goes with the outer locks, not with the one between", all, []int64{8, 11, 1}, 20, impl.ErrState, 0, 0},
	} {
		r := holdLock(t, row.name, row.chain(), row.id)
		row.hold(t, r)
		want := slices.Clone(row.locks)
		if !slices.Contains(row.locks, row.id) {
			want = append(want, row.id)
		}
		if row.code == impl.OK && (!slices.Equal(r.Chain.Locks, want) || !slices.Equal(r.Chain.Tree, row.chain().Tree)) {
			t.Errorf("%s: %v, want the locks %v", row.name, r.Chain, want)
		}
	}
}

func TestMoveTo(t *testing.T) {
	all := []int64{1, 2, 6, 8, 11, 14, 15, 16, 17, 18, 19, 20, 22}
	for _, row := range []chainRow{
		{"0", all, nil, 0, impl.OK, 0, 6},
		{"0 of an empty tree", nil, nil, 0, impl.OK, 0, 0},
		{"0, where there is a lock", all, []int64{14}, 0, impl.OK, 0, 6},
		{"Tip", all, nil, 14, impl.OK, 14, 0},
		{"just above Tip", all, nil, 11, impl.OK, 11, 1},
		{"far above Tip", all, nil, 1, impl.OK, 1, 5},
		{"just above the lock", all, []int64{14}, 11, impl.OK, 11, 1},
		{"one that does not go with the lock", all, []int64{14}, 20, impl.OK, 20, 4},
		{"one of another first block", all, nil, 15, impl.OK, 15, 7},
		{"the end behind another first block", all, nil, 16, impl.OK, 16, 8},
		{"parted at the first block", all, nil, 17, impl.OK, 17, 6},
		{"parted at the first block, further down", all, nil, 18, impl.OK, 18, 7},
		{"parted in the midst", all, nil, 22, impl.OK, 22, 5},
		{"parted just below the end, not so high", all, nil, 19, impl.OK, 19, 3},
		{"parted just below the end, as high", all, nil, 20, impl.OK, 20, 4},
		{"below where it stands, since a lock holds it", append(slices.Clone(all), 21), []int64{11}, 21, impl.OK, 21, 5},

		{"-1", all, nil, -1, impl.ErrNone, 0, 0},
		{"1 of an empty tree", nil, nil, 1, impl.ErrNone, 0, 0},
		{"a block that is not in the tree", all, nil, 21, impl.ErrNone, 0, 0},
		{"a transaction", all, nil, 3, impl.ErrNone, 0, 0},
		{"a text", all, nil, 40, impl.ErrNone, 0, 0},
		{"61", all, nil, 61, impl.ErrNone, 0, 0},
		{"the lowest number there is", all, nil, math.MinInt64, impl.ErrNone, 0, 0},
		{"the highest number there is", all, nil, math.MaxInt64, impl.ErrNone, 0, 0},
	} {
		r := holdMove(t, row.name, row.chain(), row.id)
		row.hold(t, r)
	}
}

// From each block of the orchard to each other one: a lock of the one has the chain stand there, or behind it.
func TestMovesFromEachToEach(t *testing.T) {
	l := orchard()
	ids := rightBlocks()
	for _, from := range ids {
		c := chainOf(l, []int64{from}, ids...)
		for _, to := range append([]int64{0}, ids...) {
			holdMove(t, fmt.Sprint("locked at ", from), c, to)
		}
	}
}

// A chain that is moved where it is not the best is none that goes on from there.
func TestWhatIsMovedNeedNotBeTheBest(t *testing.T) {
	c := chainOf(orchard(), nil, 1, 2, 6, 17)
	for _, id := range []int64{0, 1, 2, 17} {
		moved := holdMove(t, "moved", c, id).Chain
		if code := holdChain(t, "moved", moved, 0, id, 6, 8, 18, 60); code != impl.ErrState {
			t.Errorf("moved to %d: the fault %d", id, code)
		}
		for _, call := range chainCalls() {
			if r := call.call(moved); !sameChainResults(r, impl.ChainResult{Code: impl.ErrState}) && call.name != "NewChain" {
				t.Errorf("moved to %d: %s: %v", id, call.name, r)
			}
		}
	}
	if moved := holdMove(t, "not moved", c, 6).Chain; !impl.SameChains(moved, c) || !isSameChain(moved, c) {
		t.Error(moved)
	}
}

// The edges of a chain, and wrong ones.

// base stands behind 14, and has two branches beside it.
func base() impl.Chain {
	return chainOf(orchard(), []int64{8}, 1, 2, 6, 8, 11, 14, 17, 19)
}

type faultyChain struct {
	name  string
	chain impl.Chain
	code  int64
}

func withLocks(ids ...int64) impl.Chain {
	return chainWith(base(), func(c *impl.Chain) { c.Locks = ids })
}

// withNodes puts nodes behind those of the base.
func withNodes(numbers ...int64) impl.Chain {
	return chainWith(base(), func(c *impl.Chain) { c.Tree = append(c.Tree, nodesOf(numbers...)...) })
}

func withUndos(change func(list []impl.Undo) []impl.Undo) impl.Chain {
	return chainWith(base(), func(c *impl.Chain) { c.Undos = change(c.Undos) })
}

// standingAt is the base as if it stood behind another one of its blocks: all but that is right.
func standingAt(id int64) impl.Chain {
	return chainWith(base(), func(c *impl.Chain) {
		path := plainPathTo(c.Tree, id).List
		c.State, c.Undos = plainFold(c.Ledger, path).State, plainUndos(c.Ledger, path)
	})
}

func rightChains() []faultyChain {
	return []faultyChain{
		{"nothing at all", impl.Chain{}, impl.OK},
		{"a ledger alone", impl.Chain{Ledger: orchard()}, impl.OK},
		{"a ledger without blocks", impl.Chain{Ledger: ordinaryLedger()}, impl.OK},
		{"one block", chainOf(orchard(), nil, 1), impl.OK},
		{"no locks", chainOf(orchard(), nil, 1, 2, 6, 8, 11, 14), impl.OK},
		{"the base", base(), impl.OK},
		{"a lock at Tip", withLocks(14), impl.OK},
		{"20 locks", withLocks(slices.Repeat([]int64{1, 2, 6, 8}, 5)...), impl.OK},
		{"a lock that stands twice", withLocks(8, 8), impl.OK},
		{"a lock that stands twice, another one between", withLocks(8, 14, 8), impl.OK},
		{"locks from the last one to the first", withLocks(14, 11, 8, 6, 2, 1), impl.OK},
		{"two first blocks", chainOf(orchard(), nil, 15, 1), impl.OK},
		{"all that is right", chainOf(orchard(), nil, rightBlocks()...), impl.OK},
		{"all that is right, locked at a low branch", chainOf(orchard(), []int64{15}, rightBlocks()...), impl.OK},
		{"as high as another one that came first, but locked", chainOf(orchard(), []int64{20}, 1, 2, 6, 8, 11, 14, 19, 20), impl.OK},
		{"another order of the nodes", chainOf(orchard(), nil, 15, 1, 17, 2, 22, 6, 18, 16, 8), impl.OK},
		{"signatures and texts that nobody needs", chainWith(base(), func(c *impl.Chain) {
			c.Ledger.Texts = append(c.Ledger.Texts, "more")
			c.Ledger.Signs = append(c.Ledger.Signs, impl.Sign{Key: 9, Id: 1})
		}), impl.OK},
	}
}

func wrongChains() []faultyChain {
	rows := []faultyChain{
		{"21 locks", withLocks(slices.Repeat([]int64{8}, 21)...), impl.ErrMany},
		{"21 locks that are not there", withLocks(make([]int64, 21)...), impl.ErrMany},
		{"21 locks of no tree", impl.Chain{Locks: make([]int64, 21)}, impl.ErrMany},
		{"21 locks beside a wrong node", chainWith(withNodes(3, 14, 7), func(c *impl.Chain) { c.Locks = make([]int64, 21) }), impl.ErrMany},

		{"a node that is not in the ledger", withNodes(47, 14, 7), impl.ErrRange},
		{"a node of the last number that there may be", withNodes(60, 14, 7), impl.ErrRange},
		{"a node of an empty ledger", impl.Chain{Tree: nodesOf(1, 0, 1)}, impl.ErrRange},
		{"a node that is a transaction", withNodes(3, 14, 7), impl.ErrText},
		{"a node that is a text", withNodes(40, 0, 1), impl.ErrText},
		{"a block of another Prev", withNodes(20, 11, 6), impl.ErrForm},
		{"a block of another Height", withNodes(29, 14, 7), impl.ErrForm},
		{"a block of another Prev and Height", withNodes(23, 0, 1), impl.ErrForm},
		{"a first block that is put behind one", withNodes(15, 1, 2), impl.ErrForm},
		{"the first node is a block of another Height", impl.Chain{Ledger: orchard(), Tree: nodesOf(2, 0, 1)}, impl.ErrForm},
		{"a node in the midst that is a block of another Prev", chainWith(base(), func(c *impl.Chain) { c.Tree = nodesOf(1, 0, 1, 17, 1, 2, 18, 17, 3, 8, 18, 4, 2, 1, 2) }), impl.ErrForm},

		{"a path that cannot be folded, of the first node", impl.Chain{Ledger: orchard(), Tree: nodesOf(42, 0, 1)}, impl.ErrNone},
		{"of the first of several", impl.Chain{Ledger: orchard(), Tree: nodesOf(42, 0, 1, 1, 0, 1)}, impl.ErrNone},
		{"of another first node", withNodes(42, 0, 1), impl.ErrNone},
		{"in the middle", withNodes(42, 0, 1, 43, 42, 2), impl.ErrNone},
		{"in the middle of the list", chainWith(base(), func(c *impl.Chain) { c.Tree = slices.Insert(c.Tree, 1, nodesOf(41, 1, 2)...) }), impl.ErrEarly},
		{"on a branch beside Tip", withNodes(41, 1, 2), impl.ErrEarly},
		{"behind Tip: it spends what is gone", withNodes(24, 14, 7), impl.ErrNone},
		{"behind Tip: a transaction that is none", withNodes(25, 14, 7), impl.ErrText},
		{"behind Tip: a transaction that is not there", withNodes(26, 14, 7), impl.ErrRange},
		{"behind Tip: it is not signed", withNodes(31, 14, 7), impl.ErrSign},
		{"behind Tip: it is too early", withNodes(33, 14, 7), impl.ErrEarly},
		{"behind Tip: it is too much", withNodes(35, 14, 7), impl.ErrValue},
		{"behind Tip: who joins is there", withNodes(37, 14, 7), impl.ErrTaken},
		{"behind Tip: who leaves is not there", withNodes(39, 14, 7), impl.ErrNone},

		{"a lock that is not in the tree", withLocks(15), impl.ErrNone},
		{"a lock 0", withLocks(0), impl.ErrNone},
		{"a lock -1", withLocks(8, -1), impl.ErrNone},
		{"a lock that is a transaction", withLocks(3), impl.ErrNone},
		{"a lock of an empty tree", impl.Chain{Ledger: orchard(), Locks: []int64{1}}, impl.ErrNone},
		{"the lowest lock there is", withLocks(math.MinInt64), impl.ErrNone},
		{"the highest lock there is", withLocks(math.MaxInt64), impl.ErrNone},
		{"a lock beside one ahead", withLocks(11, 19), impl.ErrState},
		{"a lock that goes with the first one, not with the last one", withLocks(1, 11, 19), impl.ErrState},
		{"a lock that goes with the last one, not with the first one", withLocks(11, 1, 19), impl.ErrState},
		{"a lock that goes with the outer ones, not with the one between", withLocks(8, 11, 1, 19), impl.ErrState},
		{"the twentieth lock goes with none", withLocks(append(slices.Repeat([]int64{2}, 19), 17)...), impl.ErrState},

		{"it stands above the best one", standingAt(11), impl.ErrState},
		{"it stands at the lock, which is not the best one", standingAt(8), impl.ErrState},
		{"it stands on another branch", standingAt(19), impl.ErrState},
		{"it stands nowhere, and there are nodes", standingAt(0), impl.ErrState},
		{"it stands at the second of two that are as high", chainWith(chainOf(orchard(), []int64{20}, 1, 2, 6, 8, 11, 14, 19, 20), func(c *impl.Chain) { c.Locks = nil }), impl.ErrState},
		{"it stands at the best one, which is not locked", chainWith(base(), func(c *impl.Chain) { c.Locks = []int64{19} }), impl.ErrState},
		{"a state, and no nodes", impl.Chain{Ledger: orchard(), State: base().State}, impl.ErrState},
		{"a Tip, and no nodes", impl.Chain{State: impl.State{Tip: 1}}, impl.ErrState},
		{"a coin, and no nodes", impl.Chain{State: impl.State{Coins: purseOf()}}, impl.ErrState},
		{"no state", chainWith(base(), func(c *impl.Chain) { c.State = impl.State{} }), impl.ErrState},
		{"the Tip of the best one, the state of another", chainWith(standingAt(11), func(c *impl.Chain) { c.State.Tip = 14 }), impl.ErrState},

		{"no Undos", withUndos(func(list []impl.Undo) []impl.Undo { return nil }), impl.ErrForm},
		{"the last of Undos is missing", withUndos(func(list []impl.Undo) []impl.Undo { return list[:5] }), impl.ErrForm},
		{"the first of Undos is missing", withUndos(func(list []impl.Undo) []impl.Undo { return list[1:] }), impl.ErrForm},
		{"one in the midst of Undos is missing", withUndos(func(list []impl.Undo) []impl.Undo { return slices.Delete(list, 2, 3) }), impl.ErrForm},
		{"an empty one behind Undos", withUndos(func(list []impl.Undo) []impl.Undo { return append(list, impl.Undo{}) }), impl.ErrForm},
		{"the last of Undos twice", withUndos(func(list []impl.Undo) []impl.Undo { return append(list, list[5]) }), impl.ErrForm},
		{"an empty one ahead of Undos", withUndos(func(list []impl.Undo) []impl.Undo { return append([]impl.Undo{{}}, list...) }), impl.ErrForm},
		{"Undos from the last one to the first", withUndos(func(list []impl.Undo) []impl.Undo { slices.Reverse(list); return list }), impl.ErrForm},
		{"the first two of Undos in another order", withUndos(func(list []impl.Undo) []impl.Undo { list[0], list[1] = list[1], list[0]; return list }), impl.ErrForm},
		{"an undo where there is no node", impl.Chain{Undos: []impl.Undo{{}}}, impl.ErrForm},
		{"the undos of another branch", chainWith(base(), func(c *impl.Chain) { c.Undos = plainUndos(c.Ledger, []int64{1, 2, 6, 8, 19, 20}) }), impl.ErrForm},
		{"many Undos", withUndos(func([]impl.Undo) []impl.Undo { return make([]impl.Undo, 1000) }), impl.ErrForm},
	}
	for i, s := range onlyOneElse(base().State) {
		rows = append(rows, faultyChain{fmt.Sprintf("the %d. state that is not so", i+1), chainWith(base(), func(c *impl.Chain) { c.State = s }), impl.ErrState})
	}
	for at, u := range base().Undos {
		for i, bent := range bentUndos(u) {
			rows = append(rows, faultyChain{fmt.Sprintf("the undo of %d, bent in the %d. way", u.Id, i+1), chainWith(base(), func(c *impl.Chain) { c.Undos[at] = bent }), impl.ErrForm})
		}
	}
	return rows
}

// bentUndos have just one thing else each.
func bentUndos(u impl.Undo) []impl.Undo {
	var all []impl.Undo
	change := func(do func(u *impl.Undo)) {
		other := copyUndo(u)
		do(&other)
		all = append(all, other)
	}
	change(func(u *impl.Undo) { u.Id ^= 1 })
	change(func(u *impl.Undo) { u.Spent = append(u.Spent, nil) })
	change(func(u *impl.Undo) { u.Members = append(u.Members, memberOf(999, 60, 3)) })
	for i, list := range u.Spent {
		change(func(u *impl.Undo) { u.Spent = slices.Delete(u.Spent, i, i+1) })
		change(func(u *impl.Undo) { u.Spent[i] = nil })
		change(func(u *impl.Undo) { u.Spent[i] = append(u.Spent[i], coinOf(60, 3, 5, 2)) })
		for j := range list {
			change(func(u *impl.Undo) { u.Spent[i][j].Ref.Tx ^= 1 })
			change(func(u *impl.Undo) { u.Spent[i][j].Ref.At ^= 1 })
			change(func(u *impl.Undo) { u.Spent[i][j].Out.Value ^= 1 })
			change(func(u *impl.Undo) { u.Spent[i][j].Out.Rule.Need ^= 1 })
			change(func(u *impl.Undo) { u.Spent[i][j].Out.Rule.After ^= 1 })
			change(func(u *impl.Undo) { u.Spent[i][j].Out.Rule.Keys[0] ^= 1 })
			change(func(u *impl.Undo) { u.Spent[i][j].Height ^= 1 })
			change(func(u *impl.Undo) { u.Spent[i][j].Mined = !u.Spent[i][j].Mined })
		}
	}
	for i := range u.Members {
		change(func(u *impl.Undo) { u.Members = slices.Delete(u.Members, i, i+1) })
		change(func(u *impl.Undo) { u.Members[i].Key ^= 1 })
		change(func(u *impl.Undo) { u.Members[i].Ref.Tx ^= 1 })
		change(func(u *impl.Undo) { u.Members[i].Ref.At ^= 1 })
	}
	return all
}

// The others ask it first: with a fault they tell its code alone, whatever they are asked, and such a chain is the same as none.
func TestChainFault(t *testing.T) {
	ids := []int64{math.MinInt64, -1, 0, 1, 3, 14, 19, 20, 23, 24, 60, 61}
	for _, row := range rightChains() {
		if code := holdChain(t, row.name, row.chain, ids...); code != row.code {
			t.Errorf("%s: %d", row.name, code)
		}
	}
	holdChain(t, "all numbers", base(), orchardIds()...)
	for _, row := range wrongChains() {
		if code := holdChain(t, row.name, row.chain); code != row.code {
			t.Errorf("%s: %d, want %d", row.name, code, row.code)
		}
		for _, id := range ids {
			for _, r := range []impl.ChainResult{impl.TakeBlock(row.chain, id), impl.LockBlock(row.chain, id), impl.MoveTo(row.chain, id)} {
				if !sameChainResults(r, impl.ChainResult{Code: row.code}) {
					t.Errorf("%s: of %d there is %v", row.name, id, r)
				}
			}
		}
		if impl.SameChains(row.chain, base()) || impl.SameChains(base(), row.chain) {
			t.Errorf("%s: it is the same as the base", row.name)
		}
	}
}

// Faults of the ledger, then of the tree, come ahead of all else.
func TestFaultsComeAheadOfTheChain(t *testing.T) {
	rest := []impl.Chain{{}, base(), {Locks: make([]int64, 21)}, {Tree: nodesOf(3, 0, 1)}, standingAt(0), {Undos: make([]impl.Undo, 3)}, withLocks(0)}
	hold := func(name string, c impl.Chain, code int64) {
		t.Helper()
		if got := holdChain(t, name, c, -1, 1, 60); got != code {
			t.Errorf("%s: %d, want %d", name, got, code)
		}
	}
	for _, ledger := range faultRows() {
		for _, c := range rest {
			hold(ledger.name, chainWith(c, func(c *impl.Chain) { c.Ledger = ledger.ledger }), ledger.code)
		}
		for _, tree := range wrongTrees() {
			hold(ledger.name+" and "+tree.name, impl.Chain{Ledger: ledger.ledger, Tree: tree.tree, Locks: []int64{1}}, ledger.code)
		}
	}
	for _, tree := range wrongTrees() {
		for _, c := range rest {
			hold(tree.name, chainWith(c, func(c *impl.Chain) { c.Tree = tree.tree }), tree.code)
		}
		hold(tree.name+" and 21 locks", chainWith(base(), func(c *impl.Chain) { c.Tree, c.Locks = tree.tree, make([]int64, 21) }), tree.code)
	}
}

func TestWhichCodeOfAChainComesFirst(t *testing.T) {
	badLocks, badState, badUndos := []int64{11, 19}, impl.State{}, []impl.Undo{{}}
	for _, row := range []struct {
		name   string
		change func(c *impl.Chain)
		code   int64
	}{
		{"21 locks ahead of all but the tree", func(c *impl.Chain) {
			c.Tree, c.Locks, c.State, c.Undos = append(c.Tree, nodesOf(3, 14, 7)...), slices.Repeat(badLocks, 11)[:21], badState, badUndos
		}, impl.ErrMany},
		{"a node ahead of a lock, the state and the undos", func(c *impl.Chain) {
			c.Tree, c.Locks, c.State, c.Undos = append(c.Tree, nodesOf(3, 14, 7)...), badLocks, badState, badUndos
		}, impl.ErrText},
		{"a node that is another block, ahead of a lock that is not there", func(c *impl.Chain) {
			c.Tree, c.Locks = append(c.Tree, nodesOf(20, 11, 6)...), []int64{0}
		}, impl.ErrForm},
		{"a path that cannot be folded, ahead of a lock", func(c *impl.Chain) {
			c.Tree, c.Locks = append(c.Tree, nodesOf(41, 1, 2)...), badLocks
		}, impl.ErrEarly},
		{"a path that cannot be folded, ahead of the state", func(c *impl.Chain) {
			c.Tree, c.State = append(c.Tree, nodesOf(41, 1, 2)...), badState
		}, impl.ErrEarly},
		{"a lock that is not there, ahead of the state and the undos", func(c *impl.Chain) { c.Locks, c.State, c.Undos = []int64{0}, badState, badUndos }, impl.ErrNone},
		{"a lock that does not go with another, ahead of the undos", func(c *impl.Chain) { c.Locks, c.Undos = badLocks, badUndos }, impl.ErrState},
		{"the state ahead of the undos", func(c *impl.Chain) { c.State, c.Undos = badState, badUndos }, impl.ErrState},
		{"another Tip ahead of the undos", func(c *impl.Chain) { c.State.Tip, c.Undos = 11, nil }, impl.ErrState},

		{"a path that cannot be folded, then a node that is not there", func(c *impl.Chain) { c.Tree = append(c.Tree, nodesOf(41, 1, 2, 60, 14, 7)...) }, impl.ErrEarly},
		{"a node that is not there, then a path that cannot be folded", func(c *impl.Chain) { c.Tree = append(c.Tree, nodesOf(60, 14, 7, 41, 1, 2)...) }, impl.ErrRange},
		{"a block of another Prev, then a node that is not there", func(c *impl.Chain) { c.Tree = append(c.Tree, nodesOf(20, 11, 6, 60, 14, 7)...) }, impl.ErrForm},
		{"a transaction, then a block of another Prev", func(c *impl.Chain) { c.Tree = append(c.Tree, nodesOf(3, 14, 7, 20, 11, 6)...) }, impl.ErrText},
		{"a block of another Prev whose path cannot be folded either", func(c *impl.Chain) { c.Tree = append(c.Tree, nodesOf(24, 11, 6)...) }, impl.ErrForm},
		{"a block of another Prev, then a path that cannot be folded", func(c *impl.Chain) { c.Tree = append(c.Tree, nodesOf(20, 11, 6, 41, 1, 2)...) }, impl.ErrForm},
		{"a path that cannot be folded, then a block of another Prev", func(c *impl.Chain) { c.Tree = append(c.Tree, nodesOf(41, 1, 2, 20, 11, 6)...) }, impl.ErrEarly},
		{"two paths that cannot be folded", func(c *impl.Chain) { c.Tree = append(c.Tree, nodesOf(31, 14, 7, 33, 14, 7)...) }, impl.ErrSign},
		{"the same two in another order", func(c *impl.Chain) { c.Tree = append(c.Tree, nodesOf(33, 14, 7, 31, 14, 7)...) }, impl.ErrEarly},
		{"a lock that goes with none, then one that is not there", func(c *impl.Chain) { c.Locks = []int64{11, 19, 0} }, impl.ErrState},
		{"a lock that is not there, then one that goes with none", func(c *impl.Chain) { c.Locks = []int64{11, 0, 19} }, impl.ErrNone},
	} {
		c := chainWith(base(), row.change)
		if code := holdChain(t, row.name, c, 0, 14, 23); code != row.code {
			t.Errorf("%s: %d, want %d", row.name, code, row.code)
		}
	}
}

func TestNewChain(t *testing.T) {
	for _, row := range faultRows() {
		if r := impl.NewChain(row.ledger); !sameChainResults(r, impl.ChainResult{Code: row.code}) || !sameChainResults(r, plainNewChain(row.ledger)) {
			t.Errorf("%s: %v", row.name, r)
		}
	}
	l, _ := longLedger()
	for _, l := range []impl.Ledger{{}, ordinaryLedger(), orchard(), l, {Texts: manyTexts(60), Signs: manySigns(120, 60)}} {
		r := impl.NewChain(l)
		if !sameChainResults(r, impl.ChainResult{Chain: impl.Chain{Ledger: l}}) || !sameChainResults(r, plainNewChain(l)) {
			t.Errorf("%v: %v", l, r)
		}
		if code := holdChain(t, "new", r.Chain, -1, 0, 1, 2, 60, 61); code != impl.OK {
			t.Errorf("%v: %d", l, code)
		}
	}
}

func TestSameChains(t *testing.T) {
	l := orchard()
	more := copyLedger(l)
	more.Texts, more.Signs = append(more.Texts, "more"), append(more.Signs, impl.Sign{Key: 7, Id: 7})
	ids := []int64{1, 2, 6, 8, 11, 14, 17, 19}
	one, two := swappedPayments()
	if sameUndos(one.Undos[3], two.Undos[3]) || impl.ChainFault(one) != impl.OK || impl.ChainFault(two) != impl.OK {
		t.Fatal(one, two)
	}
	for _, row := range []struct {
		name string
		a, b impl.Chain
		same bool
	}{
		{"nothing at all", impl.Chain{}, impl.Chain{}, true},
		{"the same", base(), base(), true},
		{"another ledger, and nothing else", impl.Chain{}, impl.Chain{Ledger: l}, true},
		{"another ledger, by what nobody needs", chainOf(l, nil, ids...), chainOf(more, nil, ids...), true},
		{"another ledger, in which the signatures stand in another order", chainOf(l, nil, ids...), chainOf(reversedSigns(l), nil, ids...), true},
		{"another ledger and other Undos, and the same comes of it", one, two, true},
		{"another node at the end", chainOf(l, nil, 1, 2, 17), chainOf(l, nil, 1, 2, 15), false},
		{"one node more", chainOf(l, nil, 1, 2), chainOf(l, nil, 1, 2, 17), false},
		{"one node more, of none", chainOf(l, nil), chainOf(l, nil, 1), false},
		{"the nodes in another order", chainOf(l, nil, 1, 15, 2, 17, 6), chainOf(l, nil, 1, 15, 17, 2, 6), false},
		{"a lock more", chainOf(l, nil, 1, 2), chainOf(l, []int64{2}, 1, 2), false},
		{"another lock", chainOf(l, []int64{1}, 1, 2), chainOf(l, []int64{2}, 1, 2), false},
		{"the locks in another order", chainOf(l, []int64{1, 2}, 1, 2), chainOf(l, []int64{2, 1}, 1, 2), false},
		{"a lock twice", chainOf(l, []int64{2}, 1, 2), chainOf(l, []int64{2, 2}, 1, 2), false},
		{"another state, by another ledger", chainOf(ledgerBy(by("block 0 1 2 -")), nil, 1), chainOf(ledgerBy(by("block 0 1 3 -")), nil, 1), false},
		{"Undos alone: of one of them they are not so", base(), withUndos(func(list []impl.Undo) []impl.Undo { return list[1:] }), false},
		{"the same, but their Undos are not so", chainWith(base(), func(c *impl.Chain) { c.Undos = nil }), chainWith(base(), func(c *impl.Chain) { c.Undos = nil }), false},
		{"the same, but they stand where they may not", standingAt(11), standingAt(11), false},
		{"the same, but their ledger has a fault", impl.Chain{Ledger: faultRows()[0].ledger}, impl.Chain{Ledger: faultRows()[0].ledger}, false},
	} {
		for _, pair := range [][]impl.Chain{{row.a, row.b}, {row.b, row.a}} {
			was := []impl.Chain{copyChain(pair[0]), copyChain(pair[1])}
			if got := impl.SameChains(pair[0], pair[1]); got != row.same || got != plainSameChains(pair[0], pair[1]) {
				t.Errorf("%s: %v", row.name, got)
			}
			if !isSameChain(was[0], pair[0]) || !isSameChain(was[1], pair[1]) {
				t.Errorf("%s: an argument was changed", row.name)
			}
		}
	}
}

func reversedSigns(l impl.Ledger) impl.Ledger {
	other := copyLedger(l)
	slices.Reverse(other.Signs)
	return other
}

// swappedPayments has two chains of which each spends in one block what the other one does, in another order: the same coins are left.
func swappedPayments() (impl.Chain, impl.Chain) {
	chain := func(first, second string) impl.Chain {
		l := ledgerBy(
			by("block 0 1 2 -"), by("block 1 2 2 -"), by("block 2 3 2 -"),
			by("pay "+first+" 1000=1_of_3", 2), by("pay "+second+" 1000=1_of_3", 2), by("block 3 4 2 4+5"),
		)
		return chainOf(l, nil, 1, 2, 3, 6)
	}
	return chain("1:0", "2:0"), chain("2:0", "1:0")
}

// Each two of many chains: they are the same just where their states, trees and locks are.
func TestEachTwoOfManyChains(t *testing.T) {
	var chains []impl.Chain
	for _, rows := range [][]faultyChain{rightChains(), wrongChains()[:40]} {
		for _, row := range rows {
			chains = append(chains, row.chain)
		}
	}
	for i, a := range chains {
		for _, b := range chains[:i+1] {
			if got := impl.SameChains(a, b); got != plainSameChains(a, b) {
				t.Fatalf("%v and %v: %v", a, b, got)
			}
		}
	}
}

// lineOf is a ledger of a line of n blocks, and of branches: each of these is one block behind that number of the line.
func lineOf(n int, branches ...int64) impl.Ledger {
	var rows []signedText
	for i := range n {
		rows = append(rows, by(fmt.Sprintf("block %d %d 1 -", i, i+1)))
	}
	for i, prev := range branches {
		rows = append(rows, by(fmt.Sprintf("block %d %d %d -", prev, prev+1, i+2)))
	}
	return ledgerBy(rows...)
}

func TestTwentyLocks(t *testing.T) {
	l := lineOf(22, 5)
	nineteen, twenty := manyTxs(19), manyTxs(20)
	all := append(manyTxs(22), 23)
	for _, row := range []struct {
		name  string
		locks []int64
		id    int64
		code  int64
		want  []int64
	}{
		{"the twentieth", nineteen, 20, impl.OK, twenty},
		{"the twentieth, above the others", manyTxs(20)[1:], 1, impl.OK, append(manyTxs(20)[1:], 1)},
		{"the one behind it", twenty, 21, impl.ErrMany, nil},
		{"Tip behind 20", twenty, 22, impl.ErrMany, nil},
		{"one that is a lock already, the first", twenty, 1, impl.OK, twenty},
		{"one that is a lock already, the last", twenty, 20, impl.OK, twenty},
		{"one that is a lock 20 times", slices.Repeat([]int64{3}, 20), 3, impl.OK, slices.Repeat([]int64{3}, 20)},
		{"another one behind that", slices.Repeat([]int64{3}, 20), 2, impl.ErrMany, nil},
		{"one that is not there comes ahead of too many", twenty, 24, impl.ErrNone, nil},
		{"0 comes ahead of too many", twenty, 0, impl.ErrNone, nil},
		{"one that does not go with them comes ahead of too many", twenty, 23, impl.ErrState, nil},
	} {
		c := chainOf(l, row.locks, all...)
		r := holdLock(t, row.name, c, row.id)
		if r.Code != row.code || r.Moved != 0 || !slices.Equal(r.Chain.Locks, row.want) {
			t.Errorf("%s: %d %d %v, want %d %v", row.name, r.Code, r.Moved, r.Chain.Locks, row.code, row.want)
		}
	}
	c := lockAll(t, takeAll(t, impl.NewChain(l).Chain, all...), twenty...)
	if code := holdChain(t, "20 locks", c, 0, 20, 21, 22, 23); code != impl.OK {
		t.Error(code)
	}
	if code := holdChain(t, "21 locks", chainWith(c, func(c *impl.Chain) { c.Locks = append(c.Locks, 20) }), 0, 20, 21); code != impl.ErrMany {
		t.Error(code)
	}
}

// A full ledger: 40 blocks of one line, 20 of another one that parts from it at the 12th.
func TestATreeOfSixty(t *testing.T) {
	var rows []signedText
	for i := range 40 {
		rows = append(rows, by(fmt.Sprintf("block %d %d 1 -", i, i+1)))
	}
	rows = append(rows, by("block 12 13 2 -"))
	for i := 41; i < 60; i++ {
		rows = append(rows, by(fmt.Sprintf("block %d %d 2 -", i, i-27)))
	}
	l := ledgerBy(rows...)
	c := takeAll(t, impl.NewChain(l).Chain, manyTxs(60)...)
	if code := holdChain(t, "60 nodes", c, 60); code != impl.OK || c.State.Tip != 40 || c.State.Height != 40 || len(c.Undos) != 40 {
		t.Fatal(code, c.State)
	}
	for _, id := range []int64{1, 12, 40, 41, 60} {
		if r := impl.TakeBlock(c, id); !sameChainResults(r, impl.ChainResult{Code: impl.ErrTaken}) {
			t.Errorf("%d is taken again: %v", id, r)
		}
	}
	if r := impl.TakeBlock(c, 61); !sameChainResults(r, impl.ChainResult{Code: impl.ErrRange}) {
		t.Error(r)
	}
	if r := impl.MoveTo(c, 60); r.Moved != 28+20 || r.Chain.State.Tip != 60 || len(r.Chain.Undos) != 32 {
		t.Errorf("%d %v", r.Moved, r.Chain.State)
	}
	if r := impl.MoveTo(c, 0); r.Moved != 40 || !sameChainResults(r, impl.ChainResult{Moved: 40, Chain: impl.Chain{Ledger: l, Tree: c.Tree}}) {
		t.Error(r)
	}
	if r := impl.LockBlock(c, 41); r.Moved != 28+20 || r.Chain.State.Tip != 60 || impl.ChainFault(r.Chain) != impl.OK {
		t.Errorf("%d %v", r.Moved, r.Chain.State)
	}
	// Behind the greatest height there is none: a text of height 41 is no block.
	short := lineOf(40)
	short.Texts = append(short.Texts, "block 40 41 1 -")
	if r := holdTake(t, "height 41", takeAll(t, impl.NewChain(short).Chain, manyTxs(40)...), 41); !sameChainResults(r, impl.ChainResult{Code: impl.ErrText}) {
		t.Error(r)
	}
}

// Coins without room: the block behind 39 others that each left a coin cannot be taken where it makes two more.
func TestABlockForWhichThereIsNoRoom(t *testing.T) {
	var rows []signedText
	for i := range 39 {
		rows = append(rows, by(fmt.Sprintf("block %d %d 1 -", i, i+1)))
	}
	rows = append(rows,
		by("pay 1:0 500=1_of_1 500=1_of_1", 1), by("block 39 40 1 40"),
		by("pay 1:0 1000=1_of_1", 1), by("block 39 40 1 42"),
	)
	c := takeAll(t, impl.NewChain(ledgerBy(rows...)).Chain, manyTxs(39)...)
	if r := holdTake(t, "two for one", c, 41); !sameChainResults(r, impl.ChainResult{Code: impl.ErrMany}) {
		t.Error(r)
	}
	if r := holdTake(t, "one for one", c, 43); r.Code != impl.OK || len(r.Chain.State.Coins) != impl.MaxCoins {
		t.Error(r)
	}
}

// Promise 16: chains that grow in many ways.

// A lock stays above where the chain stands, whatever is taken behind it: each block of the orchard locked, and then all others taken.
func TestWhatIsLockedStaysAbove(t *testing.T) {
	l := orchard()
	ids := rightBlocks()
	for _, lock := range ids {
		path := plainPathTo(chainOf(l, nil, ids...).Tree, lock).List
		c := lockAll(t, takeAll(t, impl.NewChain(l).Chain, path...), lock)
		for _, id := range ids {
			if slices.Contains(path, id) {
				continue
			}
			r := holdTake(t, fmt.Sprint("locked at ", lock), c, id)
			if r.Code != impl.OK || !impl.IsAbove(r.Chain.Tree, lock, r.Chain.State.Tip) {
				t.Fatalf("locked at %d, %d is taken: %v", lock, id, r)
			}
			c = r.Chain
		}
	}
}

// growths tells each order in which blocks may be taken so that each comes behind its Prev.
func growths(nodes []impl.Node, tell func([]int64)) {
	var grow func(ids []int64)
	grow = func(ids []int64) {
		if len(ids) == len(nodes) {
			tell(slices.Clone(ids))
			return
		}
		for _, n := range nodes {
			if !slices.Contains(ids, n.Id) && (n.Prev == 0 || slices.Contains(ids, n.Prev)) {
				grow(append(slices.Clone(ids), n.Id))
			}
		}
	}
	grow(nil)
}

// Blocks that are taken in another order lead to a state as high, and to the same one where one alone is the highest.
func TestBlocksInEachOrder(t *testing.T) {
	l := orchard()
	orders := 0
	for _, row := range []struct {
		ids    []int64
		height int64
		tip    int64
	}{
		{[]int64{1, 2, 6, 15, 16, 17}, 3, 6},
		{[]int64{1, 2, 17, 18, 22, 6}, 3, 0},
		{[]int64{1, 2, 6, 22, 8, 17, 18}, 4, 8},
		{[]int64{1, 2, 6, 8, 11, 19, 17}, 5, 0},
		{[]int64{1, 2, 15, 16, 45, 17, 18}, 3, 0},
	} {
		tree := chainOf(l, nil, row.ids...).Tree
		growths(tree, func(ids []int64) {
			orders++
			c := takeAll(t, impl.NewChain(l).Chain, ids...)
			if c.State.Height != row.height || row.tip != 0 && c.State.Tip != row.tip {
				t.Fatalf("%v lead to %v", ids, c.State)
			}
			if !isSameChain(c, chainOf(l, nil, ids...)) {
				t.Fatalf("%v lead to %v", ids, c)
			}
		})
	}
	if orders < 200 {
		t.Errorf("but %d orders were tried", orders)
	}
}

// With the same locks it is so as well: what is taken behind them leads to a state as high in each order.
func TestBlocksInEachOrderBehindALock(t *testing.T) {
	l := orchard()
	for _, lock := range []int64{2, 17} {
		start := lockAll(t, takeAll(t, impl.NewChain(l).Chain, 1, 2, 17), lock)
		heights := map[int64]int{}
		for _, order := range ordersOf([]int64{6, 8, 18, 15, 22}) {
			c := start
			for len(order) > 0 {
				// Who comes ahead of its Prev is refused, and asked again behind the others.
				r := impl.TakeBlock(c, order[0])
				if r.Code == impl.ErrNone {
					order = append(order[1:], order[0])
					continue
				}
				if r.Code != impl.OK || !impl.IsAbove(r.Chain.Tree, lock, r.Chain.State.Tip) {
					t.Fatalf("%d behind the lock %d: %v", order[0], lock, r)
				}
				c, order = r.Chain, order[1:]
			}
			heights[c.State.Height]++
		}
		if len(heights) != 1 {
			t.Errorf("behind the lock %d there are the heights %v", lock, heights)
		}
	}
}

// Each short way of taking and locking, wrong steps as well: a step that has a code is left out.
func TestAllShortWays(t *testing.T) {
	l := ledgerBy(
		by("block 0 1 2 -"), by("block 1 2 2 -"), by("block 1 2 3 -"), by("block 3 3 3 -"), by("block 2 3 2 6"), by("pay 1:0 1000=1_of_3", 2),
	)
	type step struct{ take, lock int64 }
	steps := []step{{take: 1}, {take: 2}, {take: 3}, {take: 4}, {take: 5}, {take: 6}, {lock: 1}, {lock: 2}, {lock: 3}, {lock: 5}}
	seen := map[string]int{}
	listsOf(steps, 5, func(way []step) {
		c := impl.Chain{Ledger: l}
		for _, step := range way {
			var r impl.ChainResult
			if step.take != 0 {
				r = impl.TakeBlock(c, step.take)
			} else {
				r = impl.LockBlock(c, step.lock)
			}
			// A step that is refused leads nowhere that a shorter way does not.
			if r.Code != impl.OK {
				return
			}
			c = r.Chain
		}
		told := fmt.Sprint(c.Tree, c.Locks)
		if seen[told]++; seen[told] == 1 {
			holdChain(t, fmt.Sprint(way), c, 0, 1, 2, 3, 4, 5, 6, 7)
			if !isSameChain(c, chainOf(l, c.Locks, treeIds(c.Tree)...)) {
				t.Fatalf("%v: %v", way, c)
			}
		}
	})
	if len(seen) < 70 {
		t.Errorf("but %d chains were seen", len(seen))
	}
}

func treeIds(tree []impl.Node) []int64 {
	var ids []int64
	for _, n := range tree {
		ids = append(ids, n.Id)
	}
	return ids
}

// chainWalk grows a ledger of blocks behind any of its nodes, with transactions that may be wrong, and locks now and then.
type chainWalk struct {
	walk
	chain impl.Chain
	moved map[int64]int
}

func (w *chainWalk) step(t *testing.T) {
	t.Helper()
	from := w.rival()
	w.state = impl.FoldBlocks(w.chain.Ledger, impl.PathTo(w.chain.Tree, from).List).State
	w.ledger = w.chain.Ledger
	id := w.noteBlock()
	w.chain.Ledger = w.ledger
	if id == 0 {
		return
	}
	r := holdTake(t, "a walk", w.chain, id)
	w.codes[r.Code]++
	if r.Code == impl.OK {
		w.chain = r.Chain
		w.moved[min(r.Moved, 6)]++
	}
	for range 3 {
		if w.dice.Intn(4) == 0 {
			lock := w.randomId()
			if r := holdLock(t, "a walk", w.chain, lock); r.Code == impl.OK && w.dice.Intn(3) == 0 {
				w.chain = r.Chain
			}
		}
		holdMove(t, "a walk", w.chain, w.randomId())
	}
	holdTake(t, "a walk", w.chain, w.randomId())
}

// rival tells behind which node the next block comes: one that is not so high as to be left alone, but often another one than Tip, so that paths overtake each other.
func (w *chainWalk) rival() int64 {
	if w.dice.Intn(3) == 0 || len(w.chain.Tree) == 0 {
		return w.chain.State.Tip
	}
	if !w.often() {
		return w.randomId()
	}
	high := slices.DeleteFunc(slices.Clone(w.chain.Tree), func(n impl.Node) bool { return n.Height+1 < w.chain.State.Height })
	return high[w.dice.Intn(len(high))].Id
}

func (w *chainWalk) randomId() int64 {
	if len(w.chain.Tree) > 0 && w.often() {
		return w.chain.Tree[w.dice.Intn(len(w.chain.Tree))].Id
	}
	return w.dice.Int63n(62) - 1
}

// noteBlock is 0 where there is no room.
func (w *chainWalk) noteBlock() int64 {
	block := blockOf(w.state.Tip, w.state.Height+1, 1+w.dice.Int63n(5))
	coins := slices.DeleteFunc(slices.Clone(w.state.Coins), func(coin impl.Coin) bool { return !plainIsRipe(coin, block.Height) && w.often() })
	for range w.dice.Intn(3) {
		if len(coins) == 0 {
			break
		}
		tx := w.randomTx(coins)
		id := w.note(impl.TxText(tx).Text)
		if id == 0 || slices.Contains(block.Txs, id) {
			continue
		}
		block.Txs = append(block.Txs, id)
		w.sign(id, tx, coins)
		coins = slices.DeleteFunc(coins, func(coin impl.Coin) bool { return slices.Contains(tx.Ins, coin.Ref) })
	}
	return w.note(impl.BlockText(block).Text)
}

func TestWalksOfChains(t *testing.T) {
	dice := rand.New(rand.NewSource(15))
	codes, moved := map[int64]int{}, map[int64]int{}
	for range 25 {
		w := chainWalk{walk: walk{dice: dice, codes: codes}, moved: moved}
		for len(w.chain.Ledger.Texts) < 45 && len(w.chain.Tree) < 16 {
			w.step(t)
		}
		holdChain(t, "the end of a walk", w.chain, w.randomId(), w.randomId())
		if !isSameChain(w.chain, chainOf(w.chain.Ledger, w.chain.Locks, treeIds(w.chain.Tree)...)) {
			t.Fatalf("a walk ends at %v", w.chain)
		}
	}
	for _, code := range []int64{impl.OK, impl.ErrSign, impl.ErrTaken, impl.ErrValue} {
		if codes[code] == 0 {
			t.Errorf("no walk came to the code %d: %v", code, codes)
		}
	}
	for _, count := range []int64{0, 1, 3, 5, 6} {
		if moved[count] == 0 {
			t.Errorf("never were %d moved: %v", count, moved)
		}
	}
}

// Promise 1: memory, nil and empty, the same again, and nothing that goes on behind an answer.

type chainCall struct {
	name string
	call func(c impl.Chain) impl.ChainResult
}

// chainCalls move the base in each way: on, back, and to another branch.
func chainCalls() []chainCall {
	return []chainCall{
		{"NewChain", func(c impl.Chain) impl.ChainResult { return impl.NewChain(c.Ledger) }},
		{"TakeBlock, on", func(c impl.Chain) impl.ChainResult { return impl.TakeBlock(c, 23) }},
		{"TakeBlock, not moved", func(c impl.Chain) impl.ChainResult { return impl.TakeBlock(c, 20) }},
		{"TakeBlock, refused", func(c impl.Chain) impl.ChainResult { return impl.TakeBlock(c, 24) }},
		{"LockBlock", func(c impl.Chain) impl.ChainResult { return impl.LockBlock(c, 14) }},
		{"LockBlock, again", func(c impl.Chain) impl.ChainResult { return impl.LockBlock(c, 8) }},
		{"LockBlock, moved", func(c impl.Chain) impl.ChainResult { return impl.LockBlock(c, 19) }},
		{"MoveTo, not moved", func(c impl.Chain) impl.ChainResult { return impl.MoveTo(c, 14) }},
		{"MoveTo, back", func(c impl.Chain) impl.ChainResult { return impl.MoveTo(c, 6) }},
		{"MoveTo, all back", func(c impl.Chain) impl.ChainResult { return impl.MoveTo(c, 0) }},
		{"MoveTo, to another branch", func(c impl.Chain) impl.ChainResult { return impl.MoveTo(c, 19) }},
	}
}

// roomyChain has marks behind all its lists that nobody may write to.
func roomyChain(c impl.Chain) impl.Chain {
	l, _, _ := roomy(c.Ledger)
	undos := append(slices.Clone(c.Undos), impl.Undo{Id: 77}, impl.Undo{Id: 78})
	for i, u := range undos {
		undos[i] = roomyUndo(u)
	}
	return impl.Chain{Ledger: l, Tree: roomyTree(c.Tree), Locks: roomyNumbers(c.Locks), State: roomyState(c.State), Undos: undos[:len(c.Undos)]}
}

func coinMemories(list []impl.Coin) []memory {
	parts := []memory{memoryOf(list, coinOf(-9, -9, -9, -9), tellCoin)}
	for _, coin := range list[:cap(list)] {
		parts = append(parts, memoryOf(coin.Out.Rule.Keys, -9, tellWhole))
	}
	return parts
}

func tellUndo(u impl.Undo) string { return fmt.Sprint(u.Id, len(u.Spent), len(u.Members)) }

func tellCount(list []impl.Coin) string { return fmt.Sprint(len(list)) }

func chainMemories(c impl.Chain) []memory {
	parts := []memory{
		memoryOf(c.Ledger.Texts, "spoilt", tellWhole), memoryOf(c.Ledger.Signs, impl.Sign{Key: -9, Id: -9}, tellWhole),
		memoryOf(c.Tree, impl.Node{Id: -9}, tellWhole), memoryOf(c.Locks, -9, tellWhole),
		memoryOf(c.State.Members, memberOf(-9, -9, -9), tellWhole), memoryOf(c.Undos, impl.Undo{Id: -9}, tellUndo),
	}
	parts = append(parts, coinMemories(c.State.Coins)...)
	for _, u := range c.Undos[:cap(c.Undos)] {
		parts = append(parts, memoryOf(u.Members, memberOf(-9, -9, -9), tellWhole), memoryOf(u.Spent, make([]impl.Coin, 50), tellCount))
		for _, list := range u.Spent[:cap(u.Spent)] {
			parts = append(parts, coinMemories(list)...)
		}
	}
	return parts
}

func TestChainsAreNotChanged(t *testing.T) {
	rows := append(rightChains(), wrongChains()[:60]...)
	for _, row := range rows {
		c, other := roomyChain(row.chain), roomyChain(base())
		parts := append(chainMemories(c), chainMemories(other)...)
		was := toldOf(parts)
		impl.ChainFault(c)
		impl.SameChains(c, other)
		impl.SameChains(other, c)
		for _, call := range chainCalls() {
			call.call(c)
			if !slices.Equal(toldOf(parts), was) {
				t.Fatalf("%s: %s changed an argument", row.name, call.name)
			}
		}
		for _, id := range orchardIds() {
			impl.TakeBlock(c, id)
			impl.LockBlock(c, id)
			impl.MoveTo(c, id)
		}
		if !slices.Equal(toldOf(parts), was) {
			t.Fatalf("%s: an argument was changed", row.name)
		}
	}
}

func TestAnswersOfChainsShareNoMemory(t *testing.T) {
	for _, call := range chainCalls() {
		c := roomyChain(base())
		one, two := call.call(c), call.call(c)
		if !sameChainResults(one, two) {
			t.Fatalf("%s: %v, and then %v", call.name, one, two)
		}
		holdOwnMemory(t, call.name, slices.Concat(chainMemories(one.Chain), chainMemories(two.Chain), chainMemories(c)))
	}
}

// holdOwnMemory writes over each list: no other one may be told otherwise then.
func holdOwnMemory(t *testing.T, name string, parts []memory) {
	t.Helper()
	was := toldOf(parts)
	for i, part := range parts {
		part.spoil()
		now := toldOf(parts)
		for j := range parts {
			if i != j && was[j] != now[j] {
				t.Errorf("%s: who writes to one list writes to another one: %s, it was %s", name, now[j], was[j])
			}
		}
		was = now
	}
}

func TestEmptyAndNilOfChainsAreTheSame(t *testing.T) {
	empty := impl.Chain{
		Ledger: impl.Ledger{Texts: []string{}, Signs: []impl.Sign{}}, Tree: []impl.Node{}, Locks: []int64{},
		State: impl.State{Coins: []impl.Coin{}, Members: []impl.Member{}}, Undos: []impl.Undo{},
	}
	if code := holdChain(t, "empty", empty, -1, 0, 1, 60); code != impl.OK || !impl.SameChains(empty, impl.Chain{}) || !impl.SameChains(impl.Chain{}, empty) {
		t.Error(code)
	}
	if r := impl.NewChain(empty.Ledger); !sameChainResults(r, impl.ChainResult{}) {
		t.Error(r)
	}
	l := orchard()
	hollow := chainWith(chainOf(l, nil, 1, 2), func(c *impl.Chain) {
		c.Locks, c.State.Members = []int64{}, []impl.Member{}
		for i := range c.Undos {
			c.Undos[i].Spent, c.Undos[i].Members = [][]impl.Coin{}, []impl.Member{}
		}
	})
	if code := holdChain(t, "hollow", hollow, 0, 1, 2, 6, 17); code != impl.OK || !impl.SameChains(hollow, chainOf(l, nil, 1, 2)) {
		t.Error(code)
	}
	if r := impl.MoveTo(hollow, 0); !sameChainResults(r, impl.ChainResult{Moved: 2, Chain: impl.Chain{Ledger: l, Tree: hollow.Tree}}) {
		t.Error(r)
	}
}

// What was asked in between of other chains, and what was refused, leaves no trace.
func TestChainsHangOnTheArgumentsAlone(t *testing.T) {
	var first []string
	for _, call := range chainCalls() {
		first = append(first, tellWhole(call.call(base())))
	}
	other := chainOf(lineOf(20, 3), []int64{2}, manyTxs(21)...)
	for i := range int64(20) {
		impl.TakeBlock(base(), i)
		impl.MoveTo(other, i)
		impl.LockBlock(other, i)
		impl.ChainFault(withLocks(i))
		impl.SameChains(other, base())
		for at, call := range chainCalls() {
			if told := tellWhole(call.call(base())); told != first[at] {
				t.Fatalf("%s: %s, and it was %s", call.name, told, first[at])
			}
		}
	}
}

// Who tells the path is done when the answer is there, where the last block of a long path fails as well.
func TestNothingGoesOnBehindAnAnswer(t *testing.T) {
	was := runtime.NumGoroutine()
	c := chainOf(lineOf(39), nil, manyTxs(39)...)
	c.Ledger.Texts = append(c.Ledger.Texts, "block 39 40 1 1", "block 39 40 1 -", "block 0 1 2 1")
	for range 100 {
		for id := int64(39); id <= 43; id++ {
			impl.TakeBlock(c, id)
		}
	}
	// One that has closed its channel may need a moment to be gone.
	for range 100 {
		if runtime.NumGoroutine() <= was {
			return
		}
		time.Sleep(10 * time.Millisecond)
	}
	t.Errorf("there are %d more", runtime.NumGoroutine()-was)
}

// Calls at the same time do not get in each other's way.
func TestChainsAtTheSameTime(t *testing.T) {
	c := base()
	want := impl.TakeBlock(c, 23)
	done := make(chan bool)
	for range 8 {
		go func() {
			same := true
			for range 20 {
				same = same && sameChainResults(impl.TakeBlock(c, 23), want)
			}
			done <- same
		}()
	}
	for range 8 {
		if !<-done {
			t.Error("another answer")
		}
	}
}
