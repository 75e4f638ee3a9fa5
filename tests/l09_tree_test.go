package tests

import (
	"math"
	"math/rand"
	"slices"
	"testing"

	"loop.example/g00304/impl"
)

// The plain reading of chapter 9, number by number: what the program is held against.

func plainTreeFault(tree []impl.Node) int64 {
	if len(tree) > 60 {
		return impl.ErrMany
	}
	for i, n := range tree {
		if code := plainNodeFault(tree[:i], n); code != impl.OK {
			return code
		}
	}
	return impl.OK
}

func plainNodeFault(ahead []impl.Node, n impl.Node) int64 {
	if n.Id < 1 || n.Id > 60 || n.Height < 1 || n.Height > 40 {
		return impl.ErrRange
	}
	found, below := false, int64(0)
	for _, other := range ahead {
		if other.Id == n.Id {
			return impl.ErrTaken
		}
		if other.Id == n.Prev {
			found, below = true, other.Height
		}
	}
	if n.Prev != 0 && !found {
		return impl.ErrNone
	}
	if n.Height != below+1 {
		return impl.ErrForm
	}
	return impl.OK
}

func plainAddNode(tree []impl.Node, n impl.Node) impl.TreeResult {
	for _, code := range []int64{plainTreeFault(tree), plainNodeFault(tree, n)} {
		if code != impl.OK {
			return impl.TreeResult{Code: code}
		}
	}
	if len(tree) == 60 {
		return impl.TreeResult{Code: impl.ErrMany}
	}
	return impl.TreeResult{Tree: append(slices.Clone(tree), n)}
}

// plainNode tells the place of a number in a tree, and -1 where it has none.
func plainNode(tree []impl.Node, id int64) int {
	return slices.IndexFunc(tree, func(n impl.Node) bool { return n.Id == id })
}

// plainBack tells id and all that it comes to by going to Prev; of what is not in the tree none.
func plainBack(tree []impl.Node, id int64) []int64 {
	var ids []int64
	for at := plainNode(tree, id); at >= 0; at = plainNode(tree, tree[at].Prev) {
		ids = append(ids, tree[at].Id)
	}
	return ids
}

func plainIsAbove(tree []impl.Node, a, b int64) bool {
	return plainTreeFault(tree) == impl.OK && slices.Contains(plainBack(tree, b), a)
}

func plainRelated(tree []impl.Node, a, b int64) bool {
	return plainIsAbove(tree, a, b) || plainIsAbove(tree, b, a)
}

func plainPathTo(tree []impl.Node, id int64) impl.IntsResult {
	if code := plainTreeFault(tree); code != impl.OK {
		return impl.IntsResult{Code: code}
	}
	if id != 0 && plainNode(tree, id) < 0 {
		return impl.IntsResult{Code: impl.ErrNone}
	}
	var path []int64
	for _, one := range plainBack(tree, id) {
		path = append([]int64{one}, path...)
	}
	return impl.IntsResult{List: path}
}

func plainForkOf(tree []impl.Node, a, b int64) impl.IntResult {
	if code := plainTreeFault(tree); code != impl.OK {
		return impl.IntResult{Code: code}
	}
	if plainNode(tree, a) < 0 || plainNode(tree, b) < 0 {
		return impl.IntResult{Code: impl.ErrNone}
	}
	var fork impl.Node
	for _, n := range tree {
		if plainIsAbove(tree, n.Id, a) && plainIsAbove(tree, n.Id, b) && n.Height > fork.Height {
			fork = n
		}
	}
	return impl.IntResult{Value: fork.Id}
}

func plainBestOf(tree []impl.Node, locks []int64) impl.IntResult {
	if code := plainTreeFault(tree); code != impl.OK {
		return impl.IntResult{Code: code}
	}
	if len(locks) > 20 {
		return impl.IntResult{Code: impl.ErrMany}
	}
	for _, lock := range locks {
		if plainNode(tree, lock) < 0 {
			return impl.IntResult{Code: impl.ErrNone}
		}
	}
	var best impl.Node
	for _, n := range tree {
		if plainGoesWith(tree, n, locks) && n.Height > best.Height {
			best = n
		}
	}
	return impl.IntResult{Value: best.Id}
}

func plainGoesWith(tree []impl.Node, n impl.Node, locks []int64) bool {
	for _, lock := range locks {
		if !plainRelated(tree, lock, n.Id) || n.Height < tree[plainNode(tree, lock)].Height {
			return false
		}
	}
	return true
}

func sameTreeResults(a, b impl.TreeResult) bool {
	return a.Code == b.Code && slices.Equal(a.Tree, b.Tree)
}

// nodesOf takes three numbers for each node: Id, Prev, Height.
func nodesOf(numbers ...int64) []impl.Node {
	var tree []impl.Node
	for part := range slices.Chunk(numbers, 3) {
		tree = append(tree, impl.Node{Id: part[0], Prev: part[1], Height: part[2]})
	}
	return tree
}

// firstNodes are n nodes that have none ahead, of the numbers 1 to n.
func firstNodes(n int) []impl.Node {
	var tree []impl.Node
	for i := range int64(n) {
		tree = append(tree, impl.Node{Id: i + 1, Height: 1})
	}
	return tree
}

// line is one branch of n nodes, whose numbers fall from 60 on.
func line(n int) []impl.Node {
	var tree []impl.Node
	for i := range int64(n) {
		node := impl.Node{Id: 60 - i, Prev: 61 - i, Height: i + 1}
		if i == 0 {
			node.Prev = 0
		}
		tree = append(tree, node)
	}
	return tree
}

// wood has two first nodes and came in another order than that of its Heights:
//
//	7 - 3 - 9 - 20
//	  \   \ 2
//	    5 - 60
//	40 - 8 - 1
func wood() []impl.Node {
	return nodesOf(7, 0, 1, 3, 7, 2, 9, 3, 3, 5, 7, 2, 40, 0, 1, 2, 3, 3, 20, 9, 4, 8, 40, 2, 60, 5, 3, 1, 8, 3)
}

// roomyTree has marks behind the end that nobody may write to.
func roomyTree(tree []impl.Node) []impl.Node {
	whole := append(slices.Clone(tree), nodesOf(71, 72, 73, 74, 75, 76)...)
	return whole[:len(tree)]
}

func roomyNumbers(list []int64) []int64 {
	whole := append(slices.Clone(list), 71, 72)
	return whole[:len(list)]
}

func spoilTree(tree []impl.Node) {
	tree = tree[:cap(tree)]
	for i := range tree {
		tree[i] = impl.Node{Id: -9, Prev: -9, Height: -9}
	}
}

func holdTreeAgainstPlain(t *testing.T, tree []impl.Node, ids []int64) {
	t.Helper()
	was := slices.Clone(tree)
	if got, want := impl.TreeFault(tree), plainTreeFault(tree); got != want {
		t.Fatalf("TreeFault(%v) = %d, want %d", tree, got, want)
	}
	for _, a := range ids {
		if got, want := impl.PathTo(tree, a), plainPathTo(tree, a); !sameInts(got, want) {
			t.Fatalf("PathTo(%v, %d) = %v, want %v", tree, a, got, want)
		}
		for _, b := range ids {
			if got, want := impl.IsAbove(tree, a, b), plainIsAbove(tree, a, b); got != want {
				t.Fatalf("IsAbove(%v, %d, %d) = %v, want %v", tree, a, b, got, want)
			}
			if got, want := impl.Related(tree, a, b), plainRelated(tree, a, b); got != want {
				t.Fatalf("Related(%v, %d, %d) = %v, want %v", tree, a, b, got, want)
			}
			if got, want := impl.ForkOf(tree, a, b), plainForkOf(tree, a, b); got != want {
				t.Fatalf("ForkOf(%v, %d, %d) = %v, want %v", tree, a, b, got, want)
			}
		}
	}
	if !slices.Equal(tree, was) {
		t.Fatalf("an argument was changed: %v, it was %v", tree, was)
	}
}

func holdAddNodeAgainstPlain(t *testing.T, tree []impl.Node, n impl.Node) impl.TreeResult {
	t.Helper()
	was := slices.Clone(tree)
	got, want := impl.AddNode(tree, n), plainAddNode(tree, n)
	if !sameTreeResults(got, want) {
		t.Fatalf("AddNode(%v, %v) = %v, want %v", tree, n, got, want)
	}
	if !slices.Equal(tree, was) {
		t.Fatalf("an argument was changed: %v, it was %v", tree, was)
	}
	return got
}

func holdBestAgainstPlain(t *testing.T, tree []impl.Node, locks []int64) impl.IntResult {
	t.Helper()
	was, wasLocks := slices.Clone(tree), slices.Clone(locks)
	got, want := impl.BestOf(tree, locks), plainBestOf(tree, locks)
	if got != want {
		t.Fatalf("BestOf(%v, %v) = %v, want %v", tree, locks, got, want)
	}
	if !slices.Equal(tree, was) || !slices.Equal(locks, wasLocks) {
		t.Fatalf("an argument was changed: %v %v", tree, locks)
	}
	return got
}

// Promise 10: a path leads from the first block to the one that was asked for, and where two part is above both; the best block goes with all locks, and none that does is higher.

func TestPathsOfATree(t *testing.T) {
	if code := impl.TreeFault(wood()); code != impl.OK {
		t.Fatal(code)
	}
	paths := map[int64][]int64{
		0: nil, 7: {7}, 3: {7, 3}, 9: {7, 3, 9}, 5: {7, 5}, 40: {40}, 2: {7, 3, 2}, 20: {7, 3, 9, 20}, 8: {40, 8}, 60: {7, 5, 60}, 1: {40, 8, 1},
	}
	for id := int64(-1); id <= 61; id++ {
		want := impl.IntsResult{Code: impl.ErrNone}
		if path, found := paths[id]; found {
			want = impl.IntsResult{List: path}
		}
		if r := impl.PathTo(wood(), id); !sameInts(r, want) {
			t.Errorf("PathTo %d: %v, want %v", id, r, want)
		}
		// Above a node are those of its path alone, and it is above itself.
		for a := int64(-1); a <= 61; a++ {
			above := slices.Contains(paths[id], a)
			if impl.IsAbove(wood(), a, id) != above {
				t.Errorf("IsAbove %d, %d is not %v", a, id, above)
			}
			related := above || slices.Contains(paths[a], id)
			if impl.Related(wood(), a, id) != related || impl.Related(wood(), id, a) != related {
				t.Errorf("Related %d, %d is not %v", a, id, related)
			}
		}
	}
}

func TestForksOfATree(t *testing.T) {
	rows := []struct{ a, b, fork int64 }{
		{7, 7, 7}, {20, 20, 20}, {7, 20, 7}, {9, 20, 9}, {3, 2, 3}, {9, 2, 3}, {20, 2, 3}, {20, 60, 7}, {5, 3, 7}, {2, 60, 7},
		{7, 40, 0}, {20, 1, 0}, {60, 8, 0}, {8, 1, 8}, {40, 1, 40},
	}
	for _, row := range rows {
		for _, pair := range [][2]int64{{row.a, row.b}, {row.b, row.a}} {
			if r := impl.ForkOf(wood(), pair[0], pair[1]); r != (impl.IntResult{Value: row.fork}) {
				t.Errorf("ForkOf %v: %v, want %d", pair, r, row.fork)
			}
		}
	}
	for _, gone := range []int64{math.MinInt64, -1, 0, 4, 6, 59, 61, math.MaxInt64} {
		for _, other := range []int64{gone, 7, 20, 0, 61} {
			for _, pair := range [][2]int64{{gone, other}, {other, gone}} {
				if r := impl.ForkOf(wood(), pair[0], pair[1]); r != (impl.IntResult{Code: impl.ErrNone}) {
					t.Errorf("ForkOf %v: %v", pair, r)
				}
				if impl.IsAbove(wood(), pair[0], pair[1]) || impl.Related(wood(), pair[0], pair[1]) {
					t.Errorf("%v: one is not in the tree, and they go together", pair)
				}
			}
		}
	}
}

func TestBestOfATree(t *testing.T) {
	rows := []struct {
		name  string
		tree  []impl.Node
		locks []int64
		best  int64
	}{
		{"no node, no locks", nil, nil, 0},
		{"one node", nodesOf(60, 0, 1), nil, 60},
		{"no locks", wood(), nil, 20},
		{"a first node", wood(), []int64{7}, 20},
		{"the other first node", wood(), []int64{40}, 1},
		{"the highest one itself", wood(), []int64{20}, 20},
		{"the highest of its branch, while another one is higher", wood(), []int64{60}, 60},
		{"an end beside the highest one", wood(), []int64{2}, 2},
		{"in the midst", wood(), []int64{3}, 20},
		{"in the midst of a lower branch", wood(), []int64{5}, 60},
		{"one twice", wood(), []int64{5, 5}, 60},
		{"one twenty times", wood(), slices.Repeat([]int64{8}, 20), 1},
		{"one path, rising", wood(), []int64{7, 3, 9}, 20},
		{"one path, falling", wood(), []int64{2, 3, 7}, 2},
		{"the whole of a path", wood(), []int64{9, 7, 20, 3}, 20},
		{"two branches", wood(), []int64{3, 5}, 0},
		{"two branches, above them their fork", wood(), []int64{7, 9, 60}, 0},
		{"two branches, the other way round", wood(), []int64{60, 9, 7}, 0},
		{"two ends beside each other", wood(), []int64{2, 9}, 0},
		{"two first nodes", wood(), []int64{7, 40}, 0},
		{"ends of two first nodes", wood(), []int64{1, 20}, 0},
		{"the first of one height", nodesOf(3, 0, 1, 2, 0, 1, 1, 0, 1), nil, 3},
		{"the first of one height that goes with the lock", nodesOf(9, 0, 1, 5, 9, 2, 8, 0, 1, 4, 8, 2, 3, 8, 2), []int64{8}, 4},
		{"the first of one height, of two branches", nodesOf(1, 0, 1, 5, 0, 1, 9, 5, 2, 2, 1, 2), nil, 9},
		{"the first came behind a higher one of another branch", nodesOf(1, 0, 1, 2, 1, 2, 3, 2, 3, 4, 0, 1, 5, 4, 2, 6, 4, 2), []int64{4}, 5},
		{"all first nodes", firstNodes(60), nil, 1},
		{"the last of all first nodes", firstNodes(60), []int64{60}, 60},
		{"a line", line(40), nil, 21},
		{"a line with a lock", line(40), []int64{60}, 21},
		{"a line with a lock at its end", line(40), []int64{21}, 21},
	}
	for _, row := range rows {
		if r := holdBestAgainstPlain(t, row.tree, row.locks); r != (impl.IntResult{Value: row.best}) {
			t.Errorf("%s: %v, want %d", row.name, r, row.best)
		}
	}
}

func TestLocksThatAreNotSo(t *testing.T) {
	rows := []struct {
		name  string
		tree  []impl.Node
		locks []int64
		code  int64
	}{
		{"20 locks", wood(), slices.Repeat([]int64{7}, 20), impl.OK},
		{"21 locks", wood(), slices.Repeat([]int64{7}, 21), impl.ErrMany},
		{"21 locks, none of them there", wood(), slices.Repeat([]int64{4}, 21), impl.ErrMany},
		{"21 locks and no node", nil, make([]int64, 21), impl.ErrMany},
		{"20 locks, the last one not there", wood(), append(slices.Repeat([]int64{7}, 19), 4), impl.ErrNone},
		{"one that is not there", wood(), []int64{4}, impl.ErrNone},
		{"one that is not there behind those of two branches", wood(), []int64{3, 5, 4}, impl.ErrNone},
		{"one that is not there ahead of one that is", wood(), []int64{4, 7}, impl.ErrNone},
		{"0", wood(), []int64{0}, impl.ErrNone},
		{"0 among others", wood(), []int64{7, 0, 3}, impl.ErrNone},
		{"-1", wood(), []int64{-1}, impl.ErrNone},
		{"61", wood(), []int64{61}, impl.ErrNone},
		{"the lowest number there is", wood(), []int64{math.MinInt64}, impl.ErrNone},
		{"the highest number there is", wood(), []int64{math.MaxInt64}, impl.ErrNone},
		{"a lock and no node", nil, []int64{1}, impl.ErrNone},
		{"0 and no node", nil, []int64{0}, impl.ErrNone},
		{"a fault of the tree comes first", nodesOf(7, 0, 2), slices.Repeat([]int64{4}, 21), impl.ErrForm},
	}
	for _, row := range rows {
		r := holdBestAgainstPlain(t, row.tree, row.locks)
		if r.Code != row.code || (r.Code != impl.OK && r.Value != 0) {
			t.Errorf("%s: %v, want %d", row.name, r, row.code)
		}
	}
}

// grownTrees tells each tree of the numbers 1 to n, in each order in which they may come and with each Prev that they may have.
func grownTrees(n int64, tell func([]impl.Node)) {
	var grow func(tree []impl.Node)
	grow = func(tree []impl.Node) {
		if int64(len(tree)) == n {
			tell(slices.Clone(tree))
			return
		}
		for id := int64(1); id <= n; id++ {
			if plainNode(tree, id) >= 0 {
				continue
			}
			grow(append(slices.Clone(tree), impl.Node{Id: id, Height: 1}))
			for _, ahead := range tree {
				grow(append(slices.Clone(tree), impl.Node{Id: id, Prev: ahead.Id, Height: ahead.Height + 1}))
			}
		}
	}
	grow(nil)
}

// holdPromise asks a tree without a fault what is promised of it, in words of its own.
func holdPromise(t *testing.T, tree []impl.Node, ids []int64, locks []int64) {
	t.Helper()
	nodes := map[int64]impl.Node{}
	for _, n := range tree {
		nodes[n.Id] = n
	}
	for _, id := range ids {
		path := impl.PathTo(tree, id)
		if path.Code != impl.OK || int64(len(path.List)) != nodes[id].Height || path.List[len(path.List)-1] != id {
			t.Fatalf("%v: the path to %d is %v", tree, id, path)
		}
		for i, prev := range append([]int64{0}, path.List[:len(path.List)-1]...) {
			if nodes[path.List[i]].Prev != prev {
				t.Fatalf("%v: the path to %d is %v", tree, id, path)
			}
		}
		for _, other := range ids {
			fork := impl.ForkOf(tree, id, other)
			if fork.Code != impl.OK || fork.Value != 0 && (!impl.IsAbove(tree, fork.Value, id) || !impl.IsAbove(tree, fork.Value, other)) {
				t.Fatalf("%v: where %d and %d part is %v", tree, id, other, fork)
			}
			// Up to there both paths are the same, and from there on not.
			far := impl.PathTo(tree, other).List
			for at := range min(len(path.List), len(far)) {
				if same := int64(at) < nodes[fork.Value].Height; same != (path.List[at] == far[at]) {
					t.Fatalf("%v: %v and %v part at %d, not at %v", tree, path, far, at, fork)
				}
			}
		}
	}
	holdBestPromise(t, tree, nodes, locks)
}

func holdBestPromise(t *testing.T, tree []impl.Node, nodes map[int64]impl.Node, locks []int64) {
	t.Helper()
	best := impl.BestOf(tree, locks)
	if best.Code != impl.OK {
		t.Fatalf("%v, %v: %v", tree, locks, best)
	}
	for _, n := range tree {
		goes := true
		for _, lock := range locks {
			goes = goes && impl.IsAbove(tree, lock, n.Id)
		}
		if n.Id == best.Value && !goes || goes && n.Height > nodes[best.Value].Height {
			t.Fatalf("%v, %v: %d is best, and there is %v", tree, locks, best.Value, n)
		}
	}
}

func TestAllSmallTrees(t *testing.T) {
	for n := range int64(5) {
		var ids []int64
		for id := range n {
			ids = append(ids, id+1)
		}
		count := 0
		grownTrees(n, func(tree []impl.Node) {
			count++
			holdTreeAgainstPlain(t, tree, append([]int64{-1, 0, n + 1}, ids...))
			listsOf(ids, 3, func(locks []int64) {
				holdBestAgainstPlain(t, tree, locks)
				holdBestAgainstPlain(t, tree, append(locks, 0))
			})
			holdPromise(t, tree, ids, nil)
		})
		if want := []int{1, 1, 4, 36, 576}[n]; count != want {
			t.Errorf("%d trees of %d nodes, want %d", count, n, want)
		}
	}
}

// randomTree grows by right nodes of any number, most of them behind one of the last, so that branches get long.
func randomTree(dice *rand.Rand, n int) []impl.Node {
	var tree []impl.Node
	for _, id := range dice.Perm(60)[:n] {
		node := impl.Node{Id: int64(id) + 1, Height: 1}
		if len(tree) > 0 && dice.Intn(8) > 0 {
			ahead := tree[dice.Intn(len(tree))]
			if dice.Intn(3) > 0 {
				ahead = tree[len(tree)-1-dice.Intn(min(3, len(tree)))]
			}
			node.Prev, node.Height = ahead.Id, ahead.Height+1
		}
		if node.Height <= 40 {
			tree = append(tree, node)
		}
	}
	return tree
}

// randomLocks are most times of one path, and some times of any.
func randomLocks(dice *rand.Rand, tree []impl.Node) []int64 {
	var locks []int64
	path := plainBack(tree, tree[dice.Intn(len(tree))].Id)
	for range dice.Intn(5) {
		lock := path[dice.Intn(len(path))]
		if dice.Intn(12) == 0 {
			lock = tree[dice.Intn(len(tree))].Id
		}
		locks = append(locks, lock)
	}
	return locks
}

func TestRandomTrees(t *testing.T) {
	dice := rand.New(rand.NewSource(9))
	for range 120 {
		tree := randomTree(dice, 1+dice.Intn(60))
		var ids []int64
		for range 4 {
			ids = append(ids, tree[dice.Intn(len(tree))].Id)
		}
		holdTreeAgainstPlain(t, tree, append([]int64{0, 1 + dice.Int63n(60), 61}, ids...))
		for range 10 {
			locks := randomLocks(dice, tree)
			holdBestAgainstPlain(t, tree, locks)
			holdPromise(t, tree, ids, locks)
		}
	}
}

// A best block that goes with all locks stays one that does, whatever nodes come: with it as a lock none of another branch is best.
func TestWhatIsLockedStaysAboveTheBest(t *testing.T) {
	dice := rand.New(rand.NewSource(10))
	for range 60 {
		whole := randomTree(dice, 60)
		var tree []impl.Node
		var locks []int64
		for _, n := range whole {
			tree = holdAddNodeAgainstPlain(t, tree, n).Tree
			best := impl.BestOf(tree, locks)
			if best.Code != impl.OK || best.Value == 0 {
				t.Fatal(tree, locks, best)
			}
			for _, lock := range locks {
				if !impl.IsAbove(tree, lock, best.Value) {
					t.Fatal(tree, locks, best)
				}
			}
			if len(locks) < 20 && dice.Intn(4) == 0 {
				locks = append(locks, best.Value)
			}
		}
		if !slices.Equal(tree, whole) {
			t.Fatal(tree, whole)
		}
	}
}

// The edges that the document names, and wrong inputs.

func wrongTrees() []treeRow {
	return []treeRow{
		{"61", append(firstNodes(60), impl.Node{Id: 61, Height: 1}), impl.ErrMany},
		{"61 with all faults", make([]impl.Node, 61), impl.ErrMany},
		{"100", make([]impl.Node, 100), impl.ErrMany},
		{"Id -1", nodesOf(-1, 0, 1), impl.ErrRange},
		{"Id 0", nodesOf(0, 0, 1), impl.ErrRange},
		{"Id 61", nodesOf(61, 0, 1), impl.ErrRange},
		{"the lowest Id there is", nodesOf(math.MinInt64, 0, 1), impl.ErrRange},
		{"the highest Id there is", nodesOf(math.MaxInt64, 0, 1), impl.ErrRange},
		{"Height -1", nodesOf(1, 0, -1), impl.ErrRange},
		{"Height 0", nodesOf(1, 0, 0), impl.ErrRange},
		{"Height 41", nodesOf(1, 0, 41), impl.ErrRange},
		{"Height 41 behind 40", append(line(40), nodesOf(1, 21, 41)...), impl.ErrRange},
		{"the lowest Height there is", nodesOf(1, 0, math.MinInt64), impl.ErrRange},
		{"the highest Height there is", nodesOf(1, 0, math.MaxInt64), impl.ErrRange},
		{"Height 0 behind 1", nodesOf(1, 0, 1, 2, 1, 0), impl.ErrRange},
		{"an Id that the one ahead has", nodesOf(1, 0, 1, 1, 0, 1), impl.ErrTaken},
		{"an Id that the first of 60 has", append(firstNodes(59), nodesOf(1, 0, 1)...), impl.ErrTaken},
		{"an Id that its Prev has", nodesOf(1, 0, 1, 1, 1, 2), impl.ErrTaken},
		{"a Prev that is not there", nodesOf(1, 0, 1, 2, 3, 2), impl.ErrNone},
		{"a Prev that is not there, of the first one", nodesOf(1, 2, 1), impl.ErrNone},
		{"a Prev that comes behind it", nodesOf(1, 0, 1, 2, 3, 3, 3, 1, 2), impl.ErrNone},
		{"a Prev that is the node itself", nodesOf(1, 0, 1, 2, 2, 2), impl.ErrNone},
		{"a first node that is its own Prev", nodesOf(1, 1, 1), impl.ErrNone},
		{"two that are the Prev of each other", nodesOf(1, 2, 1, 2, 1, 2), impl.ErrNone},
		{"Prev -1", nodesOf(1, 0, 1, 2, -1, 2), impl.ErrNone},
		{"Prev 61", nodesOf(1, 0, 1, 2, 61, 2), impl.ErrNone},
		{"the lowest Prev there is", nodesOf(1, math.MinInt64, 1), impl.ErrNone},
		{"the highest Prev there is", nodesOf(1, math.MaxInt64, 1), impl.ErrNone},
		{"Height 2 of a first node", nodesOf(1, 0, 2), impl.ErrForm},
		{"Height 40 of a first node", nodesOf(1, 0, 40), impl.ErrForm},
		{"Height 2 of a second first node", nodesOf(1, 0, 1, 2, 0, 2), impl.ErrForm},
		{"the Height of Prev", nodesOf(1, 0, 1, 2, 1, 1), impl.ErrForm},
		{"the Height of Prev and 2", nodesOf(1, 0, 1, 2, 1, 3), impl.ErrForm},
		{"a Height below that of Prev", nodesOf(1, 0, 1, 2, 1, 2, 3, 2, 1), impl.ErrForm},
		{"the Height of the one ahead in the list and 1", nodesOf(1, 0, 1, 2, 1, 2, 3, 1, 3), impl.ErrForm},
		{"Height 40 behind 40", append(line(40), nodesOf(1, 21, 40)...), impl.ErrForm},

		{"Id out of bounds, Prev not there", nodesOf(0, 5, 1), impl.ErrRange},
		{"Height out of bounds, an Id that is there", nodesOf(1, 0, 1, 1, 0, 0), impl.ErrRange},
		{"Height out of bounds, Prev not there", nodesOf(1, 5, 41), impl.ErrRange},
		{"an Id that is there, Prev not", nodesOf(1, 0, 1, 1, 5, 1), impl.ErrTaken},
		{"an Id that is there, Height not so", nodesOf(1, 0, 1, 1, 0, 2), impl.ErrTaken},
		{"Prev not there, Height not so", nodesOf(1, 0, 1, 2, 5, 40), impl.ErrNone},
		{"Height not so ahead of an Id out of bounds", nodesOf(1, 0, 2, 61, 0, 1), impl.ErrForm},
		{"Prev not there ahead of an Id that is there", nodesOf(1, 0, 1, 2, 5, 2, 1, 0, 1), impl.ErrNone},
		{"an Id that is there ahead of a Height out of bounds", nodesOf(1, 0, 1, 1, 0, 1, 2, 0, 0), impl.ErrTaken},
		{"Prev has a Height that is not so", nodesOf(1, 0, 2, 2, 1, 3), impl.ErrForm},
		{"a fault of the last of 60", append(firstNodes(59), nodesOf(60, 0, 2)...), impl.ErrForm},
	}
}

type treeRow struct {
	name string
	tree []impl.Node
	code int64
}

func TestTreeFault(t *testing.T) {
	rows := append(wrongTrees(), []treeRow{
		{"none", nil, impl.OK},
		{"Id 1", nodesOf(1, 0, 1), impl.OK},
		{"Id 60", nodesOf(60, 0, 1), impl.OK},
		{"60", firstNodes(60), impl.OK},
		{"Heights 1 to 40", line(40), impl.OK},
		{"60 of two lines", append(line(40), firstNodes(20)...), impl.OK},
		{"several of one Height", nodesOf(1, 0, 1, 2, 1, 2, 3, 1, 2, 4, 1, 2), impl.OK},
		{"in another order than that of the Heights", wood(), impl.OK},
	}...)
	for _, row := range rows {
		if got := impl.TreeFault(row.tree); got != row.code {
			t.Errorf("%s: %d, want %d", row.name, got, row.code)
		}
		if got := plainTreeFault(row.tree); got != row.code {
			t.Errorf("%s: the plain reading says %d, want %d", row.name, got, row.code)
		}
		holdTreeAgainstPlain(t, row.tree, []int64{math.MinInt64, -1, 0, 1, 2, 21, 60, 61, math.MaxInt64})
	}
}

// The others ask it ahead of all else: of numbers that are not there, of locks that are too many, of a node with a fault of its own.
func TestTheOthersAskTheTreeFirst(t *testing.T) {
	for _, row := range wrongTrees() {
		for _, n := range nodesOf(0, 0, 0, 1, 0, 1, 9, 9, 9, 55, 0, 1) {
			if r := holdAddNodeAgainstPlain(t, row.tree, n); r.Code != row.code || len(r.Tree) != 0 {
				t.Errorf("%s: AddNode %v: %v", row.name, n, r)
			}
		}
		for _, a := range []int64{-1, 0, 1, 2, 60} {
			if r := impl.PathTo(row.tree, a); r.Code != row.code || len(r.List) != 0 {
				t.Errorf("%s: PathTo %d: %v", row.name, a, r)
			}
			for _, b := range []int64{-1, 0, 1, 2, 60} {
				if r := impl.ForkOf(row.tree, a, b); r != (impl.IntResult{Code: row.code}) {
					t.Errorf("%s: ForkOf %d, %d: %v", row.name, a, b, r)
				}
				if impl.IsAbove(row.tree, a, b) || impl.Related(row.tree, a, b) {
					t.Errorf("%s: %d and %d go together", row.name, a, b)
				}
			}
		}
		for _, locks := range [][]int64{nil, {1}, {0}, make([]int64, 21)} {
			if r := impl.BestOf(row.tree, locks); r != (impl.IntResult{Code: row.code}) {
				t.Errorf("%s: BestOf %v: %v", row.name, locks, r)
			}
		}
	}
}

func TestAllShortListsOfNodes(t *testing.T) {
	elements := nodesOf(
		1, 0, 1, 2, 0, 1, 2, 1, 2, 3, 1, 2, 3, 2, 3, 3, 2, 2, 1, 2, 2, 2, 2, 2,
		0, 0, 1, 61, 1, 2, 60, 3, 4, 4, 3, 3, 4, 0, 0, 5, 4, 41, 5, 0, 2,
	)
	listsOf(elements, 3, func(tree []impl.Node) {
		holdTreeAgainstPlain(t, tree, []int64{0, 1, 2, 3, 60})
		for _, n := range elements {
			holdAddNodeAgainstPlain(t, tree, n)
		}
		listsOf([]int64{0, 1, 2, 3}, 2, func(locks []int64) { holdBestAgainstPlain(t, tree, locks) })
	})
}

// AddNode: the codes are those that the whole list has, with the node as its last one.
func TestAddNode(t *testing.T) {
	numbers := []int64{math.MinInt64, -1, 0, 1, 2, 3, 4, 7, 9, 20, 59, 60, 61, math.MaxInt64}
	heights := []int64{math.MinInt64, -1, 0, 1, 2, 3, 4, 5, 39, 40, 41, math.MaxInt64}
	for _, tree := range [][]impl.Node{nil, nodesOf(1, 0, 1), wood(), line(39), line(40)} {
		for _, id := range numbers {
			for _, prev := range append(numbers, 21, 22) {
				for _, height := range heights {
					n := impl.Node{Id: id, Prev: prev, Height: height}
					r := holdAddNodeAgainstPlain(t, tree, n)
					whole := append(slices.Clone(tree), n)
					if want := impl.TreeFault(whole); r.Code != want || r.Code == impl.OK && !slices.Equal(r.Tree, whole) || r.Code != impl.OK && len(r.Tree) != 0 {
						t.Fatalf("%v behind %v: %v, want %d", n, tree, r, want)
					}
				}
			}
		}
	}
}

// Sixty nodes have all the numbers that there are: a node more has the code of its number, and ErrMany stands behind it.
func TestANodePutToSixty(t *testing.T) {
	for _, tree := range [][]impl.Node{firstNodes(60), append(line(40), firstNodes(20)...)} {
		if code := impl.TreeFault(tree); code != impl.OK {
			t.Fatal(code)
		}
		for id := int64(1); id <= 60; id++ {
			for _, n := range nodesOf(id, 0, 1, id, 1, 2, id, 61, 2, id, 0, 40) {
				if r := holdAddNodeAgainstPlain(t, tree, n); !sameTreeResults(r, impl.TreeResult{Code: impl.ErrTaken}) {
					t.Errorf("%v: %v", n, r)
				}
			}
		}
		for _, n := range nodesOf(61, 0, 1, 0, 0, 1, -1, 0, 1, 1, 0, 41, 1, 0, 0) {
			if r := holdAddNodeAgainstPlain(t, tree, n); !sameTreeResults(r, impl.TreeResult{Code: impl.ErrRange}) {
				t.Errorf("%v: %v", n, r)
			}
		}
		all := holdAddNodeAgainstPlain(t, tree[:59], tree[59])
		if !sameTreeResults(all, impl.TreeResult{Tree: tree}) {
			t.Error("the sixtieth:", all)
		}
	}
}

// Promise 1: memory, nil and empty, the same again.

func TestTreesAreNotChanged(t *testing.T) {
	trees := [][]impl.Node{nil, nodesOf(1, 0, 1), wood(), line(40), firstNodes(60), firstNodes(59)}
	for _, row := range wrongTrees() {
		trees = append(trees, row.tree)
	}
	for _, plain := range trees {
		tree := roomyTree(plain)
		was := slices.Clone(tree[:cap(tree)])
		for _, n := range nodesOf(60, 0, 1, 55, 0, 1, 55, 1, 2, 0, 0, 0) {
			impl.AddNode(tree, n)
		}
		for _, a := range []int64{-1, 0, 1, 20, 60} {
			impl.PathTo(tree, a)
			for _, b := range []int64{-1, 0, 1, 2, 60} {
				impl.IsAbove(tree, a, b)
				impl.Related(tree, a, b)
				impl.ForkOf(tree, a, b)
			}
		}
		impl.TreeFault(tree)
		for _, list := range [][]int64{nil, {7, 3}, {2, 60, 1}, {0}, {60}, make([]int64, 21), slices.Repeat([]int64{1}, 20)} {
			locks := roomyNumbers(list)
			wasLocks := slices.Clone(locks[:cap(locks)])
			impl.BestOf(tree, locks)
			if !slices.Equal(locks[:cap(locks)], wasLocks) {
				t.Errorf("the locks were changed: %v, they were %v", locks[:cap(locks)], wasLocks)
			}
		}
		if !slices.Equal(tree[:cap(tree)], was) {
			t.Errorf("the tree was changed: %v, it was %v", tree[:cap(tree)], was)
		}
	}
}

func TestAnswersOfTreesShareNoMemory(t *testing.T) {
	for _, plain := range [][]impl.Node{wood(), line(40), firstNodes(59)} {
		tree := roomyTree(plain)
		was := slices.Clone(tree[:cap(tree)])
		n := impl.Node{Id: 6, Height: 1}
		if plain[0].Id == 1 {
			n.Id = 60
		}
		answer, again := impl.AddNode(tree, n), impl.AddNode(tree, n)
		end := plain[len(plain)-1].Id
		path, pathAgain := impl.PathTo(tree, end), impl.PathTo(tree, end)
		want, wantPath := append(slices.Clone(plain), n), slices.Clone(path.List)
		if !slices.Equal(answer.Tree, want) || len(wantPath) == 0 {
			t.Fatal(answer, path)
		}
		spoilTree(answer.Tree)
		spoilNumbers(path.List)
		if !slices.Equal(tree[:cap(tree)], was) {
			t.Error("who writes to the answer writes to the tree")
		}
		spoilTree(tree)
		if !slices.Equal(again.Tree, want) || !slices.Equal(pathAgain.List, wantPath) {
			t.Error("who writes to the tree or to another answer writes to the answer", again, pathAgain)
		}
	}
}

func TestEmptyAndNilOfTreesAreTheSame(t *testing.T) {
	one := nodesOf(1, 0, 1)
	for _, tree := range [][]impl.Node{nil, {}} {
		holdTreeAgainstPlain(t, tree, []int64{-1, 0, 1})
		if r := impl.AddNode(tree, one[0]); !sameTreeResults(r, impl.TreeResult{Tree: one}) {
			t.Error(r)
		}
		if r := impl.PathTo(tree, 0); r.Code != impl.OK || len(r.List) != 0 {
			t.Error(r)
		}
		for _, locks := range [][]int64{nil, {}} {
			if r := impl.BestOf(tree, locks); r != (impl.IntResult{}) {
				t.Error(r)
			}
			if r := impl.BestOf(one, locks); r != (impl.IntResult{Value: 1}) {
				t.Error(r)
			}
		}
	}
}

func TestTreesHangOnTheArgumentsAlone(t *testing.T) {
	for range 30 {
		impl.AddNode(wood(), impl.Node{Id: 6, Prev: 20, Height: 5})
		impl.TreeFault(line(40))
		impl.BestOf(line(40), []int64{60})
		impl.BestOf(wood(), []int64{3, 5})
		impl.PathTo(nodesOf(20, 0, 1), 20)
		if r := impl.BestOf(wood(), []int64{5}); r != (impl.IntResult{Value: 60}) {
			t.Fatal(r)
		}
		if r := impl.PathTo(wood(), 20); !slices.Equal(r.List, []int64{7, 3, 9, 20}) {
			t.Fatal(r)
		}
		if r := impl.ForkOf(wood(), 20, 60); r != (impl.IntResult{Value: 7}) {
			t.Fatal(r)
		}
		if impl.IsAbove(wood(), 6, 6) || impl.Related(wood(), 20, 6) || !impl.IsAbove(wood(), 7, 20) {
			t.Fatal("what was asked ahead left a trace")
		}
	}
}
