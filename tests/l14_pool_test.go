package tests

import (
	"fmt"
	"math"
	"math/rand"
	"slices"
	"strings"
	"testing"

	"loop.example/g00304/impl"
)

// The plain reading of chapter 14: what the program is held against. It reads each transaction anew, and keeps nothing beside the numbers.

func plainNextHeight(s impl.State) int64 {
	if s.Height >= 40 {
		return 40
	}
	return s.Height + 1
}

// plainStandFault asks one behind those ahead, of which none is wrong.
func plainStandFault(l impl.Ledger, s impl.State, ahead []int64, id int64) int64 {
	read := plainTxIn(l, id)
	if read.Code != impl.OK {
		return read.Code
	}
	if r := plainCheck(l, s.Coins, read.Tx, plainNextHeight(s)); r.Code != impl.OK {
		return r.Code
	}
	for _, other := range ahead {
		if other == id || plainClash(plainTxIn(l, other).Tx, read.Tx) {
			return impl.ErrTaken
		}
	}
	if read.Tx.Kind == impl.KindPay {
		return impl.OK
	}
	if plainTakeMembers(s.Members, read.Tx, id).Code != impl.OK {
		return impl.ErrState
	}
	for _, other := range ahead {
		tx := plainTxIn(l, other).Tx
		if tx.Kind != impl.KindPay {
			return impl.ErrState
		}
		if read.Tx.Kind == impl.KindLeave && slices.Contains(tx.Ins, plainMemberOf(s.Members, read.Tx.Member).Members[0].Ref) {
			return impl.ErrState
		}
	}
	return impl.OK
}

// plainPoolStart is what trimming asks as well.
func plainPoolStart(l impl.Ledger, s impl.State, pool []int64) int64 {
	for _, code := range []int64{plainFault(l), plainStateFault(s)} {
		if code != impl.OK {
			return code
		}
	}
	if len(pool) > 8 {
		return impl.ErrMany
	}
	return impl.OK
}

func plainPoolFault(l impl.Ledger, s impl.State, pool []int64) int64 {
	if code := plainPoolStart(l, s, pool); code != impl.OK {
		return code
	}
	for i, id := range pool {
		if code := plainStandFault(l, s, pool[:i], id); code != impl.OK {
			return code
		}
	}
	return impl.OK
}

func plainAddPool(l impl.Ledger, s impl.State, pool []int64, id int64) impl.PoolResult {
	if code := plainPoolFault(l, s, pool); code != impl.OK {
		return impl.PoolResult{Code: code}
	}
	if code := plainStandFault(l, s, pool, id); code != impl.OK {
		return impl.PoolResult{Code: code}
	}
	if len(pool) == 8 {
		return impl.PoolResult{Code: impl.ErrMany}
	}
	return impl.PoolResult{Pool: append(slices.Clone(pool), id)}
}

func plainFavorPool(l impl.Ledger, s impl.State, pool []int64, id int64) impl.PoolResult {
	if code := plainPoolFault(l, s, pool); code != impl.OK {
		return impl.PoolResult{Code: code}
	}
	read := plainTxIn(l, id)
	if read.Code != impl.OK {
		return impl.PoolResult{Code: read.Code}
	}
	var gone, left []int64
	for _, other := range pool {
		if other == id || plainClash(plainTxIn(l, other).Tx, read.Tx) {
			gone = append(gone, other)
		} else {
			left = append(left, other)
		}
	}
	added := plainAddPool(l, s, left, id)
	if added.Code != impl.OK {
		return impl.PoolResult{Code: added.Code}
	}
	return impl.PoolResult{Gone: gone, Pool: added.Pool}
}

func plainTrimPool(l impl.Ledger, s impl.State, pool []int64) impl.PoolResult {
	if code := plainPoolStart(l, s, pool); code != impl.OK {
		return impl.PoolResult{Code: code}
	}
	var r impl.PoolResult
	for _, id := range pool {
		if added := plainAddPool(l, s, r.Pool, id); added.Code == impl.OK {
			r.Pool = added.Pool
		} else {
			r.Gone = append(r.Gone, id)
		}
	}
	return r
}

func plainMineBlock(l impl.Ledger, s impl.State, pool []int64, miner int64) impl.BlockResult {
	if code := plainPoolFault(l, s, pool); code != impl.OK {
		return impl.BlockResult{Code: code}
	}
	if miner < 1 || miner > 999 {
		return impl.BlockResult{Code: impl.ErrRange}
	}
	if s.Height == 40 {
		return impl.BlockResult{Code: impl.ErrMany}
	}
	txs := pool
	if len(pool) > 6 {
		txs = pool[:6]
	}
	return impl.BlockResult{Block: impl.Block{Prev: s.Tip, Height: s.Height + 1, Miner: miner, Txs: txs}}
}

func plainFeesOf(l impl.Ledger, s impl.State, pool []int64) impl.IntResult {
	if code := plainPoolFault(l, s, pool); code != impl.OK {
		return impl.IntResult{Code: code}
	}
	var sum int64
	for _, id := range pool {
		sum += plainCheck(l, s.Coins, plainTxIn(l, id).Tx, plainNextHeight(s)).Value
	}
	return impl.IntResult{Value: sum}
}

func samePools(a, b impl.PoolResult) bool {
	return a.Code == b.Code && slices.Equal(a.Gone, b.Gone) && slices.Equal(a.Pool, b.Pool)
}

// holdPool holds all six functions against the plain reading, and where a pool has no fault against the promise.
func holdPool(t *testing.T, name string, l impl.Ledger, s impl.State, pool []int64, ids, miners []int64) int64 {
	t.Helper()
	wasLedger, was, wasPool := copyLedger(l), copyState(s), slices.Clone(pool)
	code := impl.PoolFault(l, s, pool)
	if want := plainPoolFault(l, s, pool); code != want {
		t.Fatalf("%s: PoolFault %v = %d, want %d", name, pool, code, want)
	}
	if got, want := impl.FeesOf(l, s, pool), plainFeesOf(l, s, pool); got != want {
		t.Fatalf("%s: FeesOf %v = %v, want %v", name, pool, got, want)
	}
	trimmed := impl.TrimPool(l, s, pool)
	if want := plainTrimPool(l, s, pool); !samePools(trimmed, want) {
		t.Fatalf("%s: TrimPool %v = %v, want %v", name, pool, trimmed, want)
	}
	for _, miner := range miners {
		if got, want := impl.MineBlock(l, s, pool, miner), plainMineBlock(l, s, pool, miner); !sameBlockResults(got, want) {
			t.Fatalf("%s: MineBlock %v by %d = %v, want %v", name, pool, miner, got, want)
		}
	}
	for _, id := range ids {
		added, favored := impl.AddPool(l, s, pool, id), impl.FavorPool(l, s, pool, id)
		if want := plainAddPool(l, s, pool, id); !samePools(added, want) {
			t.Fatalf("%s: AddPool %v, %d = %v, want %v", name, pool, id, added, want)
		}
		if want := plainFavorPool(l, s, pool, id); !samePools(favored, want) {
			t.Fatalf("%s: FavorPool %v, %d = %v, want %v", name, pool, id, favored, want)
		}
		if favored.Code == impl.OK {
			holdFavored(t, l, s, pool, id, favored)
		}
		if added.Code == impl.OK {
			holdStands(t, l, s, added.Pool)
		}
	}
	if trimmed.Code == impl.OK {
		holdTrimmed(t, l, s, pool, trimmed)
	}
	if code == impl.OK {
		holdStands(t, l, s, pool)
	}
	if !sameLedgers(l, wasLedger) || !plainSameStates(s, was) || !slices.Equal(pool, wasPool) {
		t.Fatalf("%s: an argument was changed: %v %v %v", name, l, s, pool)
	}
	return code
}

// Promise 15, in its own words: what is held here asks no plain reading.

// holdStands: no two of a pool spend the same, and a block that is mined of it can be connected.
func holdStands(t *testing.T, l impl.Ledger, s impl.State, pool []int64) {
	t.Helper()
	if code := impl.PoolFault(l, s, pool); code != impl.OK {
		t.Fatalf("the pool %v has the fault %d", pool, code)
	}
	for i, a := range pool {
		for _, b := range pool[:i] {
			if a == b || impl.ClashTx(impl.TxIn(l, a).Tx, impl.TxIn(l, b).Tx) {
				t.Fatalf("%d and %d of the pool %v spend the same", b, a, pool)
			}
		}
	}
	if s.Height == impl.MaxHeight {
		return
	}
	mined := impl.MineBlock(l, s, pool, 9)
	if mined.Code != impl.OK || impl.BlockFault(mined.Block) != impl.OK {
		t.Fatalf("the pool %v is mined as %v", pool, mined)
	}
	if noted := impl.NoteText(l, impl.BlockText(mined.Block).Text); noted.Code == impl.OK && isRoomFor(noted.Ledger, s, noted.Id) {
		if r := impl.ConnectBlock(noted.Ledger, s, noted.Id); r.Code != impl.OK {
			t.Fatalf("the block %v that is mined of %v is not connected: %d", mined.Block, pool, r.Code)
		}
	}
}

// isRoomFor: there is room for the block's coins and its value, and no coin has one of its numbers.
func isRoomFor(l impl.Ledger, s impl.State, id int64) bool {
	block := impl.BlockIn(l, id).Block
	count, fees := len(s.Coins), int64(0)
	for _, tx := range block.Txs {
		read := impl.TxIn(l, tx).Tx
		count += len(read.Outs) - len(read.Ins)
		fees += impl.CheckTx(l, s.Coins, read, block.Height).Value
		if count > impl.MaxCoins {
			return false
		}
	}
	for _, coin := range s.Coins {
		if coin.Ref.Tx == id || slices.Contains(block.Txs, coin.Ref.Tx) {
			return false
		}
	}
	return count < impl.MaxCoins && fees+impl.RewardOf(block.Height).Value <= impl.MaxValue
}

// holdFavored: what is favoured is in the pool, and just what clashes with it is gone.
func holdFavored(t *testing.T, l impl.Ledger, s impl.State, pool []int64, id int64, r impl.PoolResult) {
	t.Helper()
	tx := impl.TxIn(l, id).Tx
	isGone := func(other int64) bool { return impl.ClashTx(impl.TxIn(l, other).Tx, tx) }
	left := slices.DeleteFunc(slices.Clone(pool), isGone)
	if !slices.Equal(r.Pool, append(left, id)) || !slices.Equal(r.Gone, slices.DeleteFunc(slices.Clone(pool), func(other int64) bool { return !isGone(other) })) {
		t.Fatalf("%d is favoured in %v: %v", id, pool, r)
	}
	holdStands(t, l, s, r.Pool)
}

// holdTrimmed: what is trimmed is right, and of what is right nothing goes.
func holdTrimmed(t *testing.T, l impl.Ledger, s impl.State, pool []int64, r impl.PoolResult) {
	t.Helper()
	holdStands(t, l, s, r.Pool)
	if impl.PoolFault(l, s, pool) == impl.OK && (len(r.Gone) != 0 || !slices.Equal(r.Pool, pool)) {
		t.Fatalf("the pool %v is right, and is trimmed to %v", pool, r)
	}
	if again := impl.TrimPool(l, s, r.Pool); !samePools(again, impl.PoolResult{Pool: r.Pool}) {
		t.Fatalf("%v is trimmed to %v, and then to %v", pool, r, again)
	}
	stay, gone := r.Pool, r.Gone
	for _, id := range pool {
		switch {
		case len(stay) > 0 && stay[0] == id:
			stay = stay[1:]
		case len(gone) > 0 && gone[0] == id:
			gone = gone[1:]
		default:
			t.Fatalf("%v is trimmed to %v", pool, r)
		}
	}
	if len(stay) != 0 || len(gone) != 0 {
		t.Fatalf("%v is trimmed to %v", pool, r)
	}
}

// market is a ledger of transactions of which each has a number by its name, and a state at height 4, by which some are right at the next height, 5, and some are not.
type market struct {
	ledger impl.Ledger
	state  impl.State
	names  []string
}

func (m market) id(name string) int64 {
	return int64(slices.Index(m.names, name) + 1)
}

// ids reads names with blanks between.
func (m market) ids(names string) []int64 {
	var list []int64
	for _, name := range strings.Fields(names) {
		if m.id(name) == 0 {
			panic("no transaction is called " + name)
		}
		list = append(list, m.id(name))
	}
	return list
}

func (m market) all() []int64 {
	ids := []int64{-1, 0}
	for i := range m.names {
		ids = append(ids, int64(i+1))
	}
	return append(ids, int64(len(m.names)+1))
}

// marketState: 50:0 to 50:3 are of the key 1; 51:0 is ripe just at 5, 52:0 just at 6; 53:0 may be spent from 5 on, 53:1 from 6 on; the members 7 and 8 hold 54:0 and 55:0.
func marketState() impl.State {
	coins := append(purseOf(),
		minedCoin(51, 1000, 3, 1), minedCoin(52, 1000, 4, 1),
		coinWith(53, 0, 10, 2, false, ruleWith(1, 5, 1)), coinWith(53, 1, 10, 2, false, ruleWith(1, 6, 1)),
		coinWith(54, 0, 200, 2, false, ruleOf(7)), coinWith(55, 0, 200, 2, false, ruleOf(8)))
	return stateOf(59, 4, coins, memberOf(7, 54, 0), memberOf(8, 55, 0))
}

func newMarket() market {
	rows := []struct {
		name string
		text signedText
	}{
		{"first", by("pay 50:0 900=1_of_2", 1)},
		{"firstToo", by("pay 50:0 950=1_of_2", 1)},
		{"second", by("pay 50:1 1000=1_of_2", 1)},
		{"both", by("pay 50:1+50:0 1500=1_of_2", 1)},
		{"third", by("pay 50:2 999=1_of_2", 1)},
		{"fourth", by("pay 50:3 993=1_of_2 1=1_of_2", 1)},
		{"ripe", by("pay 51:0 1000=1_of_2", 1)},
		{"unripe", by("pay 52:0 1000=1_of_2", 1)},
		{"after5", by("pay 53:0 10=1_of_2", 1)},
		{"after6", by("pay 53:1 10=1_of_2", 1)},
		{"held7", by("pay 54:0 200=1_of_7", 7)},
		{"held8", by("pay 55:0 200=1_of_8", 8)},
		{"join9", by("join 9 50:2 500=1_of_9", 1)},
		{"join10", by("join 10 50:3 500=1_of_9", 1)},
		{"join7", by("join 7 50:2 100=1_of_7", 1)},
		{"join7again", by("join 7 54:0 150=1_of_7", 7)},
		{"leave7", by("leave 7 50:3 998=1_of_1", 1, 7)},
		{"leave8", by("leave 8 55:0 200=1_of_8", 8)},
		{"leave30", by("leave 30 50:2 1=1_of_1", 1, 30)},
		{"unsignedLeave", by("leave 7 50:3 997=1_of_1", 1)},
		{"unsigned", by("pay 50:0 899=1_of_2", 3)},
		{"tooMuch", by("pay 50:0 1001=1_of_2", 1)},
		{"ofFirst", by("pay 1:0 5=1_of_2", 2)},
		{"text", by("a")},
		{"block", by("block 0 1 9 -")},
	}
	m := market{state: marketState()}
	var texts []signedText
	for _, row := range rows {
		texts, m.names = append(texts, row.text), append(m.names, row.name)
	}
	m.ledger = ledgerBy(texts...)
	return m
}

// stall is a market with one coin of the key 1 worth value for each of n transactions, called 1 to n: each spends it for one of 5.
func stall(n int, value int64) market {
	var texts []signedText
	m := market{state: stateOf(60, 4, nil)}
	for i := range n {
		ref := impl.Ref{Tx: int64(40 + i/4), At: int64(i % 4)}
		m.state.Coins = append(m.state.Coins, impl.Coin{Ref: ref, Out: outOf(value, 1)})
		texts = append(texts, by(fmt.Sprintf("pay %d:%d 5=1_of_2", ref.Tx, ref.At), 1))
		m.names = append(m.names, fmt.Sprint(i+1))
	}
	m.ledger = ledgerBy(texts...)
	return m
}

// The edges of a pool.

type poolRow struct {
	name string
	pool []int64
	code int64
}

func marketRows(m market) []poolRow {
	many := int64(len(m.names))
	row := func(pool string, code int64) poolRow { return poolRow{pool, m.ids(pool), code} }
	return []poolRow{
		{"none", nil, impl.OK},
		{"an empty one", []int64{}, impl.OK},
		{"the number 0", []int64{0}, impl.ErrRange},
		{"the number -1", []int64{-1}, impl.ErrRange},
		{"one behind the last text", []int64{many + 1}, impl.ErrRange},
		{"the number 61", []int64{61}, impl.ErrRange},
		{"the lowest number there is", []int64{math.MinInt64}, impl.ErrRange},
		{"the highest number there is", []int64{math.MaxInt64}, impl.ErrRange},
		row("text", impl.ErrText), row("block", impl.ErrText),

		row("first", impl.OK), row("both", impl.OK), row("unsigned", impl.ErrSign), row("tooMuch", impl.ErrValue),
		row("ofFirst", impl.ErrNone), row("first ofFirst", impl.ErrNone), row("ofFirst first", impl.ErrNone),
		row("ripe", impl.OK), row("unripe", impl.ErrEarly), row("after5", impl.OK), row("after6", impl.ErrEarly),
		row("first second third fourth ripe after5 held7 held8", impl.OK),

		row("first firstToo", impl.ErrTaken), row("firstToo first", impl.ErrTaken), row("first first", impl.ErrTaken),
		row("first second first", impl.ErrTaken), row("first both", impl.ErrTaken), row("second both", impl.ErrTaken),
		row("both second", impl.ErrTaken), row("third second firstToo both", impl.ErrTaken), row("first second", impl.OK),
		row("join9 join9", impl.ErrTaken), row("leave7 leave7", impl.ErrTaken), row("third join9", impl.ErrTaken),

		row("join9", impl.OK), row("join7", impl.ErrState), row("join7again", impl.OK), row("leave7", impl.OK),
		row("leave8", impl.OK), row("leave30", impl.ErrState), row("unsignedLeave", impl.ErrSign),
		row("first second join9", impl.OK), row("first second ripe leave7", impl.OK),
		row("join9 first", impl.OK), row("leave7 first second", impl.OK), row("first join9 second", impl.OK),
		row("join9 join10", impl.ErrState), row("join9 leave7", impl.ErrState), row("leave7 join9", impl.ErrState),
		row("leave7 leave8", impl.ErrState), row("leave8 leave7", impl.ErrState), row("join9 first leave8", impl.ErrState),
		row("leave8 first second join10", impl.ErrState), row("join7again leave8", impl.ErrState),

		// Who holds what is spent ahead is gone by then; who holds something else is not, and by what comes behind nobody is gone.
		row("held7 leave7", impl.ErrState), row("held8 leave7", impl.OK), row("held7 leave8", impl.OK),
		row("held7 first leave7", impl.ErrState), row("first held7 leave7", impl.ErrState), row("held8 held7 leave7", impl.ErrState),
		row("leave7 held7", impl.OK), row("leave8 held7", impl.OK),
		// The members are those of the state: 7 is one of them still.
		row("held7 join9", impl.OK), row("held7 join7", impl.ErrState),
	}
}

func TestPoolFault(t *testing.T) {
	m := newMarket()
	for _, row := range marketRows(m) {
		if got := holdPool(t, row.name, m.ledger, m.state, row.pool, m.all(), []int64{9}); got != row.code {
			t.Errorf("%s: %d, want %d", row.name, got, row.code)
		}
	}
}

// AddPool has the codes of one behind the others, and no others where there is room.
func TestAddPoolHasTheCodesOfThePool(t *testing.T) {
	m := newMarket()
	for _, row := range marketRows(m) {
		if len(row.pool) == 0 {
			continue
		}
		ahead, id := row.pool[:len(row.pool)-1], row.pool[len(row.pool)-1]
		if impl.PoolFault(m.ledger, m.state, ahead) != impl.OK {
			continue
		}
		want := impl.PoolResult{Code: row.code}
		if row.code == impl.OK {
			want.Pool = row.pool
		}
		if r := impl.AddPool(m.ledger, m.state, ahead, id); !samePools(r, want) {
			t.Errorf("%s: %v, want %v", row.name, r, want)
		}
	}
}

func TestWhichCodeOfAPoolComesFirst(t *testing.T) {
	m := newMarket()
	for _, row := range []struct {
		pool string
		code int64
	}{
		{"first unsigned", impl.ErrSign}, {"first tooMuch", impl.ErrValue}, {"leave7 unsignedLeave", impl.ErrSign},
		{"third join7", impl.ErrTaken}, {"third leave30", impl.ErrTaken}, {"join9 leave30", impl.ErrTaken}, {"held8 leave8", impl.ErrTaken},
		{"join7 text", impl.ErrState}, {"leave30 unsigned", impl.ErrState}, {"join7 first firstToo", impl.ErrState},
		{"first firstToo text", impl.ErrTaken}, {"first firstToo join7", impl.ErrTaken}, {"unripe text", impl.ErrEarly}, {"text unripe", impl.ErrText},
		{"first held7 leave7 firstToo", impl.ErrState}, {"first held7 firstToo leave7", impl.ErrTaken},
		{"unsigned first first", impl.ErrSign}, {"first second third tooMuch join7", impl.ErrValue},
	} {
		pool := m.ids(row.pool)
		if got := holdPool(t, row.pool, m.ledger, m.state, pool, m.all(), []int64{0, 9}); got != row.code {
			t.Errorf("%s: %d, want %d", row.pool, got, row.code)
		}
		// A number that is none ahead of all comes ahead of all.
		if got := impl.PoolFault(m.ledger, m.state, append([]int64{0}, pool...)); got != impl.ErrRange {
			t.Errorf("0 %s: %d", row.pool, got)
		}
	}
}

func TestHowManyOfAPool(t *testing.T) {
	m := stall(10, 20)
	for n := range 11 {
		pool, want := manyTxs(n), int64(impl.OK)
		if n > 8 {
			want = impl.ErrMany
		}
		if got := holdPool(t, fmt.Sprint(n), m.ledger, m.state, pool, m.all(), []int64{1}); got != want {
			t.Errorf("%d: %d, want %d", n, got, want)
		}
	}
	// That there are too many comes ahead of all that is wrong with one of them.
	for _, pool := range [][]int64{make([]int64, 9), append([]int64{-1}, manyTxs(8)...), append(manyTxs(8), 1), make([]int64, 1000)} {
		holdCode(t, "too many", m.ledger, m.state, pool, impl.ErrMany)
	}
}

// holdCode: all six tell the code, and nothing beside it.
func holdCode(t *testing.T, name string, l impl.Ledger, s impl.State, pool []int64, code int64) {
	t.Helper()
	if r := impl.TrimPool(l, s, pool); !samePools(r, impl.PoolResult{Code: code}) {
		t.Errorf("%s: TrimPool %v, want %d", name, r, code)
	}
	holdCodeOfFive(t, name, l, s, pool, code)
}

// holdCodeOfFive leaves out TrimPool, which asks nothing of what stands in a pool.
func holdCodeOfFive(t *testing.T, name string, l impl.Ledger, s impl.State, pool []int64, code int64) {
	t.Helper()
	if got := impl.PoolFault(l, s, pool); got != code {
		t.Errorf("%s: PoolFault %d, want %d", name, got, code)
	}
	if r := impl.FeesOf(l, s, pool); r != (impl.IntResult{Code: code}) {
		t.Errorf("%s: FeesOf %v, want %d", name, r, code)
	}
	for _, number := range []int64{-1, 0, 1, 3, 61, 1000} {
		if r := impl.AddPool(l, s, pool, number); !samePools(r, impl.PoolResult{Code: code}) {
			t.Errorf("%s: AddPool %v, want %d", name, r, code)
		}
		if r := impl.FavorPool(l, s, pool, number); !samePools(r, impl.PoolResult{Code: code}) {
			t.Errorf("%s: FavorPool %v, want %d", name, r, code)
		}
		if r := impl.MineBlock(l, s, pool, number); !sameBlockResults(r, impl.BlockResult{Code: code}) {
			t.Errorf("%s: MineBlock %v, want %d", name, r, code)
		}
	}
}

func TestFaultsComeAheadOfThePool(t *testing.T) {
	m := newMarket()
	full := m.state
	full.Height = 40
	pools := [][]int64{nil, {}, {1}, {0, 61}, {1, 1}, make([]int64, 9)}
	for _, row := range faultRows() {
		for _, s := range []impl.State{{}, m.state, full, stateOf(-1, 41, nil), stateOf(1, 0, nil), stateOf(1, 1, []impl.Coin{{}}, manyMembers(9)...)} {
			for _, pool := range pools {
				holdCode(t, row.name, row.ledger, s, pool, row.code)
			}
		}
	}
	for _, row := range wrongStates() {
		for _, pool := range pools {
			holdCode(t, row.name, m.ledger, row.state, pool, row.code)
			holdPool(t, row.name, m.ledger, row.state, pool, []int64{1}, []int64{1})
		}
	}
	// What is wrong with the pool comes ahead of what is wrong with a number, a miner or the height.
	for _, s := range []impl.State{m.state, full} {
		for _, row := range marketRows(m) {
			if code := plainPoolFault(m.ledger, s, row.pool); code != impl.OK {
				holdCodeOfFive(t, row.name, m.ledger, s, row.pool, code)
			}
		}
	}
}

// The next height is the state's and 1, but at most 40: what is not met at 40 is not met by a state at 40 either.
func TestTheNextHeight(t *testing.T) {
	pool := []int64{1}
	l := ledgerBy(by("pay 50:0 5=1_of_1", 1))
	for height := range int64(41) {
		tip := min(height, 1)
		next := min(height+1, 40)
		// At the height 1 nothing that was mined can be ripe yet.
		for _, coin := range []struct {
			name string
			coin impl.Coin
			code int64
		}{
			{"just met", coinWith(50, 0, 5, 0, false, ruleWith(1, next, 1)), impl.OK},
			{"too early", coinWith(50, 0, 5, 0, false, ruleWith(1, next+1, 1)), impl.ErrEarly},
			{"just ripe", coinWith(50, 0, 5, max(next-2, 0), next >= 2, ruleOf(1)), impl.OK},
			{"not ripe", coinWith(50, 0, 5, next-1, true, ruleOf(1)), impl.ErrEarly},
		} {
			s := stateOf(tip, height, []impl.Coin{coin.coin})
			if got := holdPool(t, coin.name, l, s, pool, []int64{1}, []int64{0, 1}); got != coin.code {
				t.Errorf("%s at %d: %d, want %d", coin.name, height, got, coin.code)
			}
			added := impl.PoolResult{Code: coin.code, Pool: pool}
			if coin.code != impl.OK {
				added.Pool = nil
			}
			if r := impl.AddPool(l, s, nil, 1); !samePools(r, added) {
				t.Errorf("%s at %d: %v, want %v", coin.name, height, r, added)
			}
		}
	}
}

// What bars one of a kind: TakeMembers by the state's members, with each of its codes.
func TestMembersOfAPool(t *testing.T) {
	l := ledgerBy(by("join 7 50:0 100=1_of_1", 1), by("join 8 50:1 100=1_of_1", 1), by("leave 7 50:2 90=1_of_1", 1, 7), by("pay 50:3 9=1_of_1", 1))
	join, other, leave, pays := int64(1), int64(2), int64(3), int64(4)
	eight := manyMembers(8)
	for i := range eight {
		eight[i].Ref.Tx += 20
	}
	holding := slices.Clone(eight)
	holding[3].Ref = impl.Ref{Tx: 50, At: 0}
	paid := slices.Clone(eight)
	paid[3].Ref = impl.Ref{Tx: 50, At: 3}
	for _, row := range []struct {
		name    string
		members []impl.Member
		pool    []int64
		code    int64
	}{
		{"joins", nil, []int64{join}, impl.OK},
		{"joins as the eighth", eight[:7], []int64{join}, impl.OK},
		{"joins as the ninth", eight, []int64{join}, impl.ErrState},
		{"joins for one who loses what it holds", holding, []int64{join}, impl.OK},
		{"joins behind one by whom there is room", paid, []int64{pays, join}, impl.ErrState},
		{"is one", []impl.Member{memberOf(7, 9, 0)}, []int64{join}, impl.ErrState},
		{"is one, and spends what it holds", []impl.Member{memberOf(7, 50, 0)}, []int64{join}, impl.OK},
		{"is one, and spends what another one holds", []impl.Member{memberOf(7, 9, 0), memberOf(8, 50, 0)}, []int64{join}, impl.ErrState},
		{"is one, and who pays spends what it holds", []impl.Member{memberOf(7, 50, 3)}, []int64{pays, join}, impl.ErrState},
		{"another one holds what it would", []impl.Member{memberOf(9, 1, 0)}, []int64{join}, impl.ErrState},
		{"another one holds the like of another number", []impl.Member{memberOf(9, 2, 0)}, []int64{join}, impl.OK},
		{"another one holds the next piece of it", []impl.Member{memberOf(9, 1, 1)}, []int64{join}, impl.OK},
		{"two join", nil, []int64{join, other}, impl.ErrState},
		{"two join, the other way round", nil, []int64{other, join}, impl.ErrState},
		{"leaves", []impl.Member{memberOf(7, 9, 0)}, []int64{leave}, impl.OK},
		{"leaves, of eight", append([]impl.Member{memberOf(7, 9, 0)}, eight[1:]...), []int64{leave}, impl.OK},
		{"leaves and is none", nil, []int64{leave}, impl.ErrState},
		{"leaves and is none, but one holds what it spends", []impl.Member{memberOf(8, 50, 2)}, []int64{leave}, impl.ErrState},
		{"leaves with what it holds", []impl.Member{memberOf(7, 50, 2)}, []int64{leave}, impl.OK},
		{"leaves behind one who pays", []impl.Member{memberOf(7, 9, 0)}, []int64{pays, leave}, impl.OK},
		{"leaves behind one who spends what it holds", []impl.Member{memberOf(7, 50, 3)}, []int64{pays, leave}, impl.ErrState},
		{"leaves behind one who spends what another one holds", []impl.Member{memberOf(7, 50, 2), memberOf(8, 50, 3)}, []int64{pays, leave}, impl.OK},
		{"leaves ahead of one who spends what it holds", []impl.Member{memberOf(7, 50, 3)}, []int64{leave, pays}, impl.OK},
		{"leaves behind one who joined", nil, []int64{join, leave}, impl.ErrState},
		{"leaves behind another one who joined", []impl.Member{memberOf(7, 9, 0)}, []int64{other, leave}, impl.ErrState},
		{"joins behind one who leaves", []impl.Member{memberOf(7, 9, 0)}, []int64{leave, other}, impl.ErrState},
		{"joins again behind its leave", []impl.Member{memberOf(7, 9, 0)}, []int64{leave, join}, impl.ErrState},
		{"pays behind one who joins", nil, []int64{join, pays}, impl.OK},
		{"pays ahead of one who joins", nil, []int64{pays, join}, impl.OK},
	} {
		s := stateOf(59, 4, purseOf(), row.members...)
		if got := holdPool(t, row.name, l, s, row.pool, []int64{1, 2, 3, 4}, []int64{9}); got != row.code {
			t.Errorf("%s: %d, want %d", row.name, got, row.code)
		}
	}
}

// Whatever two stand in a pool, and whatever is added or favoured.
func TestAllShortPools(t *testing.T) {
	m := newMarket()
	listsOf(m.all(), 2, func(pool []int64) {
		holdPool(t, "a short one", m.ledger, m.state, pool, m.all(), []int64{9})
	})
	some := m.ids("first both second held7 join9 join10 leave7 leave8 unsigned")
	listsOf(some, 3, func(pool []int64) {
		holdPool(t, "a short one", m.ledger, m.state, pool, some, []int64{9})
	})
}

func TestRandomPools(t *testing.T) {
	dice := rand.New(rand.NewSource(14))
	m := newMarket()
	codes := map[int64]int{}
	for range 1500 {
		var pool []int64
		for range dice.Intn(10) {
			pool = append(pool, m.all()[dice.Intn(len(m.names)+3)])
		}
		if dice.Intn(4) > 0 && len(pool) <= 8 {
			pool = impl.TrimPool(m.ledger, m.state, pool).Pool
		}
		ids := []int64{m.all()[dice.Intn(len(m.names)+3)], 1 + dice.Int63n(int64(len(m.names)))}
		codes[holdPool(t, "a random one", m.ledger, m.state, pool, ids, []int64{9})]++
	}
	if codes[impl.OK] < 500 || codes[impl.ErrMany] == 0 {
		t.Error(codes)
	}
}

// What is added.

func TestAddPool(t *testing.T) {
	m := newMarket()
	for _, row := range []struct {
		pool string
		id   string
		code int64
	}{
		{"", "first", impl.OK}, {"first", "second", impl.OK}, {"second third", "first", impl.OK}, {"held7 first", "join9", impl.OK},
		{"first", "first", impl.ErrTaken}, {"first", "firstToo", impl.ErrTaken}, {"second first", "both", impl.ErrTaken},
		{"first", "text", impl.ErrText}, {"first", "block", impl.ErrText}, {"first", "ofFirst", impl.ErrNone},
		{"first", "unripe", impl.ErrEarly}, {"first", "after6", impl.ErrEarly}, {"first", "unsigned", impl.ErrSign}, {"second", "tooMuch", impl.ErrValue},
		{"first", "join7", impl.ErrState}, {"join9", "join10", impl.ErrState}, {"held7", "leave7", impl.ErrState}, {"held8", "leave7", impl.OK},
	} {
		pool, id := m.ids(row.pool), m.id(row.id)
		want := impl.PoolResult{Code: row.code}
		if row.code == impl.OK {
			want.Pool = append(slices.Clone(pool), id)
		}
		if r := impl.AddPool(m.ledger, m.state, pool, id); !samePools(r, want) {
			t.Errorf("%s to %q: %v, want %v", row.id, row.pool, r, want)
		}
	}
	for _, id := range []int64{math.MinInt64, -1, 0, int64(len(m.names) + 1), 60, 61, math.MaxInt64} {
		for _, pool := range [][]int64{nil, m.ids("first")} {
			if r := impl.AddPool(m.ledger, m.state, pool, id); !samePools(r, impl.PoolResult{Code: impl.ErrRange}) {
				t.Errorf("%d to %v: %v", id, pool, r)
			}
		}
	}
}

// A pool of 8 is full: one that is right is one too many, and one that is wrong is wrong.
func TestAddToAFullPool(t *testing.T) {
	m := newMarket()
	full := m.ids("first second third ripe after5 held7 held8 fourth")
	seven := full[:7]
	if len(full) != impl.MaxPool || impl.PoolFault(m.ledger, m.state, full) != impl.OK {
		t.Fatal(full)
	}
	for _, row := range []struct {
		id   string
		code int64
	}{
		{"text", impl.ErrText}, {"unsigned", impl.ErrSign}, {"tooMuch", impl.ErrValue}, {"unripe", impl.ErrEarly}, {"ofFirst", impl.ErrNone},
		{"first", impl.ErrTaken}, {"fourth", impl.ErrTaken}, {"join9", impl.ErrTaken}, {"leave7", impl.ErrTaken},
	} {
		if r := impl.AddPool(m.ledger, m.state, full, m.id(row.id)); !samePools(r, impl.PoolResult{Code: row.code}) {
			t.Errorf("%s: %v, want %d", row.id, r, row.code)
		}
	}
	if r := impl.AddPool(m.ledger, m.state, full, 0); !samePools(r, impl.PoolResult{Code: impl.ErrRange}) {
		t.Error(r)
	}
	// ErrState of one that clashes with none, and then one that is right.
	m.ledger = impl.NoteText(m.ledger, "join 7 52:0 100=1_of_1").Ledger
	m.ledger = impl.NoteText(m.ledger, "pay 52:0 100=1_of_1").Ledger
	wrong, right := int64(len(m.ledger.Texts)-1), int64(len(m.ledger.Texts))
	for _, id := range []int64{wrong, right} {
		m.ledger = impl.SignId(m.ledger, 1, id).Ledger
	}
	m.state.Coins[slices.IndexFunc(m.state.Coins, func(coin impl.Coin) bool { return coin.Ref.Tx == 52 })].Mined = false
	if r := impl.AddPool(m.ledger, m.state, full, wrong); !samePools(r, impl.PoolResult{Code: impl.ErrState}) {
		t.Error(r)
	}
	if r := impl.AddPool(m.ledger, m.state, full, right); !samePools(r, impl.PoolResult{Code: impl.ErrMany}) {
		t.Error(r)
	}
	if r := impl.AddPool(m.ledger, m.state, seven, right); !samePools(r, impl.PoolResult{Pool: append(slices.Clone(seven), right)}) {
		t.Error(r)
	}
	holdPool(t, "a full one", m.ledger, m.state, full, m.all(), []int64{9})
}

// What is favoured.

func TestFavorPool(t *testing.T) {
	m := newMarket()
	for _, row := range []struct {
		pool, id   string
		gone, left string
	}{
		{"", "first", "", "first"},
		{"second", "first", "", "second first"},
		{"first", "firstToo", "first", "firstToo"},
		{"third first second", "firstToo", "first", "third second firstToo"},
		{"second third first ripe", "both", "second first", "third ripe both"},
		{"first second", "both", "first second", "both"},
		{"both third", "first", "both", "third first"},
		{"first second", "first", "first", "second first"},
		{"first second", "second", "second", "first second"},
		{"first", "first", "first", "first"},
		{"third first", "join9", "third", "first join9"},
		{"join9 first", "third", "join9", "first third"},
		{"join9 first", "join9", "join9", "first join9"},
		{"leave7 held7", "fourth", "leave7", "held7 fourth"},
		{"first leave7", "join10", "leave7", "first join10"},
		{"held8 first", "leave8", "held8", "first leave8"},
		{"leave8 first", "held8", "leave8", "first held8"},
		{"held7 first", "join7again", "held7", "first join7again"},
		{"first second third fourth ripe after5 held7 held8", "both", "first second", "third fourth ripe after5 held7 held8 both"},
		{"first second third fourth ripe after5 held7 held8", "firstToo", "first", "second third fourth ripe after5 held7 held8 firstToo"},
		{"first second third fourth ripe after5 held7 held8", "ripe", "ripe", "first second third fourth after5 held7 held8 ripe"},
		{"first second third fourth ripe after5 held7 held8", "join9", "third", "first second fourth ripe after5 held7 held8 join9"},
	} {
		want := impl.PoolResult{Gone: m.ids(row.gone), Pool: m.ids(row.left)}
		if r := impl.FavorPool(m.ledger, m.state, m.ids(row.pool), m.id(row.id)); !samePools(r, want) {
			t.Errorf("%s in %q: %v, want %v", row.id, row.pool, r, want)
		}
		holdPool(t, row.pool, m.ledger, m.state, m.ids(row.pool), m.all(), []int64{9})
	}
}

// With a code nothing is told of who would have gone.
func TestWhatIsFavouredAndRefused(t *testing.T) {
	m := newMarket()
	for _, row := range []struct {
		pool, id string
		code     int64
	}{
		{"first", "text", impl.ErrText}, {"first", "block", impl.ErrText},
		{"first", "unsigned", impl.ErrSign}, {"first", "tooMuch", impl.ErrValue}, {"both", "tooMuch", impl.ErrValue}, {"first", "ofFirst", impl.ErrNone},
		{"first", "unripe", impl.ErrEarly}, {"first", "after6", impl.ErrEarly}, {"leave7", "unsignedLeave", impl.ErrSign},
		{"third", "join7", impl.ErrState}, {"third", "leave30", impl.ErrState}, {"join9 fourth", "join10", impl.ErrState},
		{"held7 fourth", "leave7", impl.ErrState}, {"leave7 held7", "leave7", impl.ErrState}, {"join9", "leave7", impl.ErrState},
		{"leave8 third", "join9", impl.ErrState}, {"leave8", "join10", impl.ErrState},
	} {
		if r := impl.FavorPool(m.ledger, m.state, m.ids(row.pool), m.id(row.id)); !samePools(r, impl.PoolResult{Code: row.code}) {
			t.Errorf("%s in %q: %v, want %d", row.id, row.pool, r, row.code)
		}
		holdPool(t, row.pool, m.ledger, m.state, m.ids(row.pool), m.all(), []int64{9})
	}
	for _, id := range []int64{math.MinInt64, -1, 0, int64(len(m.names) + 1), 60, 61, math.MaxInt64} {
		for _, pool := range [][]int64{nil, m.ids("first")} {
			if r := impl.FavorPool(m.ledger, m.state, pool, id); !samePools(r, impl.PoolResult{Code: impl.ErrRange}) {
				t.Errorf("%d in %v: %v", id, pool, r)
			}
		}
	}
	full := stall(9, 20)
	if r := impl.FavorPool(full.ledger, full.state, manyTxs(8), 9); !samePools(r, impl.PoolResult{Code: impl.ErrMany}) {
		t.Error(r)
	}
	if r := impl.FavorPool(full.ledger, full.state, manyTxs(8), 1); !samePools(r, impl.PoolResult{Gone: []int64{1}, Pool: []int64{2, 3, 4, 5, 6, 7, 8, 1}}) {
		t.Error(r)
	}
}

// What is trimmed.

func TestTrimPool(t *testing.T) {
	m := newMarket()
	for _, row := range []struct{ pool, gone, left string }{
		{"", "", ""},
		{"first", "", "first"},
		{"first second third held7 join10", "", "first second third held7 join10"},
		{"leave7 held7 first", "", "leave7 held7 first"},
		{"text first second", "text", "first second"},
		{"first unsigned second", "unsigned", "first second"},
		{"first second unripe", "unripe", "first second"},
		{"text block unsigned tooMuch ofFirst unripe after6 leave30", "text block unsigned tooMuch ofFirst unripe after6 leave30", ""},
		{"join7", "join7", ""},

		// Wrong only beside one ahead which stays.
		{"first firstToo", "firstToo", "first"},
		{"firstToo first", "first", "firstToo"},
		{"first first", "first", "first"},
		{"first first first second first", "first first first", "first second"},
		{"first second both third", "both", "first second third"},
		{"both first second third", "first second", "both third"},
		{"join9 join10 first", "join10", "join9 first"},
		{"leave8 second join9 first", "join9", "leave8 second first"},
		{"held7 leave7 first", "leave7", "held7 first"},
		{"leave7 held7 leave7", "leave7", "leave7 held7"},
		{"first ofFirst", "ofFirst", "first"},

		// Right since one ahead goes.
		{"unsigned first", "unsigned", "first"},
		{"tooMuch firstToo first", "tooMuch first", "firstToo"},
		{"first both second", "both", "first second"},
		{"firstToo both second first", "both first", "firstToo second"},
		{"join7 third", "join7", "third"},
		{"leave30 join9", "leave30", "join9"},
		{"join7 leave30 join10 join9", "join7 leave30 join9", "join10"},
		{"held8 leave8 join9", "leave8", "held8 join9"},
		{"join7again held7 join10", "held7 join10", "join7again"},
		{"third join9 join10", "join9", "third join10"},
		{"unsignedLeave leave7", "unsignedLeave", "leave7"},
		{"first second third fourth ripe after5 held7 held8", "", "first second third fourth ripe after5 held7 held8"},
		{"first firstToo both second third fourth join9 leave7", "firstToo both join9 leave7", "first second third fourth"},
	} {
		pool := m.ids(row.pool)
		want := impl.PoolResult{Gone: m.ids(row.gone), Pool: m.ids(row.left)}
		if r := impl.TrimPool(m.ledger, m.state, pool); !samePools(r, want) {
			t.Errorf("%q: %v, want %v", row.pool, r, want)
		}
		holdPool(t, row.pool, m.ledger, m.state, pool, m.all(), []int64{9})
	}
	wild := []int64{0, 1, math.MaxInt64, 61, 3, -1, math.MinInt64, 60}
	if r := impl.TrimPool(m.ledger, m.state, wild); !samePools(r, impl.PoolResult{Gone: []int64{0, math.MaxInt64, 61, -1, math.MinInt64, 60}, Pool: []int64{1, 3}}) {
		t.Error(r)
	}
	// What is too long is not trimmed, even where all of it but one would go.
	if r := impl.TrimPool(m.ledger, m.state, append(wild, 1)); !samePools(r, impl.PoolResult{Code: impl.ErrMany}) {
		t.Error(r)
	}
}

// What is mined.

func TestMineBlock(t *testing.T) {
	m := stall(8, 20)
	for _, miner := range []int64{math.MinInt64, -1, 0, 1, 2, 998, 999, 1000, math.MaxInt64} {
		want := impl.BlockResult{Code: impl.ErrRange}
		if miner >= 1 && miner <= 999 {
			want = impl.BlockResult{Block: blockOf(60, 5, miner, 3, 1)}
		}
		if r := impl.MineBlock(m.ledger, m.state, []int64{3, 1}, miner); !sameBlockResults(r, want) {
			t.Errorf("the miner %d: %v, want %v", miner, r, want)
		}
	}
	for n := range 9 {
		pool := manyTxs(n)
		slices.Reverse(pool)
		want := impl.BlockResult{Block: blockOf(60, 5, 7, pool[:min(n, 6)]...)}
		if r := impl.MineBlock(m.ledger, m.state, pool, 7); !sameBlockResults(r, want) {
			t.Errorf("%d: %v, want %v", n, r, want)
		}
		holdPool(t, fmt.Sprint(n), m.ledger, m.state, pool, nil, []int64{0, 1, 999, 1000})
	}
	if r := impl.MineBlock(impl.Ledger{}, impl.State{}, nil, 3); !sameBlockResults(r, impl.BlockResult{Block: blockOf(0, 1, 3)}) || impl.BlockText(r.Block).Text != "block 0 1 3 -" {
		t.Error(r)
	}
}

func TestMineAtTheTop(t *testing.T) {
	m := stall(2, 20)
	m.state.Height = 39
	if r := impl.MineBlock(m.ledger, m.state, []int64{2}, 3); !sameBlockResults(r, impl.BlockResult{Block: blockOf(60, 40, 3, 2)}) {
		t.Error(r)
	}
	m.state.Height = 40
	for _, pool := range [][]int64{nil, {2}, {1, 2}} {
		if r := impl.MineBlock(m.ledger, m.state, pool, 3); !sameBlockResults(r, impl.BlockResult{Code: impl.ErrMany}) {
			t.Error(r)
		}
		// The miner is asked ahead of the height, and the pool ahead of both.
		if r := impl.MineBlock(m.ledger, m.state, pool, 1000); !sameBlockResults(r, impl.BlockResult{Code: impl.ErrRange}) {
			t.Error(r)
		}
		if r := impl.MineBlock(m.ledger, m.state, append(slices.Clone(pool), 2, 2), 1000); !sameBlockResults(r, impl.BlockResult{Code: impl.ErrTaken}) {
			t.Error(r)
		}
	}
	// The other functions answer there as well.
	if r := impl.AddPool(m.ledger, m.state, []int64{2}, 1); !samePools(r, impl.PoolResult{Pool: []int64{2, 1}}) {
		t.Error(r)
	}
	if r := impl.FeesOf(m.ledger, m.state, []int64{2, 1}); r != (impl.IntResult{Value: 30}) {
		t.Error(r)
	}
}

// A block that is mined of a pool spends its fees, and what is left of the pool is trimmed.
func TestAPoolFromBlockToBlock(t *testing.T) {
	m := stall(8, 20)
	pool := manyTxs(8)
	block := impl.MineBlock(m.ledger, m.state, pool, 7).Block
	noted := impl.NoteText(m.ledger, impl.BlockText(block).Text)
	r := impl.ConnectBlock(noted.Ledger, m.state, noted.Id)
	if r.Code != impl.OK || r.Fees != 6*15 || impl.OwnedBy(r.State.Coins, 2).Value != 6*5 || impl.OwnedBy(r.State.Coins, 7).Value != 1090 {
		t.Fatal(r)
	}
	left := impl.TrimPool(noted.Ledger, r.State, pool)
	if !samePools(left, impl.PoolResult{Gone: manyTxs(6), Pool: []int64{7, 8}}) {
		t.Fatal(left)
	}
	if next := impl.MineBlock(noted.Ledger, r.State, left.Pool, 9); !sameBlockResults(next, impl.BlockResult{Block: blockOf(9, 6, 9, 7, 8)}) {
		t.Error(next)
	}
}

// Each pool of the market that has no fault is connected: there is room, and no coin has one of its numbers.
func TestMinedPoolsAreConnected(t *testing.T) {
	m := newMarket()
	count := 0
	for _, row := range marketRows(m) {
		if row.code != impl.OK {
			continue
		}
		block := impl.MineBlock(m.ledger, m.state, row.pool, 9).Block
		noted := impl.NoteText(m.ledger, impl.BlockText(block).Text)
		if !isRoomFor(noted.Ledger, m.state, noted.Id) {
			t.Fatalf("%s: there is no room", row.name)
		}
		r := holdConnectAgainstPlain(t, noted.Ledger, m.state, noted.Id)
		if fees := impl.FeesOf(m.ledger, m.state, block.Txs); r.Code != impl.OK || r.Fees != fees.Value || fees.Code != impl.OK {
			t.Errorf("%s: %v, the fees of the pool are %v", row.name, r, fees)
		}
		if left := impl.TrimPool(noted.Ledger, r.State, block.Txs); !samePools(left, impl.PoolResult{Gone: block.Txs}) {
			t.Errorf("%s: behind the block there is left %v", row.name, left)
		}
		count++
	}
	if count < 15 {
		t.Errorf("there were but %d", count)
	}
}

// What the promise leaves out: a pool without a fault whose block has no room, too great a value, or a number of a coin.
func TestPoolsWhoseBlocksAreNotConnected(t *testing.T) {
	split := by("pay 10:1 1=1_of_38 1=1_of_38", 38)
	for _, row := range []struct {
		name string
		text signedText
		s    impl.State
		code int64
	}{
		{"no room", split, stateOf(3, 20, manyCoinsBut(39)), impl.ErrMany},
		{"just room", split, stateOf(3, 20, manyCoinsBut(38)), impl.OK},
		{"too great a value", by("pay 50:0 999=1_of_1", 1), richState(), impl.ErrValue},
		{"as great as may be", by("pay 50:0 1000=1_of_1", 1), richState(), impl.OK},
		{"a coin of the number", by("pay 50:0 1000=1_of_1", 1), stateOf(0, 0, append([]impl.Coin{coinOf(1, 0, 5, 2)}, purseOf()...)), impl.ErrTaken},
		{"a coin of the block", by("pay 50:0 1000=1_of_1", 1), stateOf(0, 0, append([]impl.Coin{coinOf(2, 0, 5, 2)}, purseOf()...)), impl.ErrTaken},
	} {
		l := ledgerBy(row.text)
		if code := holdPool(t, row.name, l, row.s, []int64{1}, []int64{1}, []int64{9}); code != impl.OK {
			t.Errorf("%s: the pool has the fault %d", row.name, code)
		}
		noted := impl.NoteText(l, impl.BlockText(impl.MineBlock(l, row.s, []int64{1}, 9).Block).Text)
		r := impl.ConnectBlock(noted.Ledger, row.s, noted.Id)
		if r.Code != row.code || isRoomFor(noted.Ledger, row.s, noted.Id) != (row.code == impl.OK) {
			t.Errorf("%s: %v, want %d", row.name, r, row.code)
		}
	}
}

// What is told of fees.

func TestFeesOf(t *testing.T) {
	m := newMarket()
	for _, row := range []struct {
		pool string
		fees int64
	}{
		{"", 0}, {"second", 0}, {"first", 100}, {"firstToo", 50}, {"both", 500}, {"first second", 100}, {"first second third", 101},
		{"third first leave7", 103}, {"join9 first fourth", 606}, {"first second third fourth ripe after5 held7 held8", 107}, {"leave8", 0},
	} {
		if r := impl.FeesOf(m.ledger, m.state, m.ids(row.pool)); r != (impl.IntResult{Value: row.fees}) {
			t.Errorf("%q: %v, want %d", row.pool, r, row.fees)
		}
	}
	// The fees of a pool may be above what a coin is worth.
	rich := stall(8, 1000000)
	if r := impl.FeesOf(rich.ledger, rich.state, manyTxs(8)); r != (impl.IntResult{Value: 7999960}) {
		t.Error(r)
	}
	holdPool(t, "a rich one", rich.ledger, rich.state, manyTxs(8), []int64{1}, []int64{1})
}

// A walk: transactions come that may be wrong, are added or favoured, and blocks are mined of what there is.

type poolWalk struct {
	walk
	pool  []int64
	mined int
}

func (w *poolWalk) step(t *testing.T) {
	t.Helper()
	if w.dice.Intn(3) == 0 {
		w.mine(t)
		return
	}
	coins := slices.DeleteFunc(slices.Clone(w.state.Coins), func(coin impl.Coin) bool {
		return !plainIsRipe(coin, plainNextHeight(w.state)) && w.often()
	})
	if len(coins) == 0 {
		w.mine(t)
		return
	}
	tx := w.randomTx(coins)
	id := w.note(impl.TxText(tx).Text)
	if id == 0 {
		return
	}
	w.sign(id, tx, coins)
	other := 1 + w.dice.Int63n(int64(len(w.ledger.Texts)))
	if code := holdPool(t, "a walk", w.ledger, w.state, w.pool, []int64{id, other}, []int64{9}); code != impl.OK {
		t.Fatalf("the pool %v has the fault %d", w.pool, code)
	}
	r := impl.AddPool(w.ledger, w.state, w.pool, id)
	w.codes[r.Code]++
	if r.Code == impl.ErrTaken {
		r = impl.FavorPool(w.ledger, w.state, w.pool, id)
	}
	if r.Code == impl.OK {
		w.pool = r.Pool
	}
}

func (w *poolWalk) mine(t *testing.T) {
	t.Helper()
	block := impl.MineBlock(w.ledger, w.state, w.pool, 1+w.dice.Int63n(5))
	if w.state.Height == impl.MaxHeight || block.Code != impl.OK {
		t.Fatalf("at %d: %v", w.state.Height, block)
	}
	id := w.note(impl.BlockText(block.Block).Text)
	if id == 0 {
		return
	}
	r := impl.ConnectBlock(w.ledger, w.state, id)
	// No state of a chain has a coin of a number that is noted behind all its own.
	if r.Code != impl.OK && isRoomFor(w.ledger, w.state, id) {
		t.Fatalf("the block %v of the pool %v: %d", block.Block, w.pool, r.Code)
	}
	if r.Code != impl.OK {
		w.pool = nil
		return
	}
	w.state, w.ids, w.mined = r.State, append(w.ids, id), w.mined+len(block.Block.Txs)
	pool := w.pool
	w.pool = impl.TrimPool(w.ledger, w.state, pool).Pool
	holdPool(t, "behind a block", w.ledger, w.state, pool, nil, []int64{9})
	for _, tx := range block.Block.Txs {
		if slices.Contains(w.pool, tx) {
			t.Fatalf("%d is in the block %v, and still in the pool %v", tx, block.Block, w.pool)
		}
	}
}

func TestWalksOfPools(t *testing.T) {
	dice := rand.New(rand.NewSource(15))
	codes := map[int64]int{}
	mined := 0
	for range 40 {
		w := poolWalk{walk: walk{dice: dice, codes: codes}}
		for len(w.ledger.Texts) < 58 && len(w.ids) < 38 {
			w.step(t)
		}
		mined += w.mined
		holdFoldAgainstPlain(t, w.ledger, w.ids)
	}
	for _, code := range []int64{impl.OK, impl.ErrNone, impl.ErrSign, impl.ErrTaken, impl.ErrValue, impl.ErrEarly, impl.ErrState} {
		if codes[code] == 0 {
			t.Errorf("no walk came to the code %d: %v", code, codes)
		}
	}
	if mined < 200 {
		t.Errorf("but %d were mined", mined)
	}
}

// Promise 1: memory, nil and empty, the same again.

type poolCall struct {
	name string
	call func(l impl.Ledger, s impl.State, pool []int64) any
}

// poolCalls are such that of the pool "first second third" all lists are told that there may be.
func poolCalls(m market) []poolCall {
	return []poolCall{
		{"PoolFault", func(l impl.Ledger, s impl.State, pool []int64) any { return impl.PoolFault(l, s, pool) }},
		{"AddPool", func(l impl.Ledger, s impl.State, pool []int64) any { return impl.AddPool(l, s, pool, m.id("leave7")) }},
		{"AddPool, refused", func(l impl.Ledger, s impl.State, pool []int64) any { return impl.AddPool(l, s, pool, m.id("both")) }},
		{"FavorPool", func(l impl.Ledger, s impl.State, pool []int64) any { return impl.FavorPool(l, s, pool, m.id("both")) }},
		{"FavorPool, again", func(l impl.Ledger, s impl.State, pool []int64) any { return impl.FavorPool(l, s, pool, m.id("first")) }},
		{"FavorPool, refused", func(l impl.Ledger, s impl.State, pool []int64) any {
			return impl.FavorPool(l, s, pool, m.id("tooMuch"))
		}},
		{"TrimPool", func(l impl.Ledger, s impl.State, pool []int64) any { return impl.TrimPool(l, s, pool) }},
		{"TrimPool, where some goes", func(l impl.Ledger, s impl.State, pool []int64) any {
			return impl.TrimPool(impl.Ledger{Texts: l.Texts, Signs: l.Signs[1:]}, s, pool)
		}},
		{"MineBlock", func(l impl.Ledger, s impl.State, pool []int64) any { return impl.MineBlock(l, s, pool, 9) }},
		{"FeesOf", func(l impl.Ledger, s impl.State, pool []int64) any { return impl.FeesOf(l, s, pool) }},
	}
}

func tellCoin(coin impl.Coin) string {
	return fmt.Sprint(coin.Ref, coin.Out.Value, coin.Out.Rule.Need, coin.Out.Rule.After, len(coin.Out.Rule.Keys), coin.Height, coin.Mined)
}

func argumentMemories(l impl.Ledger, s impl.State, pool []int64) []memory {
	parts := []memory{
		memoryOf(l.Texts, "spoilt", tellWhole), memoryOf(l.Signs, impl.Sign{Key: -9, Id: -9}, tellWhole),
		memoryOf(s.Coins, coinOf(-9, -9, -9, -9), tellCoin), memoryOf(s.Members, memberOf(-9, -9, -9), tellWhole), memoryOf(pool, -9, tellWhole),
	}
	for _, coin := range s.Coins[:cap(s.Coins)] {
		parts = append(parts, memoryOf(coin.Out.Rule.Keys, -9, tellWhole))
	}
	return parts
}

func poolMemories(answer any) []memory {
	switch r := answer.(type) {
	case impl.PoolResult:
		return []memory{memoryOf(r.Gone, -9, tellWhole), memoryOf(r.Pool, -9, tellWhole)}
	case impl.BlockResult:
		return []memory{memoryOf(r.Block.Txs, -9, tellWhole)}
	}
	return nil
}

// roomyArguments have marks behind all their lists that nobody may write to.
func roomyArguments(m market, pool []int64) (impl.Ledger, impl.State, []int64) {
	l, _, _ := roomy(m.ledger)
	return l, roomyState(m.state), roomyNumbers(pool)
}

func TestPoolsAreNotChanged(t *testing.T) {
	m := newMarket()
	for _, row := range append(marketRows(m), poolRow{"too many", manyTxs(9), impl.ErrMany}) {
		l, s, pool := roomyArguments(m, row.pool)
		parts := argumentMemories(l, s, pool)
		was := toldOf(parts)
		for _, call := range poolCalls(m) {
			call.call(l, s, pool)
			if !slices.Equal(toldOf(parts), was) {
				t.Fatalf("%s: %s changed an argument", row.name, call.name)
			}
		}
		for _, id := range m.all() {
			impl.AddPool(l, s, pool, id)
			impl.FavorPool(l, s, pool, id)
			impl.MineBlock(l, s, pool, id)
		}
		if !slices.Equal(toldOf(parts), was) {
			t.Fatalf("%s: an argument was changed", row.name)
		}
	}
}

func TestAnswersOfPoolsShareNoMemory(t *testing.T) {
	m := newMarket()
	lists := 0
	for _, call := range poolCalls(m) {
		l, s, pool := roomyArguments(m, m.ids("first second third"))
		one, two := poolMemories(call.call(l, s, pool)), poolMemories(call.call(l, s, pool))
		for _, part := range one {
			if part.told() != "" {
				lists++
			}
		}
		if !slices.Equal(toldOf(one), toldOf(two)) {
			t.Fatalf("%s: %v, and then %v", call.name, toldOf(one), toldOf(two))
		}
		parts := slices.Concat(one, two, argumentMemories(l, s, pool))
		for i, part := range parts {
			was := toldOf(parts)
			part.spoil()
			now := toldOf(parts)
			for j := range parts {
				if i != j && was[j] != now[j] {
					t.Errorf("%s: who writes to one list writes to another one: %s, it was %s", call.name, now[j], was[j])
				}
			}
		}
	}
	if lists != 9 {
		t.Errorf("%d lists were told", lists)
	}
}

func TestEmptyAndNilOfPoolsAreTheSame(t *testing.T) {
	hollow := impl.State{Coins: []impl.Coin{}, Members: []impl.Member{}}
	for _, l := range []impl.Ledger{{}, {Texts: []string{}, Signs: []impl.Sign{}}} {
		for _, s := range []impl.State{{}, hollow} {
			for _, pool := range [][]int64{nil, {}} {
				if code := holdPool(t, "nothing", l, s, pool, []int64{-1, 0, 1, 60}, []int64{0, 1}); code != impl.OK {
					t.Error(code)
				}
				if r := impl.TrimPool(l, s, pool); !samePools(r, impl.PoolResult{}) {
					t.Error(r)
				}
				if r := impl.FeesOf(l, s, pool); r != (impl.IntResult{}) {
					t.Error(r)
				}
			}
		}
	}
	m := newMarket()
	for _, pool := range [][]int64{nil, {}} {
		if r := impl.AddPool(m.ledger, m.state, pool, 1); !samePools(r, impl.PoolResult{Pool: []int64{1}}) {
			t.Error(r)
		}
		if r := impl.FavorPool(m.ledger, m.state, pool, 1); !samePools(r, impl.PoolResult{Pool: []int64{1}}) {
			t.Error(r)
		}
		if r := impl.MineBlock(m.ledger, m.state, pool, 1); !sameBlockResults(r, impl.BlockResult{Block: blockOf(59, 5, 1)}) {
			t.Error(r)
		}
	}
}

// What was asked in between of other pools, and what was refused, leaves no trace.
func TestPoolsHangOnTheArgumentsAlone(t *testing.T) {
	m := newMarket()
	var first []string
	for _, call := range poolCalls(m) {
		first = append(first, tellWhole(call.call(m.ledger, m.state, m.ids("first second third"))))
	}
	other := stall(9, 20)
	for i := range int64(20) {
		impl.AddPool(other.ledger, other.state, manyTxs(int(i)), 9)
		impl.FavorPool(m.ledger, m.state, m.ids("held7 leave8"), i)
		impl.TrimPool(m.ledger, m.state, []int64{i, i + 1, i + 2, 1, 3, 5})
		impl.MineBlock(m.ledger, m.state, m.ids("join9"), i)
		for at, call := range poolCalls(m) {
			if told := tellWhole(call.call(m.ledger, m.state, m.ids("first second third"))); told != first[at] {
				t.Fatalf("%s: %s, and it was %s", call.name, told, first[at])
			}
		}
	}
}

func TestConstantsOfPools(t *testing.T) {
	if impl.MaxPool != 8 {
		t.Error(impl.MaxPool)
	}
}
