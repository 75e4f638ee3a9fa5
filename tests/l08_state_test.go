package tests

import (
	"fmt"
	"math"
	"math/rand"
	"slices"
	"testing"

	"loop.example/g00304/impl"
)

// The plain reading of chapter 8: what the program is held against. It goes from list to list, and takes nothing back: what failed is forgotten.

func plainStateFault(s impl.State) int64 {
	switch {
	case s.Tip < 0 || s.Tip > 60 || s.Height < 0 || s.Height > 40:
		return impl.ErrRange
	case s.Tip == 0 && s.Height != 0:
		return impl.ErrForm
	case s.Tip != 0 && s.Height == 0:
		return impl.ErrForm
	}
	if code := plainCoinsFault(s.Coins); code != impl.OK {
		return code
	}
	return plainMembersFault(s.Members)
}

func plainConnect(l impl.Ledger, s impl.State, id int64) impl.StateResult {
	fail := func(code int64) impl.StateResult { return impl.StateResult{Code: code} }
	if code := plainFault(l); code != impl.OK {
		return fail(code)
	}
	if code := plainStateFault(s); code != impl.OK {
		return fail(code)
	}
	block := plainBlockIn(l, id)
	if block.Code != impl.OK {
		return fail(block.Code)
	}
	if block.Block.Prev != s.Tip || block.Block.Height != s.Height+1 {
		return fail(impl.ErrState)
	}
	height := block.Block.Height
	coins, members := copyCoins(s.Coins), slices.Clone(s.Members)
	undo := impl.Undo{Id: id, Members: slices.Clone(s.Members)}
	var fees int64
	for _, tx := range block.Block.Txs {
		read := plainTxIn(l, tx)
		if read.Code != impl.OK {
			return fail(read.Code)
		}
		fee := plainCheck(l, coins, read.Tx, height)
		if fee.Code != impl.OK {
			return fail(fee.Code)
		}
		taken := plainTakeMembers(members, read.Tx, tx)
		if taken.Code != impl.OK {
			return fail(taken.Code)
		}
		undo.Spent = append(undo.Spent, plainSpentBy(coins, read.Tx).Coins)
		spent := plainSpend(coins, read.Tx, tx, height)
		if spent.Code != impl.OK {
			return fail(spent.Code)
		}
		coins, members, fees = spent.Coins, taken.Members, fees+fee.Value
	}
	value := plainReward(height).Value + fees
	if value > 1000000 {
		return fail(impl.ErrValue)
	}
	put := plainPut(coins, id, []impl.Out{outOf(value, block.Block.Miner)}, height, true)
	if put.Code != impl.OK {
		return fail(put.Code)
	}
	return impl.StateResult{Fees: fees, Undo: undo, State: impl.State{Tip: id, Height: height, Coins: put.Coins, Members: members}}
}

func plainDisconnect(l impl.Ledger, s impl.State, u impl.Undo) impl.StateResult {
	fail := func(code int64) impl.StateResult { return impl.StateResult{Code: code} }
	if code := plainFault(l); code != impl.OK {
		return fail(code)
	}
	if code := plainStateFault(s); code != impl.OK {
		return fail(code)
	}
	if s.Tip == 0 || s.Tip != u.Id {
		return fail(impl.ErrState)
	}
	block := plainBlockIn(l, u.Id)
	if block.Code != impl.OK {
		return fail(block.Code)
	}
	if block.Block.Height != s.Height {
		return fail(impl.ErrForm)
	}
	if len(u.Spent) != len(block.Block.Txs) {
		return fail(impl.ErrForm)
	}
	if code := plainMembersFault(u.Members); code != impl.OK {
		return fail(code)
	}
	left := plainTake(s.Coins, refsOf(u.Id, 0))
	if left.Code != impl.OK {
		return fail(left.Code)
	}
	coins := left.Coins
	for i := len(u.Spent) - 1; i >= 0; i-- {
		tx := block.Block.Txs[i]
		read := plainTxIn(l, tx)
		if read.Code != impl.OK {
			return fail(read.Code)
		}
		back := plainUndo(coins, read.Tx, tx, u.Spent[i])
		if back.Code != impl.OK {
			return fail(back.Code)
		}
		coins = back.Coins
	}
	return impl.StateResult{State: impl.State{Tip: block.Block.Prev, Height: s.Height - 1, Coins: coins, Members: u.Members}}
}

func plainFold(l impl.Ledger, ids []int64) impl.StateResult {
	if len(ids) > 40 {
		return impl.StateResult{Code: impl.ErrMany}
	}
	if code := plainFault(l); code != impl.OK {
		return impl.StateResult{Code: code}
	}
	var all impl.StateResult
	for _, id := range ids {
		r := plainConnect(l, all.State, id)
		if r.Code != impl.OK {
			return impl.StateResult{Code: r.Code}
		}
		all.State, all.Fees = r.State, all.Fees+r.Fees
	}
	return all
}

func plainSupply(height int64) impl.IntResult {
	if height < 0 || height > 40 {
		return impl.IntResult{Code: impl.ErrRange}
	}
	var sum int64
	for i := int64(1); i <= height; i++ {
		sum += plainReward(i).Value
	}
	return impl.IntResult{Value: sum}
}

func plainSameStates(a, b impl.State) bool {
	return a.Tip == b.Tip && a.Height == b.Height && plainSameCoins(a.Coins, b.Coins) && plainSameMembers(a.Members, b.Members)
}

func sameUndos(a, b impl.Undo) bool {
	return a.Id == b.Id && slices.EqualFunc(a.Spent, b.Spent, plainSameCoins) && plainSameMembers(a.Members, b.Members)
}

func sameStateResults(a, b impl.StateResult) bool {
	return a.Code == b.Code && a.Fees == b.Fees && sameUndos(a.Undo, b.Undo) && plainSameStates(a.State, b.State)
}

func copyState(s impl.State) impl.State {
	s.Coins, s.Members = copyCoins(s.Coins), slices.Clone(s.Members)
	return s
}

func copyUndo(u impl.Undo) impl.Undo {
	var spent [][]impl.Coin
	for _, list := range u.Spent {
		spent = append(spent, copyCoins(list))
	}
	u.Spent, u.Members = spent, slices.Clone(u.Members)
	return u
}

func stateOf(tip, height int64, coins []impl.Coin, members ...impl.Member) impl.State {
	return impl.State{Tip: tip, Height: height, Coins: coins, Members: members}
}

// holdConnectAgainstPlain asks the promise as well where the block can be connected.
func holdConnectAgainstPlain(t *testing.T, l impl.Ledger, s impl.State, id int64) impl.StateResult {
	t.Helper()
	wasLedger, was := copyLedger(l), copyState(s)
	got, want := impl.ConnectBlock(l, s, id), plainConnect(l, s, id)
	if !sameStateResults(got, want) {
		t.Fatalf("ConnectBlock(%v, %v, %d) = %v, want %v", l, s, id, got, want)
	}
	if !sameLedgers(l, wasLedger) || !plainSameStates(s, was) {
		t.Fatalf("an argument was changed: %v %v", l, s)
	}
	if got.Code == impl.OK {
		holdConnected(t, l, s, got)
	}
	return got
}

// holdConnected: a block that is connected and disconnected leaves all as it was, and behind it there is just so much more as is mined.
func holdConnected(t *testing.T, l impl.Ledger, s impl.State, r impl.StateResult) {
	t.Helper()
	if code := impl.StateFault(r.State); code != impl.OK {
		t.Fatalf("the state behind %d has the fault %d: %v", r.State.Tip, code, r.State)
	}
	more := impl.CoinSum(r.State.Coins).Value - impl.CoinSum(s.Coins).Value
	if more != impl.RewardOf(r.State.Height).Value {
		t.Fatalf("behind %d there is %d more", r.State.Tip, more)
	}
	back := holdDisconnectAgainstPlain(t, l, r.State, r.Undo)
	if !sameStateResults(back, impl.StateResult{State: s}) || !impl.SameStates(back.State, s) {
		t.Fatalf("%d is not taken back: %v, it was %v", r.State.Tip, back, s)
	}
	if again := impl.ConnectBlock(l, back.State, r.State.Tip); !sameStateResults(again, r) {
		t.Fatalf("%d is not connected again: %v, it was %v", r.State.Tip, again, r)
	}
}

func holdDisconnectAgainstPlain(t *testing.T, l impl.Ledger, s impl.State, u impl.Undo) impl.StateResult {
	t.Helper()
	wasLedger, was, wasUndo := copyLedger(l), copyState(s), copyUndo(u)
	got, want := impl.DisconnectBlock(l, s, u), plainDisconnect(l, s, u)
	if !sameStateResults(got, want) {
		t.Fatalf("DisconnectBlock(%v, %v, %v) = %v, want %v", l, s, u, got, want)
	}
	if !sameLedgers(l, wasLedger) || !plainSameStates(s, was) || !sameUndos(u, wasUndo) {
		t.Fatalf("an argument was changed: %v %v %v", l, s, u)
	}
	return got
}

// holdFoldAgainstPlain: behind blocks from the first one on there is just what was mined, and each member holds a coin that is there.
func holdFoldAgainstPlain(t *testing.T, l impl.Ledger, ids []int64) impl.StateResult {
	t.Helper()
	wasLedger, was := copyLedger(l), slices.Clone(ids)
	got, want := impl.FoldBlocks(l, ids), plainFold(l, ids)
	if !sameStateResults(got, want) {
		t.Fatalf("FoldBlocks(%v, %v) = %v, want %v", l, ids, got, want)
	}
	if !sameLedgers(l, wasLedger) || !slices.Equal(ids, was) {
		t.Fatalf("an argument was changed: %v %v", l, ids)
	}
	if got.Code != impl.OK {
		return got
	}
	if sum := impl.CoinSum(got.State.Coins); sum != impl.SupplyTo(int64(len(ids))) {
		t.Fatalf("behind %v there is %v, mined was %v", ids, sum, impl.SupplyTo(int64(len(ids))))
	}
	for _, member := range got.State.Members {
		if impl.CoinAt(got.State.Coins, member.Ref).Code != impl.OK {
			t.Fatalf("behind %v the member %v holds no coin", ids, member)
		}
	}
	return got
}

type signedText struct {
	text string
	keys []int64
}

// ledgerBy notes the texts, and has each of them signed by the keys that stand beside it.
func ledgerBy(rows ...signedText) impl.Ledger {
	var l impl.Ledger
	for i, row := range rows {
		l.Texts = append(l.Texts, row.text)
		for _, key := range row.keys {
			l.Signs = append(l.Signs, impl.Sign{Key: key, Id: int64(i + 1)})
		}
	}
	return l
}

func by(text string, keys ...int64) signedText {
	return signedText{text, keys}
}

// story is a chain of six blocks: the third one has transactions that spend what those ahead in it made, later ones join, leave, spend what is held, and join again.
func story() (impl.Ledger, []int64) {
	l := ledgerBy(
		by("block 0 1 2 -"),
		by("block 1 2 2 -"),
		by("pay 1:0 600=1_of_3 300=2_of_3,4", 2),
		by("join 3 3:0 200=1_of_3 390=1_of_3", 3),
		by("pay 3:1 300=1_of_5_after_5", 3, 4),
		by("block 2 3 7 3+4+5"),
		by("join 4 4:1 150=1_of_4 240=1_of_4", 3),
		by("block 6 4 7 7"),
		by("leave 3 4:0 200=1_of_3", 3),
		by("pay 5:0 290=1_of_6", 5),
		by("block 8 5 8 9+10"),
		by("pay 7:0 149=1_of_4", 4),
		by("join 4 12:0 140=1_of_4", 4),
		by("block 11 6 8 12+13"),
	)
	return l, []int64{1, 2, 6, 8, 11, 14}
}

func minedCoin(id, value, height, miner int64) impl.Coin {
	return coinWith(id, 0, value, height, true, ruleWith(1, 0, miner))
}

// storyStates is what the document says of the story, worked out by hand.
func storyStates() []impl.State {
	one, two := minedCoin(1, 1000, 1, 2), minedCoin(2, 1000, 2, 2)
	six, eight := minedCoin(6, 1110, 3, 7), minedCoin(8, 1000, 4, 7)
	five := coinWith(5, 0, 300, 3, false, ruleWith(1, 5, 5))
	stake, change := coinWith(4, 0, 200, 3, false, ruleOf(3)), coinWith(4, 1, 390, 3, false, ruleOf(3))
	seven, rest := coinWith(7, 0, 150, 4, false, ruleOf(4)), coinWith(7, 1, 240, 4, false, ruleOf(4))
	nine, ten := coinWith(9, 0, 200, 5, false, ruleOf(3)), coinWith(10, 0, 290, 5, false, ruleOf(6))
	eleven, fourteen := minedCoin(11, 1010, 5, 8), minedCoin(14, 1010, 6, 8)
	thirteen := coinWith(13, 0, 140, 6, false, ruleOf(4))
	return []impl.State{
		{},
		stateOf(1, 1, []impl.Coin{one}),
		stateOf(2, 2, []impl.Coin{one, two}),
		stateOf(6, 3, []impl.Coin{two, stake, change, five, six}, memberOf(3, 4, 0)),
		stateOf(8, 4, []impl.Coin{two, stake, five, six, seven, rest, eight}, memberOf(3, 4, 0), memberOf(4, 7, 0)),
		stateOf(11, 5, []impl.Coin{two, six, seven, rest, eight, nine, ten, eleven}, memberOf(4, 7, 0)),
		stateOf(14, 6, []impl.Coin{two, six, rest, eight, nine, ten, eleven, thirteen, fourteen}, memberOf(4, 13, 0)),
	}
}

// Promise 9: chains of several blocks, connected, folded, disconnected and connected again.

func TestAStoryIsConnected(t *testing.T) {
	l, ids := story()
	states := storyStates()
	fees := []int64{0, 0, 110, 0, 10, 10}
	var total int64
	var undos []impl.Undo
	for i, id := range ids {
		r := holdConnectAgainstPlain(t, l, states[i], id)
		if r.Code != impl.OK || r.Fees != fees[i] || !impl.SameStates(r.State, states[i+1]) {
			t.Fatalf("the block %d: %v, want %v", id, r, states[i+1])
		}
		total += r.Fees
		undos = append(undos, r.Undo)
		folded := holdFoldAgainstPlain(t, l, ids[:i+1])
		if !sameStateResults(folded, impl.StateResult{Fees: total, State: states[i+1]}) {
			t.Fatalf("folded up to %d: %v", id, folded)
		}
	}
	s := states[len(ids)]
	for i := len(ids) - 1; i >= 0; i-- {
		r := holdDisconnectAgainstPlain(t, l, s, undos[i])
		if !sameStateResults(r, impl.StateResult{State: states[i]}) {
			t.Fatalf("behind %d: %v, want %v", ids[i], r, states[i])
		}
		s = r.State
	}
	if !impl.SameStates(s, impl.State{}) {
		t.Error("all is taken back:", s)
	}
}

func TestTheUndoOfABlock(t *testing.T) {
	l, ids := story()
	states := storyStates()
	three := coinWith(3, 0, 600, 3, false, ruleOf(3))
	both := coinWith(3, 1, 300, 3, false, ruleWith(2, 0, 3, 4))
	rows := []struct {
		at   int
		undo impl.Undo
	}{
		{0, impl.Undo{Id: 1}},
		{1, impl.Undo{Id: 2}},
		{2, impl.Undo{Id: 6, Spent: [][]impl.Coin{{states[1].Coins[0]}, {three}, {both}}}},
		{3, impl.Undo{Id: 8, Spent: [][]impl.Coin{{states[3].Coins[2]}}, Members: states[3].Members}},
		{4, impl.Undo{Id: 11, Spent: [][]impl.Coin{{states[3].Coins[1]}, {states[3].Coins[3]}}, Members: states[4].Members}},
	}
	for _, row := range rows {
		if r := impl.ConnectBlock(l, states[row.at], ids[row.at]); !sameUndos(r.Undo, row.undo) {
			t.Errorf("the block %d: %v, want %v", ids[row.at], r.Undo, row.undo)
		}
	}
}

// What was spent is not spent again: neither in a block of another number, nor behind it.
func TestWhatWasSpentIsNotSpentAgain(t *testing.T) {
	l, ids := story()
	states := storyStates()
	for i, s := range states[1:] {
		undo := impl.ConnectBlock(l, states[i], ids[i]).Undo
		for _, list := range undo.Spent {
			for _, coin := range list {
				if r := impl.CoinAt(s.Coins, coin.Ref); r.Code != impl.ErrNone {
					t.Errorf("%v is there behind %d: %v", coin.Ref, ids[i], r)
				}
			}
		}
		more := copyLedger(l)
		for tx := range int64(14) {
			more.Texts = append(more.Texts, fmt.Sprintf("block %d %d 1 %d", s.Tip, s.Height+1, tx+1))
		}
		for j, text := range more.Texts[14:] {
			tx := int64(j + 1)
			r := holdConnectAgainstPlain(t, more, s, int64(15+j))
			done := slices.ContainsFunc(ids[:i+1], func(id int64) bool { return slices.Contains(impl.BlockIn(l, id).Block.Txs, tx) })
			if done && r.Code != impl.ErrNone {
				t.Errorf("%q behind %d: %v", text, s.Tip, r)
			}
		}
	}
}

// Within a block: each spends what one ahead of it made, in many orders; just those can be connected in which each comes behind what it spends.
func TestTransactionsOfOneBlockThatSpendEachOther(t *testing.T) {
	coins := []impl.Coin{coinWith(50, 0, 500, 0, false, ruleOf(1)), coinWith(50, 1, 500, 0, false, ruleOf(1))}
	l := ledgerBy(
		by("pay 50:0 200=1_of_1 300=1_of_1", 1),
		by("pay 1:0 90=1_of_1 110=1_of_1", 1),
		by("pay 1:1+2:1 400=1_of_1", 1),
		by("pay 3:0+2:0+50:1 900=1_of_1", 1),
	)
	right := 0
	for _, order := range ordersOf([]int64{1, 2, 3, 4}) {
		for n := range len(order) + 1 {
			text := impl.BlockText(blockOf(0, 1, 9, order[:n]...)).Text
			with := impl.NoteText(l, text)
			r := holdConnectAgainstPlain(t, with.Ledger, stateOf(0, 0, coins), with.Id)
			if rises := slices.Equal(order[:n], manyTxs(n)); rises != (r.Code == impl.OK) {
				t.Errorf("%q: %v", text, r)
			} else if rises {
				right++
			}
		}
	}
	if right == 0 {
		t.Error("no block was connected")
	}
}

func ordersOf(list []int64) [][]int64 {
	if len(list) == 0 {
		return [][]int64{nil}
	}
	var all [][]int64
	for i, first := range list {
		for _, order := range ordersOf(slices.Delete(slices.Clone(list), i, i+1)) {
			all = append(all, append([]int64{first}, order...))
		}
	}
	return all
}

// A block that makes anew a coin of a number that its own transaction spent: taken back from the last to the first alone all is as it was.
func TestACoinThatIsMadeAnewInABlock(t *testing.T) {
	l := ledgerBy(
		by("pay 2:0 70=1_of_1", 1),
		by("pay 1:0 60=1_of_1", 1),
		by("pay 4:0 5=1_of_1", 1),
		by("block 0 1 9 3+1+2"),
		by("block 0 1 9 1+2"),
		by("block 0 1 9 2+1"),
	)
	coins := []impl.Coin{coinWith(2, 0, 80, 0, false, ruleOf(1)), coinWith(4, 0, 30, 0, false, ruleOf(1))}
	want := []impl.Coin{coinWith(2, 0, 60, 1, false, ruleOf(1)), coinWith(3, 0, 5, 1, false, ruleOf(1)), minedCoin(4, 1045, 1, 9)}
	r := holdConnectAgainstPlain(t, l, stateOf(0, 0, coins), 4)
	if r.Code != impl.OK || r.Fees != 45 || !plainSameCoins(r.State.Coins, want) {
		t.Errorf("%v, want %v", r, want)
	}
	if r := holdConnectAgainstPlain(t, l, stateOf(0, 0, coins), 5); r.Code != impl.OK || r.Fees != 20 {
		t.Error(r)
	}
	if r := holdConnectAgainstPlain(t, l, stateOf(0, 0, coins), 6); r.Code != impl.ErrNone {
		t.Error(r)
	}
}

// A walk: chains of transactions that may be wrong, all of them held against the plain reading, and those that go taken back to the start.
func TestWalksOfBlocks(t *testing.T) {
	dice := rand.New(rand.NewSource(8))
	codes := map[int64]int{}
	for range 40 {
		w := walk{dice: dice, codes: map[int64]int{}}
		for len(w.ledger.Texts) < 52 && len(w.ids) < 40 {
			w.step(t)
		}
		folded := holdFoldAgainstPlain(t, w.ledger, w.ids)
		if !impl.SameStates(folded.State, w.state) {
			t.Fatalf("folded: %v, connected: %v", folded, w.state)
		}
		s := w.state
		for _, undo := range slices.Backward(w.undos) {
			r := holdDisconnectAgainstPlain(t, w.ledger, s, undo)
			if r.Code != impl.OK {
				t.Fatalf("DisconnectBlock %v: %v", undo, r)
			}
			s = r.State
		}
		if !impl.SameStates(s, impl.State{}) {
			t.Fatalf("not all is taken back: %v", s)
		}
		for code, count := range w.codes {
			codes[code] += count
		}
	}
	for _, code := range []int64{impl.OK, impl.ErrNone, impl.ErrSign, impl.ErrTaken, impl.ErrValue, impl.ErrEarly, impl.ErrState} {
		if codes[code] == 0 {
			t.Errorf("no walk came to the code %d: %v", code, codes)
		}
	}
}

type walk struct {
	dice   *rand.Rand
	ledger impl.Ledger
	state  impl.State
	ids    []int64
	undos  []impl.Undo
	codes  map[int64]int
}

// note is 0 where there is no room.
func (w *walk) note(text string) int64 {
	r := impl.NoteText(w.ledger, text)
	if r.Code == impl.OK {
		w.ledger = r.Ledger
	}
	return r.Id
}

// often is for what is right: a walk that fails all the time goes nowhere.
func (w *walk) often() bool {
	return w.dice.Intn(12) > 0
}

func (w *walk) step(t *testing.T) {
	block := blockOf(w.state.Tip, w.state.Height+1, 1+w.dice.Int63n(5))
	coins := slices.DeleteFunc(slices.Clone(w.state.Coins), func(coin impl.Coin) bool {
		return !plainIsRipe(coin, block.Height) && w.often()
	})
	for range w.dice.Intn(5) {
		if len(coins) == 0 && w.often() {
			break
		}
		tx := w.randomTx(coins)
		id := w.note(impl.TxText(tx).Text)
		if id == 0 || slices.Contains(block.Txs, id) {
			continue
		}
		block.Txs = append(block.Txs, id)
		w.sign(id, tx, coins)
		coins = slices.DeleteFunc(coins, func(coin impl.Coin) bool { return slices.Contains(tx.Ins, coin.Ref) && w.often() })
		for at, out := range tx.Outs {
			coins = append(coins, impl.Coin{Ref: impl.Ref{Tx: id, At: int64(at)}, Out: out})
		}
	}
	if !w.often() {
		block.Height = max(2, w.state.Height)
	}
	id := w.note(impl.BlockText(block).Text)
	r := holdConnectAgainstPlain(t, w.ledger, w.state, id)
	w.codes[r.Code]++
	if r.Code == impl.OK {
		holdOthersAgainstPlain(t, w, r)
		w.state = r.State
		w.ids, w.undos = append(w.ids, id), append(w.undos, r.Undo)
	}
}

// sign has those sign whose coins are spent, and who joins or leaves.
func (w *walk) sign(id int64, tx impl.Tx, coins []impl.Coin) {
	keys := []int64{tx.Member}
	for _, coin := range coins {
		if slices.Contains(tx.Ins, coin.Ref) {
			keys = append(keys, coin.Out.Rule.Keys...)
		}
	}
	for _, key := range keys {
		if r := impl.SignId(w.ledger, key, id); r.Code == impl.OK && w.often() {
			w.ledger = r.Ledger
		}
	}
}

func (w *walk) member(kind int64) int64 {
	if kind == impl.KindLeave && len(w.state.Members) > 0 && w.often() {
		return w.state.Members[w.dice.Intn(len(w.state.Members))].Key
	}
	return 1 + w.dice.Int63n(30)
}

// randomTx spends the coins that there are, or will be by then, now and then others, and for the most part no more than they are worth.
func (w *walk) randomTx(coins []impl.Coin) impl.Tx {
	tx := impl.Tx{Kind: w.dice.Int63n(3)}
	if tx.Kind == impl.KindLeave && len(w.state.Members) == 0 && w.often() {
		tx.Kind = impl.KindJoin
	}
	if tx.Kind != impl.KindPay {
		tx.Member = w.member(tx.Kind)
	}
	left := int64(w.dice.Intn(2))
	for range 1 + w.dice.Intn(2) {
		coin := coinOf(1+w.dice.Int63n(60), w.dice.Int63n(4), 500, 1)
		if len(coins) > 0 && (w.often() || w.often()) {
			coin = coins[w.dice.Intn(len(coins))]
		}
		if !slices.Contains(tx.Ins, coin.Ref) {
			tx.Ins = append(tx.Ins, coin.Ref)
			left += coin.Out.Value
		}
	}
	for range 1 + w.dice.Intn(3) {
		value := max(100, left/2)
		left -= value
		tx.Outs = append(tx.Outs, outOf(value, 1+w.dice.Int63n(5)))
	}
	return tx
}

// holdOthersAgainstPlain asks what is nearly right: undos and states with something else in them.
func holdOthersAgainstPlain(t *testing.T, w *walk, r impl.StateResult) {
	t.Helper()
	for _, u := range changedUndos(r.Undo) {
		holdDisconnectAgainstPlain(t, w.ledger, r.State, u)
	}
	for _, s := range changedStates(r.State) {
		holdDisconnectAgainstPlain(t, w.ledger, s, r.Undo)
	}
	for _, s := range changedStates(w.state) {
		holdConnectAgainstPlain(t, w.ledger, s, r.Undo.Id)
	}
	for _, id := range []int64{-1, 0, 1, r.Undo.Id - 1, r.Undo.Id + 1, int64(len(w.ledger.Texts)), int64(len(w.ledger.Texts)) + 1} {
		holdConnectAgainstPlain(t, w.ledger, w.state, id)
		holdConnectAgainstPlain(t, w.ledger, r.State, id)
	}
}

func changedUndos(u impl.Undo) []impl.Undo {
	var all []impl.Undo
	change := func(do func(u *impl.Undo)) {
		other := copyUndo(u)
		do(&other)
		all = append(all, other)
	}
	change(func(u *impl.Undo) { u.Id-- })
	change(func(u *impl.Undo) { u.Id++ })
	change(func(u *impl.Undo) { u.Id = 0 })
	change(func(u *impl.Undo) { u.Spent = append(u.Spent, nil) })
	change(func(u *impl.Undo) { u.Members = nil })
	change(func(u *impl.Undo) { u.Members = manyMembers(8) })
	change(func(u *impl.Undo) { u.Members = manyMembers(9) })
	for i := range u.Spent {
		change(func(u *impl.Undo) { u.Spent = slices.Delete(u.Spent, i, i+1) })
		change(func(u *impl.Undo) { u.Spent[i] = nil })
		change(func(u *impl.Undo) { u.Spent[i], u.Spent[0] = u.Spent[0], u.Spent[i] })
		change(func(u *impl.Undo) { u.Spent[i] = u.Spent[i][1:] })
		change(func(u *impl.Undo) { u.Spent[i] = append(u.Spent[i], coinOf(60, 3, 5, 2)) })
		change(func(u *impl.Undo) { u.Spent[i][0].Out.Value++ })
		change(func(u *impl.Undo) { u.Spent[i][0].Out.Value = 0 })
		change(func(u *impl.Undo) { u.Spent[i][0].Ref.At++ })
		change(func(u *impl.Undo) { u.Spent[i][0].Ref.Tx-- })
		change(func(u *impl.Undo) { slices.Reverse(u.Spent[i]) })
	}
	return all
}

func changedStates(s impl.State) []impl.State {
	var all []impl.State
	change := func(do func(s *impl.State)) {
		other := copyState(s)
		do(&other)
		all = append(all, other)
	}
	change(func(s *impl.State) { s.Tip-- })
	change(func(s *impl.State) { s.Tip++ })
	change(func(s *impl.State) { s.Height-- })
	change(func(s *impl.State) { s.Height++ })
	change(func(s *impl.State) { s.Tip, s.Height = 0, 0 })
	change(func(s *impl.State) { s.Members = nil })
	change(func(s *impl.State) { s.Members = manyMembers(8) })
	change(func(s *impl.State) { s.Members = append(s.Members, memberOf(1, 60, 3)) })
	for i := range s.Coins {
		change(func(s *impl.State) { s.Coins = slices.Delete(s.Coins, i, i+1) })
		change(func(s *impl.State) { s.Coins[i].Out.Value++ })
		change(func(s *impl.State) { s.Coins[i].Out.Rule = ruleWith(2, 0, 2, 9) })
		change(func(s *impl.State) { s.Coins[i].Ref.At++ })
		change(func(s *impl.State) { s.Coins[i].Height, s.Coins[i].Mined = 40, true })
	}
	return all
}

// The edges of a state.

type stateRow struct {
	name  string
	state impl.State
	code  int64
}

// wrongStates names the code that comes first where several are so.
func wrongStates() []stateRow {
	bad, few := []impl.Coin{{}}, []impl.Coin{coinOf(1, 0, 5)}
	nine, alike := manyMembers(9), []impl.Member{memberOf(1, 1, 0), memberOf(2, 1, 0)}
	rows := []stateRow{
		{"Tip -1", stateOf(-1, 1, nil), impl.ErrRange},
		{"Tip 61", stateOf(61, 1, nil), impl.ErrRange},
		{"the lowest Tip there is", stateOf(math.MinInt64, 1, nil), impl.ErrRange},
		{"the highest Tip there is", stateOf(math.MaxInt64, 1, nil), impl.ErrRange},
		{"Height -1", stateOf(1, -1, nil), impl.ErrRange},
		{"Height 41", stateOf(1, 41, nil), impl.ErrRange},
		{"the lowest Height there is", stateOf(1, math.MinInt64, nil), impl.ErrRange},
		{"the highest Height there is", stateOf(1, math.MaxInt64, nil), impl.ErrRange},
		{"Tip 0 alone", stateOf(0, 1, nil), impl.ErrForm},
		{"Tip 0, Height 40", stateOf(0, 40, nil), impl.ErrForm},
		{"Height 0 alone", stateOf(1, 0, nil), impl.ErrForm},
		{"Height 0, Tip 60", stateOf(60, 0, nil), impl.ErrForm},
		{"Tip 0, Height 41", stateOf(0, 41, nil), impl.ErrRange},
		{"Tip 0, Height -1", stateOf(0, -1, nil), impl.ErrRange},
		{"Height 0, Tip 61", stateOf(61, 0, nil), impl.ErrRange},
		{"Height 0, Tip -1", stateOf(-1, 0, nil), impl.ErrRange},
		{"Height ahead of coins", stateOf(1, 41, few, alike...), impl.ErrRange},
		{"Tip 0 alone ahead of coins", stateOf(0, 1, bad, nine...), impl.ErrForm},
		{"Height 0 alone ahead of members", stateOf(1, 0, nil, nine...), impl.ErrForm},
		{"coins ahead of members", stateOf(1, 1, bad, nine...), impl.ErrRange},
		{"keys of coins ahead of members", stateOf(1, 1, few, alike...), impl.ErrMany},
		{"coins of the empty state", stateOf(0, 0, bad), impl.ErrRange},
		{"9 members", stateOf(1, 1, manyCoins(40), nine...), impl.ErrMany},
		{"members of the empty state", stateOf(0, 0, nil, memberOf(0, 1, 0)), impl.ErrRange},
		{"members that fall", stateOf(1, 1, nil, memberOf(2, 1, 0), memberOf(1, 2, 0)), impl.ErrForm},
		{"members that hold the same", stateOf(1, 1, nil, alike...), impl.ErrTaken},
	}
	for _, row := range wrongCoins() {
		rows = append(rows, stateRow{row.name, stateOf(3, 3, row.coins, alike...), row.code})
	}
	return rows
}

func TestStateFaultTellsTheFirstCode(t *testing.T) {
	for _, row := range wrongStates() {
		if got := impl.StateFault(row.state); got != row.code {
			t.Errorf("%s: %d, want %d", row.name, got, row.code)
		}
		if got := plainStateFault(row.state); got != row.code {
			t.Errorf("%s: the plain reading says %d, want %d", row.name, got, row.code)
		}
	}
	for _, s := range []impl.State{
		{}, {Coins: []impl.Coin{}, Members: []impl.Member{}}, stateOf(1, 1, nil), stateOf(60, 40, nil), stateOf(60, 1, nil), stateOf(1, 40, nil),
		stateOf(5, 9, manyCoins(40), manyMembers(8)...), stateOf(0, 0, manyCoins(40), manyMembers(8)...),
		// Whether a member's coin is there is not asked.
		stateOf(1, 1, nil, memberOf(5, 9, 0)),
	} {
		if code := impl.StateFault(s); code != impl.OK {
			t.Errorf("%v: %d", s, code)
		}
	}
	for tip := int64(-2); tip <= 62; tip++ {
		for height := int64(-2); height <= 42; height++ {
			s := stateOf(tip, height, nil)
			if got, want := impl.StateFault(s), plainStateFault(s); got != want {
				t.Errorf("%v: %d, want %d", s, got, want)
			}
		}
	}
}

func TestFaultsComeAheadOfTheBlock(t *testing.T) {
	l, ids := story()
	states := storyStates()
	for _, row := range faultRows() {
		// The fault of the ledger comes ahead of that of the state, and of all that is wrong with the number or the undo.
		for _, s := range []impl.State{{}, stateOf(-1, 41, nil), states[3]} {
			for _, id := range []int64{-1, 0, 1, 6, 61} {
				if r := holdConnectAgainstPlain(t, row.ledger, s, id); !sameStateResults(r, impl.StateResult{Code: row.code}) {
					t.Errorf("%s: ConnectBlock %v", row.name, r)
				}
				if r := holdDisconnectAgainstPlain(t, row.ledger, s, impl.Undo{Id: id}); !sameStateResults(r, impl.StateResult{Code: row.code}) {
					t.Errorf("%s: DisconnectBlock %v", row.name, r)
				}
			}
		}
		for _, list := range [][]int64{nil, {}, {1}, {0, 61}, make([]int64, 40)} {
			if r := holdFoldAgainstPlain(t, row.ledger, list); !sameStateResults(r, impl.StateResult{Code: row.code}) {
				t.Errorf("%s: FoldBlocks %v", row.name, r)
			}
		}
		if r := holdFoldAgainstPlain(t, row.ledger, make([]int64, 41)); !sameStateResults(r, impl.StateResult{Code: impl.ErrMany}) {
			t.Errorf("%s: FoldBlocks of 41 %v", row.name, r)
		}
	}
	for _, row := range wrongStates() {
		for _, id := range []int64{-1, 0, 1, 3, 6, ids[3], 15, 61} {
			if r := holdConnectAgainstPlain(t, l, row.state, id); !sameStateResults(r, impl.StateResult{Code: row.code}) {
				t.Errorf("%s: ConnectBlock %v", row.name, r)
			}
			u := impl.Undo{Id: id, Members: manyMembers(9)}
			if r := holdDisconnectAgainstPlain(t, l, row.state, u); !sameStateResults(r, impl.StateResult{Code: row.code}) {
				t.Errorf("%s: DisconnectBlock %v", row.name, r)
			}
		}
	}
}

// Which block comes next.

func TestWhichBlockIsConnected(t *testing.T) {
	l, ids := story()
	last := int64(len(l.Texts))
	states := storyStates()
	for i, s := range states {
		for id := int64(-2); id <= last+2; id++ {
			want := int64(impl.ErrState)
			switch {
			case i < len(ids) && id == ids[i]:
				want = impl.OK
			case id < 1 || id > last:
				want = impl.ErrRange
			case !slices.Contains(ids, id):
				want = impl.ErrText
			}
			r := holdConnectAgainstPlain(t, l, s, id)
			if r.Code != want || want != impl.OK && !sameStateResults(r, impl.StateResult{Code: want}) {
				t.Errorf("%d behind %d: %v, want %d", id, s.Tip, r, want)
			}
		}
		for _, id := range []int64{math.MinInt64, math.MaxInt64, 60, 61} {
			if r := holdConnectAgainstPlain(t, l, s, id); r.Code != impl.ErrRange {
				t.Errorf("%d behind %d: %v", id, s.Tip, r)
			}
		}
	}
	full := impl.Ledger{Texts: append(manyTexts(59), "block 0 1 5 -")}
	if r := holdConnectAgainstPlain(t, full, impl.State{}, 60); r.Code != impl.OK || r.State.Tip != 60 {
		t.Error(r)
	}
}

// Heads against tips: Prev alone, Height alone, both; a wrong head comes ahead of its transactions.
func TestHeadsAgainstTips(t *testing.T) {
	heads := []string{"block 0 1 5 -", "block 1 2 5 60", "block 1 3 5 60", "block 2 2 5 60", "block 2 3 5 60", "block 60 40 5 -", "block 59 40 5 -", "block 60 39 5 -"}
	l := impl.Ledger{Texts: heads}
	for tip := range int64(61) {
		for height := range int64(41) {
			s := stateOf(tip, height, nil)
			if plainStateFault(s) != impl.OK {
				continue
			}
			for i, head := range heads {
				block := plainParseBlock(head).Block
				r := holdConnectAgainstPlain(t, l, s, int64(i+1))
				if fits := block.Prev == tip && block.Height == height+1; fits == (r.Code == impl.ErrState) {
					t.Errorf("%q behind %d at %d: %v", head, tip, height, r)
				}
			}
		}
	}
}

// What is wrong with a transaction of a block.

type connectRow struct {
	name  string
	texts []signedText
	state impl.State
	code  int64
}

// holdRows: the block is the last of the texts.
func holdRows(t *testing.T, rows []connectRow) {
	t.Helper()
	for _, row := range rows {
		l := ledgerBy(row.texts...)
		if code := plainFault(l); code != impl.OK {
			t.Fatalf("%s: the ledger has the fault %d", row.name, code)
		}
		r := holdConnectAgainstPlain(t, l, row.state, int64(len(l.Texts)))
		if r.Code != row.code || row.code != impl.OK && !sameStateResults(r, impl.StateResult{Code: row.code}) {
			t.Errorf("%s: %v, want %d", row.name, r, row.code)
		}
	}
}

// purseOf holds coins of the key 1: 50:0 to 50:3, each worth 1000.
func purseOf() []impl.Coin {
	var list []impl.Coin
	for at := range int64(4) {
		list = append(list, coinWith(50, at, 1000, 0, false, ruleOf(1)))
	}
	return list
}

func TestTransactionsThatFailInABlock(t *testing.T) {
	s := stateOf(0, 0, purseOf())
	ripens := stateOf(9, 4, []impl.Coin{minedCoin(9, 500, 4, 1)})
	ripe := stateOf(9, 5, []impl.Coin{minedCoin(9, 500, 4, 1)})
	good := by("pay 50:0 1000=1_of_1", 1)
	holdRows(t, []connectRow{
		{"none", []signedText{good, by("block 0 1 9 -")}, s, impl.OK},
		{"a good one", []signedText{good, by("block 0 1 9 1")}, s, impl.OK},
		{"a number out of the ledger", []signedText{good, by("block 0 1 9 1+3")}, s, impl.ErrRange},
		{"the last number there may be", []signedText{by("block 0 1 9 60")}, s, impl.ErrRange},
		{"no transaction", []signedText{by("a"), by("block 0 1 9 1")}, s, impl.ErrText},
		{"the block itself", []signedText{good, by("block 0 1 9 1+2")}, s, impl.ErrText},
		{"another block", []signedText{by("block 0 1 8 -"), by("block 0 1 9 1")}, s, impl.ErrText},
		{"no signature", []signedText{by("pay 50:0 5=1_of_1"), by("block 0 1 9 1")}, s, impl.ErrSign},
		{"the signature of another one", []signedText{by("pay 50:0 5=1_of_1", 2), by("block 0 1 9 1", 1)}, s, impl.ErrSign},
		{"no coin", []signedText{by("pay 49:0 5=1_of_1", 1), by("block 0 1 9 1")}, s, impl.ErrNone},
		{"too much", []signedText{by("pay 50:0 1001=1_of_1", 1), by("block 0 1 9 1")}, s, impl.ErrValue},
		{"not ripe", []signedText{by("pay 9:0 5=1_of_1", 1), by("block 9 5 9 1")}, ripens, impl.ErrEarly},
		{"ripe", []signedText{by("pay 9:0 5=1_of_1", 1), by("block 9 6 9 1")}, ripe, impl.OK},
		{"what the same block mines", []signedText{by("pay 2:0 5=1_of_1", 1), by("block 0 1 1 1")}, s, impl.ErrNone},
		{"what one ahead spent", []signedText{good, by("pay 50:0 999=1_of_1", 1), by("block 0 1 9 1+2")}, s, impl.ErrNone},
		{"what one behind makes", []signedText{by("pay 2:0 999=1_of_1", 1), good, by("block 0 1 9 1+2")}, s, impl.ErrNone},
		{"what one ahead made", []signedText{by("pay 2:0 999=1_of_1", 1), good, by("block 0 1 9 2+1")}, s, impl.OK},
		{"a place that one ahead has not made", []signedText{by("pay 2:1 999=1_of_1", 1), good, by("block 0 1 9 2+1")}, s, impl.ErrNone},
		{"what one ahead made, for another key", []signedText{by("pay 2:0 9=1_of_1", 1), by("pay 50:0 9=1_of_3", 1), by("block 0 1 9 2+1")}, s, impl.ErrSign},
		{"what one ahead made, too early", []signedText{by("pay 2:0 9=1_of_1", 1), by("pay 50:0 9=1_of_1_after_2", 1), by("block 0 1 9 2+1")}, s, impl.ErrEarly},
		{"what one ahead made, in time", []signedText{by("pay 2:0 9=1_of_1", 1), by("pay 50:0 9=1_of_1_after_1", 1), by("block 0 1 9 2+1")}, s, impl.OK},
		{"what one ahead made, and more", []signedText{by("pay 2:0 10=1_of_1", 1), by("pay 50:0 9=1_of_1", 1), by("block 0 1 9 2+1")}, s, impl.ErrValue},
	})
}

func TestMembersOfABlock(t *testing.T) {
	s := stateOf(0, 0, purseOf())
	held := stateOf(0, 0, purseOf(), memberOf(7, 50, 0))
	eight := stateOf(0, 0, purseOf(), manyMembers(8)...)
	// What they hold stands clear of the numbers of the texts.
	for i := range eight.Members {
		eight.Members[i].Ref.Tx += 20
	}
	join := by("join 7 50:0 100=1_of_1", 1)
	holdRows(t, []connectRow{
		{"joins", []signedText{join, by("block 0 1 9 1")}, s, impl.OK},
		{"joins twice", []signedText{join, by("join 7 50:1 100=1_of_1", 1), by("block 0 1 9 1+2")}, s, impl.ErrTaken},
		{"is one already", []signedText{by("join 7 50:1 100=1_of_1", 1), by("block 0 1 9 1")}, held, impl.ErrTaken},
		{"joins with what it held", []signedText{join, by("block 0 1 9 1")}, held, impl.OK},
		{"another one joins with what it held", []signedText{by("join 8 50:0 100=1_of_1", 1), by("block 0 1 9 1")}, held, impl.OK},
		{"joins, leaves, joins", []signedText{join, by("leave 7 1:0 90=1_of_1", 1, 7), by("join 7 50:1 100=1_of_1", 1), by("block 0 1 9 1+2+3")}, s, impl.OK},
		{"leaves and is none", []signedText{by("leave 7 50:1 90=1_of_1", 1, 7), by("block 0 1 9 1")}, s, impl.ErrNone},
		{"leaves twice", []signedText{by("leave 7 50:1 90=1_of_1", 1, 7), by("leave 7 50:2 90=1_of_1", 1, 7), by("block 0 1 9 1+2")}, held, impl.ErrNone},
		{"leaves ahead of joining", []signedText{join, by("leave 7 50:1 90=1_of_1", 1, 7), by("block 0 1 9 2+1")}, s, impl.ErrNone},
		{"leaves and did not sign", []signedText{by("leave 7 50:1 90=1_of_1", 1), by("block 0 1 9 1")}, held, impl.ErrSign},
		{"leaves", []signedText{by("leave 7 50:1 90=1_of_1", 1, 7), by("block 0 1 9 1")}, held, impl.OK},
		{"leaves behind one who spends what it held", []signedText{by("pay 50:0 90=1_of_1", 1), by("leave 7 50:1 90=1_of_1", 1, 7), by("block 0 1 9 1+2")}, held, impl.ErrNone},
		{"one more than 8", []signedText{by("join 7 50:1 100=1_of_1", 1), by("block 0 1 9 1")}, eight, impl.ErrMany},
		{"one leaves, one joins", []signedText{by("join 7 50:1 100=1_of_1", 1), by("leave 10 50:2 1=1_of_1", 1, 10), by("block 0 1 9 2+1")}, eight, impl.OK},
		{"one holds what would be held", []signedText{by("a"), by("join 7 50:1 100=1_of_1", 1), by("block 0 1 9 2")}, stateOf(0, 0, purseOf(), memberOf(8, 2, 0)), impl.ErrTaken},
	})
	l := ledgerBy(join, by("leave 7 1:0 90=1_of_1", 1, 7), by("join 7 50:1 100=1_of_1", 1), by("block 0 1 9 1+2+3"))
	r := impl.ConnectBlock(l, held, 4)
	if !slices.Equal(r.State.Members, []impl.Member{memberOf(7, 3, 0)}) || !slices.Equal(r.Undo.Members, held.Members) {
		t.Error(r)
	}
}

// Room for coins: transactions and what is mined need it, one by one.
func TestRoomForCoins(t *testing.T) {
	split := by("pay 10:1 1=1_of_38 1=1_of_38", 38)
	merge := by("pay 10:1+10:2 1=1_of_38", 38, 39)
	row := func(name string, coins int, code int64, texts ...signedText) connectRow {
		return connectRow{name, texts, stateOf(3, 20, manyCoinsBut(coins)), code}
	}
	holdRows(t, []connectRow{
		row("39", 39, impl.OK, by("block 3 21 9 -")),
		row("40", 40, impl.ErrMany, by("block 3 21 9 -")),
		row("40, one less", 40, impl.OK, merge, by("a"), by("b"), by("c"), by("block 3 21 9 1")),
		row("38, one more", 38, impl.OK, split, by("a"), by("b"), by("c"), by("block 3 21 9 1")),
		row("39, one more", 39, impl.ErrMany, split, by("a"), by("b"), by("c"), by("block 3 21 9 1")),
		row("40, one more", 40, impl.ErrMany, split, by("a"), by("b"), by("c"), by("block 3 21 9 1")),
		row("40, one more and then two less", 40, impl.ErrMany, split, by("pay 10:2+10:3+11:0 1=1_of_1", 39, 40, 41), by("block 3 21 9 1+2")),
		row("40, two less and then one more", 40, impl.OK, split, by("pay 10:2+10:3+11:0 1=1_of_1", 39, 40, 41), by("block 3 21 9 2+1")),
	})
}

// manyCoinsBut stands clear of the numbers 1 to 9, which the texts have.
func manyCoinsBut(n int) []impl.Coin {
	var list []impl.Coin
	for i := range int64(n) {
		list = append(list, coinWith(10+i/4, i%4, 100, 0, false, ruleOf(37+i)))
	}
	return list
}

// A coin of one of the block's own numbers that is there already.
func TestCoinsOfTheBlocksOwnNumbers(t *testing.T) {
	good := by("pay 50:0 1000=1_of_1", 1)
	with := func(coin impl.Coin) impl.State { return stateOf(0, 0, append([]impl.Coin{coin}, purseOf()...)) }
	holdRows(t, []connectRow{
		{"of the transaction", []signedText{good, by("block 0 1 9 1")}, with(coinOf(1, 0, 5, 2)), impl.ErrTaken},
		{"of the transaction, at another place", []signedText{good, by("block 0 1 9 1")}, with(coinOf(1, 3, 5, 2)), impl.ErrTaken},
		{"of the transaction, which spends it", []signedText{by("pay 1:0 5=1_of_2", 2), by("block 0 1 9 1")}, with(coinOf(1, 0, 5, 2)), impl.ErrTaken},
		{"of the transaction, spent ahead of it", []signedText{good, by("pay 1:0 5=1_of_2", 2), by("block 0 1 9 2+1")}, with(coinOf(1, 0, 5, 2)), impl.OK},
		{"of the block", []signedText{good, by("block 0 1 9 1")}, with(coinOf(2, 0, 5, 2)), impl.ErrTaken},
		{"of the block, at another place", []signedText{good, by("block 0 1 9 -")}, with(coinOf(2, 2, 5, 2)), impl.ErrTaken},
		{"of the block, which spends it", []signedText{by("pay 2:0 5=1_of_2", 2), by("block 0 1 9 1")}, with(coinOf(2, 0, 5, 2)), impl.OK},
		{"of another one", []signedText{good, by("block 0 1 9 1")}, with(coinOf(3, 0, 5, 2)), impl.OK},
	})
}

// richState has coins worth all that a coin may be, of the key 1: 50:0 to 50:3.
func richState() impl.State {
	coins := purseOf()
	for i := range coins {
		coins[i].Out.Value = 1000000
	}
	return stateOf(0, 0, coins)
}

func TestWhatIsMinedIsBounded(t *testing.T) {
	rich := richState()
	high := richState()
	high.Tip, high.Height = 9, 32
	full := richState()
	full.Coins = append(manyCoinsBut(36), full.Coins...)
	own := richState()
	own.Coins = append([]impl.Coin{coinOf(2, 0, 5, 2)}, own.Coins...)
	holdRows(t, []connectRow{
		{"at the bound", []signedText{by("pay 50:0 1000=1_of_1", 1), by("block 0 1 9 1")}, rich, impl.OK},
		{"above it", []signedText{by("pay 50:0 999=1_of_1", 1), by("block 0 1 9 1")}, rich, impl.ErrValue},
		{"far above it", []signedText{by("pay 50:0+50:1+50:2+50:3 1=1_of_1", 1), by("block 0 1 9 1")}, rich, impl.ErrValue},
		{"at the bound by two", []signedText{by("pay 50:0 500001=1_of_1", 1), by("pay 50:1 500999=1_of_1", 1), by("block 0 1 9 1+2")}, rich, impl.OK},
		{"above it by two", []signedText{by("pay 50:0 500001=1_of_1", 1), by("pay 50:1 500998=1_of_1", 1), by("block 0 1 9 1+2")}, rich, impl.ErrValue},
		{"at the bound, high", []signedText{by("pay 50:0 62=1_of_1", 1), by("block 9 33 9 1")}, high, impl.OK},
		{"above it, high", []signedText{by("pay 50:0 61=1_of_1", 1), by("block 9 33 9 1")}, high, impl.ErrValue},
		{"above it, where there is no room", []signedText{by("pay 50:0 999=1_of_1", 1), by("block 0 1 9 1")}, full, impl.ErrValue},
		{"at it, where there is no room", []signedText{by("pay 50:0 1000=1_of_1", 1), by("block 0 1 9 1")}, full, impl.ErrMany},
		{"above it, with a coin of the block", []signedText{by("pay 50:0 999=1_of_1", 1), by("block 0 1 9 1")}, own, impl.ErrValue},
		{"at it, with a coin of the block", []signedText{by("pay 50:0 1000=1_of_1", 1), by("block 0 1 9 1")}, own, impl.ErrTaken},
		{"above it, a transaction behind fails", []signedText{by("pay 50:0 999=1_of_1", 1), by("pay 50:0 998=1_of_1", 1), by("block 0 1 9 1+2")}, rich, impl.ErrNone},
	})
	l := ledgerBy(by("pay 50:0 1000=1_of_1", 1), by("block 0 1 9 1"))
	if r := impl.ConnectBlock(l, rich, 2); r.Fees != 999000 || impl.OwnedBy(r.State.Coins, 9).Value != 1000000 {
		t.Error(r)
	}
}

// Which code comes first: transaction by transaction, and each is asked all of them.
func TestWhichCodeOfABlockComesFirst(t *testing.T) {
	s := stateOf(0, 0, purseOf(), memberOf(7, 50, 0))
	full := stateOf(0, 0, append(manyCoinsBut(36), purseOf()...), memberOf(7, 50, 0))
	own := stateOf(0, 0, append([]impl.Coin{coinOf(1, 0, 5, 2)}, purseOf()...), memberOf(7, 50, 0))
	block, both := by("block 0 1 9 1"), by("block 0 1 9 1+9")
	holdRows(t, []connectRow{
		{"the signature ahead of members", []signedText{by("join 7 50:1 100=1_of_1"), block}, own, impl.ErrSign},
		{"the coin ahead of members", []signedText{by("join 7 49:1 100=1_of_1", 1), block}, own, impl.ErrNone},
		{"the value ahead of members", []signedText{by("join 7 50:1 1001=1_of_1", 1), block}, own, impl.ErrValue},
		{"the signature of who leaves ahead of whether it is one", []signedText{by("leave 8 50:1 100=1_of_1", 1), block}, own, impl.ErrSign},
		{"members ahead of a coin of the number", []signedText{by("leave 8 50:1 100=1_of_1", 1, 8), block}, own, impl.ErrNone},
		{"members ahead of room", []signedText{by("leave 8 50:1 1=1_of_1 1=1_of_1", 1, 8), block}, full, impl.ErrNone},
		{"who joins ahead of room", []signedText{by("join 7 50:1 100=1_of_1 1=1_of_1", 1), block}, full, impl.ErrTaken},
		{"the first fails ahead of the number of the second", []signedText{by("pay 50:1 100=1_of_1"), both}, s, impl.ErrSign},
		{"members of the first ahead of the number of the second", []signedText{by("leave 8 50:1 100=1_of_1", 1, 8), both}, s, impl.ErrNone},
		{"room of the first ahead of the number of the second", []signedText{by("pay 50:1 1=1_of_1 1=1_of_1", 1), both}, full, impl.ErrMany},
		{"the number of the second where the first is right", []signedText{by("pay 50:1 1=1_of_1", 1), both}, s, impl.ErrRange},
		{"the first of two that fail", []signedText{by("a"), by("pay 50:1 1=1_of_1"), by("block 0 1 9 2+1")}, s, impl.ErrSign},
		{"the other way round", []signedText{by("a"), by("pay 50:1 1=1_of_1"), by("block 0 1 9 1+2")}, s, impl.ErrText},
		{"the head ahead of transactions", []signedText{by("a"), by("block 3 2 9 1+9")}, s, impl.ErrState},
		{"a transaction ahead of what is mined", []signedText{by("pay 49:0 1=1_of_1", 1), block}, full, impl.ErrNone},
	})
}

// Six transactions, the most that there may be; the last one fails in all ways that there are.
func TestALongBlockThatFailsAtItsEnd(t *testing.T) {
	texts := []signedText{
		by("join 7 50:0 500=1_of_1 499=1_of_1", 1), by("pay 1:1+50:1 1400=1_of_1", 1), by("leave 7 1:0 500=1_of_7", 1, 7),
		by("pay 3:0 499=1_of_1", 7), by("join 7 4:0+2:0 1800=1_of_1", 1),
	}
	ends := map[string]int64{"pay 5:0 1700=1_of_1": impl.OK, "pay 5:0 1801=1_of_1": impl.ErrValue, "join 7 50:2 100=1_of_1": impl.ErrTaken, "leave 7 5:0 1=1_of_1": impl.ErrSign, "leave 1 5:0 1=1_of_1": impl.ErrNone, "pay 3:0 1=1_of_1": impl.ErrNone, "join 8 5:0 100=1_of_1": impl.OK}
	for end, code := range ends {
		holdRows(t, []connectRow{{end, append(slices.Clone(texts), by(end, 1), by("block 0 1 9 1+2+3+4+5+6")), stateOf(0, 0, purseOf()), code}})
	}
}

// Taking back.

type disconnectRow struct {
	name   string
	change func(l *impl.Ledger, s *impl.State, u *impl.Undo)
	code   int64
}

// disconnectRows change the third block of the story, whose transactions 3, 4 and 5 spent 1:0, 3:0 and 3:1.
func disconnectRows() []disconnectRow {
	type ledger = impl.Ledger
	type state = impl.State
	type undo = impl.Undo
	at := func(s *state, ref impl.Ref) int {
		return slices.IndexFunc(s.Coins, func(c impl.Coin) bool { return c.Ref == ref })
	}
	drop := func(s *state, ref impl.Ref) { s.Coins = slices.Delete(s.Coins, at(s, ref), at(s, ref)+1) }
	mined, four, five := impl.Ref{Tx: 6}, impl.Ref{Tx: 4, At: 1}, impl.Ref{Tx: 5}
	return []disconnectRow{
		{"nothing", func(l *ledger, s *state, u *undo) {}, impl.OK},
		{"Id 0", func(l *ledger, s *state, u *undo) { u.Id = 0 }, impl.ErrState},
		{"Id less 1", func(l *ledger, s *state, u *undo) { u.Id-- }, impl.ErrState},
		{"Id and 1", func(l *ledger, s *state, u *undo) { u.Id++ }, impl.ErrState},
		{"the Id of the block ahead", func(l *ledger, s *state, u *undo) { u.Id = 2 }, impl.ErrState},
		{"the empty state", func(l *ledger, s *state, u *undo) { s.Tip, s.Height = 0, 0 }, impl.ErrState},
		{"the empty state, Id 0", func(l *ledger, s *state, u *undo) { s.Tip, s.Height, u.Id = 0, 0, 0 }, impl.ErrState},
		{"another Tip", func(l *ledger, s *state, u *undo) { s.Tip = 8 }, impl.ErrState},
		{"another Tip, with its Id", func(l *ledger, s *state, u *undo) { s.Tip, u.Id = 8, 8 }, impl.ErrForm},
		{"a Tip out of the ledger", func(l *ledger, s *state, u *undo) { s.Tip, u.Id = 15, 15 }, impl.ErrRange},
		{"a Tip that is no block", func(l *ledger, s *state, u *undo) { s.Tip, u.Id = 5, 5 }, impl.ErrText},
		{"Height less 1", func(l *ledger, s *state, u *undo) { s.Height-- }, impl.ErrForm},
		{"Height and 1", func(l *ledger, s *state, u *undo) { s.Height++ }, impl.ErrForm},
		{"no Spent", func(l *ledger, s *state, u *undo) { u.Spent = nil }, impl.ErrForm},
		{"one of Spent less", func(l *ledger, s *state, u *undo) { u.Spent = u.Spent[:2] }, impl.ErrForm},
		{"one of Spent more", func(l *ledger, s *state, u *undo) { u.Spent = append(u.Spent, nil) }, impl.ErrForm},
		{"very many Spent", func(l *ledger, s *state, u *undo) { u.Spent = make([][]impl.Coin, 1000) }, impl.ErrForm},
		{"9 members", func(l *ledger, s *state, u *undo) { u.Members = manyMembers(9) }, impl.ErrMany},
		{"a member 0", func(l *ledger, s *state, u *undo) { u.Members = make([]impl.Member, 1) }, impl.ErrRange},
		{"a member twice", func(l *ledger, s *state, u *undo) { u.Members = []impl.Member{memberOf(1, 1, 0), memberOf(1, 2, 0)} }, impl.ErrForm},
		{"a ref twice", func(l *ledger, s *state, u *undo) { u.Members = []impl.Member{memberOf(1, 1, 0), memberOf(2, 1, 0)} }, impl.ErrTaken},
		{"other members", func(l *ledger, s *state, u *undo) { u.Members = manyMembers(8) }, impl.OK},
		{"other members of the state", func(l *ledger, s *state, u *undo) { s.Members = manyMembers(8) }, impl.OK},
		{"no mined coin", func(l *ledger, s *state, u *undo) { drop(s, mined) }, impl.ErrNone},
		{"no coins", func(l *ledger, s *state, u *undo) { s.Coins = nil }, impl.ErrNone},
		{"a mined coin at another place", func(l *ledger, s *state, u *undo) { s.Coins[at(s, mined)].Ref.At = 1 }, impl.ErrNone},
		{"one more coin of the block", func(l *ledger, s *state, u *undo) { s.Coins = append(s.Coins, coinOf(6, 1, 5, 2)) }, impl.OK},
		{"one less of the second", func(l *ledger, s *state, u *undo) { drop(s, four) }, impl.ErrNone},
		{"none of the last", func(l *ledger, s *state, u *undo) { drop(s, five) }, impl.ErrNone},
		{"another value of the last", func(l *ledger, s *state, u *undo) { s.Coins[at(s, five)].Out.Value++ }, impl.ErrNone},
		{"another rule of the last", func(l *ledger, s *state, u *undo) { s.Coins[at(s, five)].Out.Rule.After++ }, impl.ErrNone},
		{"a rule that has a fault", func(l *ledger, s *state, u *undo) { s.Coins[at(s, five)].Out.Rule.Need++ }, impl.ErrRange},
		{"another key of the last", func(l *ledger, s *state, u *undo) { s.Coins[at(s, five)].Out.Rule.Keys[0]++ }, impl.ErrNone},
		{"what the last one spent is there", func(l *ledger, s *state, u *undo) {
			s.Coins = slices.Insert(s.Coins, 1, u.Spent[2][0])
		}, impl.ErrTaken},
		{"what the second one spent is there", func(l *ledger, s *state, u *undo) {
			s.Coins = slices.Insert(s.Coins, 1, u.Spent[1][0])
		}, impl.ErrTaken},
		{"what the first one spent is there", func(l *ledger, s *state, u *undo) {
			s.Coins = slices.Insert(s.Coins, 0, u.Spent[0][0])
		}, impl.ErrTaken},
		{"no coin of the last", func(l *ledger, s *state, u *undo) { u.Spent[2] = nil }, impl.ErrForm},
		{"no coin of the first", func(l *ledger, s *state, u *undo) { u.Spent[0] = nil }, impl.ErrForm},
		{"a coin more of the first", func(l *ledger, s *state, u *undo) { u.Spent[0] = append(u.Spent[0], coinOf(9, 0, 5, 2)) }, impl.ErrForm},
		{"a coin twice", func(l *ledger, s *state, u *undo) { u.Spent[0] = append(u.Spent[0], u.Spent[0][0]) }, impl.ErrForm},
		{"41 coins of the first", func(l *ledger, s *state, u *undo) { u.Spent[0] = manyCoins(41) }, impl.ErrMany},
		{"coins with a fault", func(l *ledger, s *state, u *undo) { u.Spent[1][0].Out.Value = 0 }, impl.ErrRange},
		{"two of Spent changed about", func(l *ledger, s *state, u *undo) { u.Spent[0], u.Spent[1] = u.Spent[1], u.Spent[0] }, impl.ErrForm},
		{"another value of the first: who hands in the undo answers for it", func(l *ledger, s *state, u *undo) { u.Spent[0][0].Out.Value = 5 }, impl.OK},
		{"another value that is made in the block", func(l *ledger, s *state, u *undo) { u.Spent[1][0].Out.Value = 5 }, impl.ErrNone},
		{"a text that is no transaction any more", func(l *ledger, s *state, u *undo) { l.Texts[3] = "a" }, impl.ErrText},
		{"a block that names a number out of the ledger", func(l *ledger, s *state, u *undo) { l.Texts[5] = "block 2 3 7 3+4+60" }, impl.ErrRange},
		{"a block in another order", func(l *ledger, s *state, u *undo) { l.Texts[5] = "block 2 3 7 4+3+5" }, impl.ErrForm},
		{"a block with one more", func(l *ledger, s *state, u *undo) { l.Texts[5] = "block 2 3 7 3+4+5+7" }, impl.ErrForm},
		{"signatures that are gone", func(l *ledger, s *state, u *undo) { l.Signs = nil }, impl.OK},

		{"Id ahead of the block", func(l *ledger, s *state, u *undo) { s.Tip = 5 }, impl.ErrState},
		{"the block ahead of its Height", func(l *ledger, s *state, u *undo) { s.Tip, u.Id, s.Height = 5, 5, 40 }, impl.ErrText},
		{"Spent ahead of members", func(l *ledger, s *state, u *undo) { u.Spent, u.Members = nil, manyMembers(9) }, impl.ErrForm},
		{"Height ahead of members", func(l *ledger, s *state, u *undo) { s.Height, u.Members = 9, manyMembers(9) }, impl.ErrForm},
		{"members ahead of the mined coin", func(l *ledger, s *state, u *undo) { s.Coins, u.Members = nil, manyMembers(9) }, impl.ErrMany},
		{"Spent ahead of the mined coin", func(l *ledger, s *state, u *undo) { s.Coins, u.Spent = nil, nil }, impl.ErrForm},
		{"the mined coin ahead of transactions", func(l *ledger, s *state, u *undo) {
			drop(s, mined)
			u.Spent[2] = manyCoins(41)
		}, impl.ErrNone},
		{"the last one ahead of the first", func(l *ledger, s *state, u *undo) { u.Spent[0], u.Spent[2] = manyCoins(41), nil }, impl.ErrForm},
		{"the coins of the last ahead of the text of the first", func(l *ledger, s *state, u *undo) {
			l.Texts[2], u.Spent[2] = "a", manyCoins(41)
		}, impl.ErrMany},
		{"the text of the last ahead of its coins", func(l *ledger, s *state, u *undo) {
			l.Texts[4], u.Spent[2] = "a", manyCoins(41)
		}, impl.ErrText},
		{"the text of the last ahead of that of the first", func(l *ledger, s *state, u *undo) {
			l.Texts[2], l.Texts[5] = "a", "block 2 3 7 3+4+60"
		}, impl.ErrRange},
	}
}

func TestDisconnectEdges(t *testing.T) {
	states := storyStates()
	for _, row := range disconnectRows() {
		l, _ := story()
		r := impl.ConnectBlock(l, states[2], 6)
		s, u := copyState(r.State), copyUndo(r.Undo)
		row.change(&l, &s, &u)
		if code := plainStateFault(s); code != impl.OK && code != row.code {
			t.Fatalf("%s: the state has the fault %d", row.name, code)
		}
		got := holdDisconnectAgainstPlain(t, l, s, u)
		if got.Code != row.code || row.code != impl.OK && !sameStateResults(got, impl.StateResult{Code: row.code}) {
			t.Errorf("%s: %v, want %d", row.name, got, row.code)
		}
		if row.code == impl.OK && (got.Fees != 0 || !sameUndos(got.Undo, impl.Undo{}) || got.State.Tip != 2 || got.State.Height != 2 || !plainSameMembers(got.State.Members, u.Members)) {
			t.Errorf("%s: %v", row.name, got)
		}
	}
}

// What was spent needs room again, which another state may not have.
func TestDisconnectWhereThereIsNoRoom(t *testing.T) {
	l := ledgerBy(by("pay 50:0+50:1+50:2+50:3 1=1_of_1", 1), by("block 3 21 9 1"))
	made := []impl.Coin{coinWith(1, 0, 1, 21, false, ruleOf(1)), minedCoin(2, 4061, 21, 9)}
	for others := 30; others <= 38; others++ {
		s := stateOf(2, 21, append(slices.Clone(made), manyCoinsBut(others)...))
		r := holdDisconnectAgainstPlain(t, l, s, impl.Undo{Id: 2, Spent: [][]impl.Coin{purseOf()}})
		want := int64(impl.OK)
		if others+4 > 40 {
			want = impl.ErrMany
		}
		if r.Code != want {
			t.Errorf("%d other coins: %v, want %d", others, r, want)
		}
	}
}

func TestTheFirstBlockIsTakenBack(t *testing.T) {
	l := ledgerBy(by("block 0 1 5 -"))
	r := holdConnectAgainstPlain(t, l, impl.State{}, 1)
	if !sameStateResults(r, impl.StateResult{Undo: impl.Undo{Id: 1}, State: stateOf(1, 1, []impl.Coin{minedCoin(1, 1000, 1, 5)})}) {
		t.Error(r)
	}
	if back := holdDisconnectAgainstPlain(t, l, r.State, r.Undo); !sameStateResults(back, impl.StateResult{}) {
		t.Error(back)
	}
	// There is nothing behind it.
	if back := holdDisconnectAgainstPlain(t, l, impl.State{}, impl.Undo{}); !sameStateResults(back, impl.StateResult{Code: impl.ErrState}) {
		t.Error(back)
	}
}

// Folding.

// longLedger has a chain of 40 blocks, and a text that is none behind them.
func longLedger() (impl.Ledger, []int64) {
	var l impl.Ledger
	for i := range int64(40) {
		l.Texts = append(l.Texts, impl.BlockText(blockOf(i, i+1, 5)).Text)
	}
	l.Texts = append(l.Texts, "a")
	return l, manyTxs(40)
}

func TestFoldEdges(t *testing.T) {
	l, ids := longLedger()
	for n := range 41 {
		r := holdFoldAgainstPlain(t, l, ids[:n])
		if r.Code != impl.OK || r.State.Height != int64(n) || r.State.Tip != int64(n) || r.Fees != 0 || len(r.State.Coins) != n || !sameUndos(r.Undo, impl.Undo{}) {
			t.Errorf("%d: %v", n, r)
		}
	}
	rows := []struct {
		name string
		ids  []int64
		code int64
	}{
		{"41", append(manyTxs(40), 41), impl.ErrMany},
		{"41, the first is wrong", append([]int64{0}, manyTxs(40)...), impl.ErrMany},
		{"very many", make([]int64, 1000), impl.ErrMany},
		{"0", []int64{0}, impl.ErrRange},
		{"-1 behind others", []int64{1, 2, -1}, impl.ErrRange},
		{"one more than there are", []int64{1, 42}, impl.ErrRange},
		{"no block", []int64{1, 2, 41}, impl.ErrText},
		{"not from the first one on", []int64{2, 3}, impl.ErrState},
		{"one is left out", []int64{1, 3}, impl.ErrState},
		{"one twice", []int64{1, 1}, impl.ErrState},
		{"one twice, apart", []int64{1, 2, 1}, impl.ErrState},
		{"out of order", []int64{1, 3, 2}, impl.ErrState},
		{"backwards", []int64{3, 2, 1}, impl.ErrState},
		{"the first wrong one tells", []int64{1, 3, 0, 41}, impl.ErrState},
		{"the first wrong one tells, the other way round", []int64{1, 0, 3, 41}, impl.ErrRange},
	}
	for _, row := range rows {
		if r := holdFoldAgainstPlain(t, l, row.ids); !sameStateResults(r, impl.StateResult{Code: row.code}) {
			t.Errorf("%s: %v, want %d", row.name, r, row.code)
		}
	}
	for _, none := range [][]int64{nil, {}} {
		if r := holdFoldAgainstPlain(t, impl.Ledger{}, none); !sameStateResults(r, impl.StateResult{}) {
			t.Error(r)
		}
	}
}

// All short lists of numbers of the story: just its beginnings can be folded.
func TestShortFoldsByThePlainReading(t *testing.T) {
	l, ids := story()
	listsOf([]int64{0, 1, 2, 3, 6, 8, 15}, 4, func(list []int64) {
		r := holdFoldAgainstPlain(t, l, list)
		if begins := slices.Equal(list, ids[:min(len(list), len(ids))]); begins != (r.Code == impl.OK) {
			t.Fatalf("%v: %v", list, r)
		}
	})
}

// Two blocks ahead of the same one: each is folded apart from the other.
func TestFoldsOfTwoBranches(t *testing.T) {
	l, ids := story()
	l.Texts = append(l.Texts, "block 2 3 9 -", "block 15 4 9 3", "block 6 4 9 -")
	other := holdFoldAgainstPlain(t, l, []int64{1, 2, 15, 16})
	if other.Code != impl.OK || other.Fees != 100 || other.State.Tip != 16 || len(other.State.Members) != 0 {
		t.Error(other)
	}
	if r := holdFoldAgainstPlain(t, l, []int64{1, 2, 6, 17}); r.Code != impl.OK || r.Fees != 110 {
		t.Error(r)
	}
	if r := holdFoldAgainstPlain(t, l, []int64{1, 2, 6, 16}); r.Code != impl.ErrState {
		t.Error(r)
	}
	if r := holdFoldAgainstPlain(t, l, ids); !impl.SameStates(r.State, storyStates()[6]) || r.Fees != 130 {
		t.Error(r)
	}
}

func TestSupplies(t *testing.T) {
	rows := map[int64]int64{0: 0, 1: 1000, 2: 2000, 8: 8000, 9: 8500, 16: 12000, 17: 12250, 24: 14000, 25: 14125, 32: 15000, 33: 15062, 40: 15496}
	for height, want := range rows {
		if r := impl.SupplyTo(height); r != (impl.IntResult{Value: want}) {
			t.Errorf("SupplyTo(%d) = %v, want %d", height, r, want)
		}
	}
	for _, height := range []int64{math.MinInt64, -2, -1, 41, 42, 999, math.MaxInt64} {
		if r := impl.SupplyTo(height); r != (impl.IntResult{Code: impl.ErrRange}) {
			t.Errorf("SupplyTo(%d) = %v", height, r)
		}
	}
	for height := int64(-3); height <= 43; height++ {
		if got, want := impl.SupplyTo(height), plainSupply(height); got != want {
			t.Errorf("SupplyTo(%d) = %v, want %v", height, got, want)
		}
	}
}

func TestSameStates(t *testing.T) {
	states := append(storyStates(), stateOf(60, 40, manyCoins(40), manyMembers(8)...), stateOf(1, 1, nil))
	for _, row := range wrongStates() {
		states = append(states, row.state)
	}
	for _, s := range states {
		if !impl.SameStates(s, s) || !impl.SameStates(s, copyState(s)) {
			t.Errorf("%v is not the same as itself", s)
		}
		for _, other := range onlyOneElse(s) {
			if impl.SameStates(s, other) || impl.SameStates(other, s) {
				t.Errorf("%v is the same as %v", s, other)
			}
		}
		for _, other := range states {
			if got, want := impl.SameStates(s, other), plainSameStates(s, other); got != want {
				t.Errorf("SameStates(%v, %v) = %v", s, other, got)
			}
		}
	}
	if !impl.SameStates(impl.State{}, impl.State{Coins: []impl.Coin{}, Members: []impl.Member{}}) {
		t.Error("empty and nil are not the same")
	}
}

// onlyOneElse has states in which just one field, one coin or one member is another.
func onlyOneElse(s impl.State) []impl.State {
	var all []impl.State
	change := func(do func(s *impl.State)) {
		other := copyState(s)
		do(&other)
		all = append(all, other)
	}
	change(func(s *impl.State) { s.Tip ^= 1 })
	change(func(s *impl.State) { s.Height ^= 1 })
	change(func(s *impl.State) { s.Coins = append(s.Coins, coinOf(60, 3, 5, 2)) })
	change(func(s *impl.State) { s.Members = append(s.Members, memberOf(999, 60, 3)) })
	for i := range s.Coins {
		change(func(s *impl.State) { s.Coins = slices.Delete(s.Coins, i, i+1) })
		change(func(s *impl.State) { s.Coins[i].Ref.At ^= 1 })
		change(func(s *impl.State) { s.Coins[i].Out.Value ^= 1 })
		change(func(s *impl.State) { s.Coins[i].Out.Rule.After ^= 1 })
		change(func(s *impl.State) { s.Coins[i].Out.Rule.Keys = append(s.Coins[i].Out.Rule.Keys, 999) })
		change(func(s *impl.State) { s.Coins[i].Height ^= 1 })
		change(func(s *impl.State) { s.Coins[i].Mined = !s.Coins[i].Mined })
	}
	for i := range s.Members {
		change(func(s *impl.State) { s.Members = slices.Delete(s.Members, i, i+1) })
		change(func(s *impl.State) { s.Members[i].Key ^= 1 })
		change(func(s *impl.State) { s.Members[i].Ref.Tx ^= 1 })
		change(func(s *impl.State) { s.Members[i].Ref.At ^= 1 })
	}
	return all
}

// Promise 1: memory, nil and empty, the same again.

// roomyState has marks behind its lists that nobody may write to.
func roomyState(s impl.State) impl.State {
	s.Coins, s.Members = roomyCoins(s.Coins), roomyMembers(s.Members)
	return s
}

// roomyUndo has a coin behind its Spent as well.
func roomyUndo(u impl.Undo) impl.Undo {
	whole := [][]impl.Coin{}
	for _, list := range u.Spent {
		whole = append(whole, roomyCoins(list))
	}
	whole = append(whole, []impl.Coin{coinOf(77, 78, 79, 80)})
	u.Spent, u.Members = whole[:len(u.Spent)], roomyMembers(u.Members)
	return u
}

// wholeCoins tells the list with what stands behind it, and behind the keys of each coin.
func wholeCoins(list []impl.Coin) ([]impl.Coin, []int64) {
	return copyCoins(list[:cap(list)]), wholeKeys(list)
}

func holdUnchanged(t *testing.T, name string, list []impl.Coin, do func()) {
	t.Helper()
	was, wasKeys := wholeCoins(list)
	do()
	if now, keys := wholeCoins(list); !plainSameCoins(now, was) || !slices.Equal(keys, wasKeys) {
		t.Errorf("%s: an argument was changed: %v, it was %v", name, now, was)
	}
}

func TestStatesAreNotChanged(t *testing.T) {
	for _, row := range disconnectRows() {
		plain, ids := story()
		r := impl.ConnectBlock(plain, storyStates()[2], 6)
		row.change(&plain, &r.State, &r.Undo)
		l, texts, signs := roomy(plain)
		wasTexts, wasSigns := slices.Clone(texts), slices.Clone(signs)
		u := roomyUndo(r.Undo)
		wasUndo := copyUndo(u)
		for _, s := range append(storyStates(), r.State) {
			s = roomyState(s)
			members, undone := s.Members[:cap(s.Members)], u.Members[:cap(u.Members)]
			wasMembers, wasUndone := slices.Clone(members), slices.Clone(undone)
			holdUnchanged(t, row.name, s.Coins, func() {
				impl.StateFault(s)
				impl.SameStates(s, s)
				for id := range int64(16) {
					impl.ConnectBlock(l, s, id)
				}
				for _, list := range append(u.Spent[:len(u.Spent):len(u.Spent)], u.Spent[:cap(u.Spent)]...) {
					holdUnchanged(t, row.name, list, func() { impl.DisconnectBlock(l, s, u) })
				}
			})
			if !slices.Equal(members, wasMembers) || !slices.Equal(undone, wasUndone) || !sameUndos(u, wasUndo) {
				t.Errorf("%s: an argument was changed: %v %v %v", row.name, members, undone, u)
			}
		}
		impl.FoldBlocks(l, ids)
		if !slices.Equal(texts, wasTexts) || !slices.Equal(signs, wasSigns) {
			t.Errorf("%s: the ledger was changed: %v %v", row.name, texts, signs)
		}
	}
}

// A transaction in the midst of a block fails: what those ahead of it did leaves no trace in the arguments.
func TestABlockThatFailsChangesNothing(t *testing.T) {
	l, _ := story()
	l.Texts = append(l.Texts, "pay 3:1 301=1_of_5", "block 2 3 7 3+4+15", "block 6 4 7 7+9+15", "block 6 4 7 9+7+60", "block 2 3 7 3+4+5+7+9+1")
	l.Signs = append(l.Signs, impl.Sign{Key: 3, Id: 15}, impl.Sign{Key: 4, Id: 15})
	codes := map[int64]int64{16: impl.ErrValue, 17: impl.ErrNone, 18: impl.ErrRange, 19: impl.ErrText}
	for id, code := range codes {
		s := roomyState(storyStates()[plainBlockIn(l, id).Block.Height-1])
		members := s.Members[:cap(s.Members)]
		wasMembers := slices.Clone(members)
		ids := append([]int64{1, 2, 6}[:s.Height:3], id, 77)
		holdUnchanged(t, l.Texts[id-1], s.Coins, func() {
			if r := impl.ConnectBlock(l, s, id); !sameStateResults(r, impl.StateResult{Code: code}) {
				t.Errorf("%q: %v, want %d", l.Texts[id-1], r, code)
			}
			if r := impl.FoldBlocks(l, ids[:len(ids)-1]); !sameStateResults(r, impl.StateResult{Code: code}) {
				t.Errorf("%q, folded: %v, want %d", l.Texts[id-1], r, code)
			}
		})
		if !slices.Equal(members, wasMembers) || ids[len(ids)-1] != 77 {
			t.Errorf("%q: an argument was changed: %v %v", l.Texts[id-1], members, ids)
		}
	}
}

// parts are the lists of coins and of members of an answer, each apart.
func parts(r *impl.StateResult) ([][]impl.Coin, [][]impl.Member) {
	return append(slices.Clone(r.Undo.Spent), r.State.Coins), [][]impl.Member{r.Undo.Members, r.State.Members}
}

func spoilMembers(list []impl.Member) {
	clear(list[:cap(list)])
}

// holdApart: who writes to one part of an answer writes to no other one.
func holdApart(t *testing.T, name string, call func() impl.StateResult) {
	t.Helper()
	r := call()
	coins, members := parts(&r)
	for i := range len(coins) + len(members) {
		r := call()
		coins, members := parts(&r)
		if i < len(coins) {
			coinsShareNone(t, name, coins[i])
			spoilCoins(coins[i])
		} else {
			spoilMembers(members[i-len(coins)])
		}
		whole := call()
		wantCoins, wantMembers := parts(&whole)
		for j := range coins {
			if i != j && !plainSameCoins(coins[j], wantCoins[j]) {
				t.Errorf("%s: the parts %d and %d share memory", name, i, j)
			}
		}
		for j := range members {
			if i != j+len(coins) && !plainSameMembers(members[j], wantMembers[j]) {
				t.Errorf("%s: the parts %d and %d share memory", name, i, j+len(coins))
			}
		}
	}
}

func spoilState(s impl.State) {
	spoilCoins(s.Coins)
	spoilMembers(s.Members)
}

func spoilUndo(u impl.Undo) {
	for _, list := range u.Spent {
		spoilCoins(list)
	}
	clear(u.Spent[:cap(u.Spent)])
	spoilMembers(u.Members)
}

func TestAnswersOfStatesShareNoMemory(t *testing.T) {
	l, ids := story()
	for i, s := range storyStates()[:len(ids)] {
		done := impl.ConnectBlock(l, s, ids[i])
		calls := map[string]func(impl.State, impl.State, impl.Undo) impl.StateResult{
			"ConnectBlock": func(s, _ impl.State, _ impl.Undo) impl.StateResult { return impl.ConnectBlock(l, s, ids[i]) },
			"DisconnectBlock": func(_, s impl.State, u impl.Undo) impl.StateResult {
				return impl.DisconnectBlock(l, s, u)
			},
			"FoldBlocks": func(_, _ impl.State, _ impl.Undo) impl.StateResult { return impl.FoldBlocks(l, ids[:i+1]) },
		}
		for name, call := range calls {
			ahead, behind, undo := copyState(s), copyState(done.State), copyUndo(done.Undo)
			holdApart(t, name, func() impl.StateResult { return call(ahead, behind, undo) })
			answer, again := call(ahead, behind, undo), call(ahead, behind, undo)
			want := impl.StateResult{Fees: answer.Fees, Undo: copyUndo(answer.Undo), State: copyState(answer.State)}
			spoilState(answer.State)
			spoilUndo(answer.Undo)
			if !plainSameStates(ahead, s) || !plainSameStates(behind, done.State) || !sameUndos(undo, done.Undo) {
				t.Errorf("%s: who writes to the answer writes to an argument", name)
			}
			spoilState(ahead)
			spoilState(behind)
			spoilUndo(undo)
			if !sameStateResults(again, want) {
				t.Errorf("%s: who writes to an argument or to another answer writes to the answer: %v", name, again)
			}
		}
	}
}

func TestEmptyAndNilOfStatesAreTheSame(t *testing.T) {
	l := ledgerBy(by("block 0 1 5 -"))
	bare, hollow := impl.State{}, impl.State{Coins: []impl.Coin{}, Members: []impl.Member{}}
	if impl.StateFault(hollow) != impl.OK || !impl.SameStates(bare, hollow) {
		t.Error(hollow)
	}
	r := impl.ConnectBlock(l, bare, 1)
	if s := holdConnectAgainstPlain(t, l, hollow, 1); !sameStateResults(r, s) {
		t.Error(r, s)
	}
	if back := holdDisconnectAgainstPlain(t, l, r.State, impl.Undo{Id: 1, Spent: [][]impl.Coin{}, Members: []impl.Member{}}); !sameStateResults(back, impl.StateResult{}) {
		t.Error(back)
	}
	with := r.State
	with.Members = []impl.Member{}
	if back := holdDisconnectAgainstPlain(t, l, with, impl.Undo{Id: 1}); !sameStateResults(back, impl.StateResult{}) {
		t.Error(back)
	}
	if a, b := impl.FoldBlocks(l, nil), impl.FoldBlocks(l, []int64{}); !sameStateResults(a, b) {
		t.Error(a, b)
	}
	// A list in Spent that is empty is none that is missing.
	one := ledgerBy(by("pay 50:0 1=1_of_1", 1), by("block 0 1 9 1"))
	done := impl.ConnectBlock(one, stateOf(0, 0, purseOf()), 2)
	for _, none := range [][]impl.Coin{nil, {}} {
		if back := holdDisconnectAgainstPlain(t, one, done.State, impl.Undo{Id: 2, Spent: [][]impl.Coin{none}}); back.Code != impl.ErrForm {
			t.Error(back)
		}
	}
}

// What was asked in between, blocks that failed as well, leaves no trace.
func TestStatesHangOnTheArgumentsAlone(t *testing.T) {
	l, ids := story()
	states := storyStates()
	var first []impl.StateResult
	for i, id := range ids {
		first = append(first, impl.ConnectBlock(l, states[i], id))
	}
	for range 20 {
		for i, id := range ids {
			impl.ConnectBlock(l, states[i], 60)
			impl.ConnectBlock(l, states[i+1], id)
			impl.DisconnectBlock(l, states[i], first[i].Undo)
			impl.FoldBlocks(l, []int64{1, 2, 6, 9})
			if r := impl.ConnectBlock(l, states[i], id); !sameStateResults(r, first[i]) {
				t.Fatal(r)
			}
			if r := impl.DisconnectBlock(l, first[i].State, first[i].Undo); !sameStateResults(r, impl.StateResult{State: states[i]}) {
				t.Fatal(r)
			}
			if r := impl.FoldBlocks(l, ids[:i+1]); !plainSameStates(r.State, states[i+1]) {
				t.Fatal(r)
			}
		}
	}
}
