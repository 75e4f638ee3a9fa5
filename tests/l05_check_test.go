package tests

import (
	"math"
	"math/rand"
	"slices"
	"testing"

	"loop.example/g00304/impl"
)

// The plain reading of chapter 5, list by list: what the program is held against.

func plainIsRipe(x impl.Coin, height int64) bool {
	if x.Height < 0 || x.Height > 999 || height < 0 || height > 999 {
		return false
	}
	if x.Mined {
		return height >= x.Height+2
	}
	return true
}

func plainSpentBy(coins []impl.Coin, tx impl.Tx) impl.CoinsResult {
	if code := plainCoinsFault(coins); code != impl.OK {
		return impl.CoinsResult{Code: code}
	}
	if code := plainTxFault(tx); code != impl.OK {
		return impl.CoinsResult{Code: code}
	}
	var spent []impl.Coin
	for _, coin := range coins {
		if slices.Contains(tx.Ins, coin.Ref) {
			spent = append(spent, coin)
		}
	}
	if len(spent) < len(tx.Ins) {
		return impl.CoinsResult{Code: impl.ErrNone}
	}
	return impl.CoinsResult{Coins: spent}
}

func plainCheck(l impl.Ledger, coins []impl.Coin, tx impl.Tx, height int64) impl.IntResult {
	fail := func(code int64) impl.IntResult { return impl.IntResult{Code: code} }
	for _, code := range []int64{plainFault(l), plainCoinsFault(coins), plainTxFault(tx)} {
		if code != impl.OK {
			return fail(code)
		}
	}
	if height < 0 || height > 999 {
		return fail(impl.ErrRange)
	}
	text := plainTxText(tx)
	if text.Code != impl.OK {
		return fail(text.Code)
	}
	id := plainIdOf(l, text.Text)
	if id.Code != impl.OK {
		return fail(id.Code)
	}
	spent := plainSpentBy(coins, tx)
	if spent.Code != impl.OK {
		return fail(spent.Code)
	}
	var sum int64
	for _, coin := range spent.Coins {
		if !plainIsRipe(coin, height) {
			return fail(impl.ErrEarly)
		}
		if code := plainRuleMet(l, coin.Out.Rule, id.Value, height); code != impl.OK {
			return fail(code)
		}
		sum += coin.Out.Value
	}
	if tx.Kind == impl.KindLeave && !plainHas(l, tx.Member, id.Value) {
		return fail(impl.ErrSign)
	}
	for _, out := range tx.Outs {
		sum -= out.Value
	}
	if sum < 0 {
		return fail(impl.ErrValue)
	}
	return impl.IntResult{Value: sum}
}

func plainSpend(coins []impl.Coin, tx impl.Tx, id, height int64) impl.CoinsResult {
	if spent := plainSpentBy(coins, tx); spent.Code != impl.OK {
		return impl.CoinsResult{Code: spent.Code}
	}
	if plainCoinAtTx(coins, id) {
		return impl.CoinsResult{Code: impl.ErrTaken}
	}
	return plainPut(plainTake(coins, tx.Ins).Coins, id, tx.Outs, height, false)
}

func plainUndo(coins []impl.Coin, tx impl.Tx, id int64, spent []impl.Coin) impl.CoinsResult {
	fail := func(code int64) impl.CoinsResult { return impl.CoinsResult{Code: code} }
	for _, code := range []int64{plainCoinsFault(coins), plainCoinsFault(spent), plainTxFault(tx)} {
		if code != impl.OK {
			return fail(code)
		}
	}
	if id < 1 || id > 60 {
		return fail(impl.ErrRange)
	}
	if len(spent) != len(tx.Ins) {
		return fail(impl.ErrForm)
	}
	for _, coin := range spent {
		if !slices.Contains(tx.Ins, coin.Ref) {
			return fail(impl.ErrForm)
		}
	}
	var left []impl.Coin
	made := map[int64]impl.Out{}
	taken := false
	for _, coin := range coins {
		taken = taken || slices.Contains(tx.Ins, coin.Ref)
		if coin.Ref.Tx == id {
			made[coin.Ref.At] = coin.Out
		} else {
			left = append(left, coin)
		}
	}
	if len(made) != len(tx.Outs) {
		return fail(impl.ErrNone)
	}
	for at, out := range tx.Outs {
		if !plainSameTxs(pay(nil, made[int64(at)]), pay(nil, out)) {
			return fail(impl.ErrNone)
		}
	}
	if taken {
		return fail(impl.ErrTaken)
	}
	left = append(left, spent...)
	slices.SortFunc(left, func(a, b impl.Coin) int {
		if plainIsBelow(a.Ref, b.Ref) {
			return -1
		}
		return 1
	})
	if len(left) > 40 {
		return fail(impl.ErrMany)
	}
	return impl.CoinsResult{Coins: left}
}

// notedTx is a ledger that knows the transaction by the number 3, and who signed it.
func notedTx(tx impl.Tx, keys ...int64) impl.Ledger {
	l := impl.Ledger{Texts: []string{"a", "pay 1:0 5=1_of_999", plainTxText(tx).Text, "z"}}
	for _, key := range keys {
		l.Signs = append(l.Signs, impl.Sign{Key: key, Id: 3})
	}
	return l
}

func ruleWith(need, after int64, keys ...int64) impl.Rule {
	return impl.Rule{Keys: keys, Need: need, After: after}
}

func coinWith(tx, at, value, height int64, mined bool, rule impl.Rule) impl.Coin {
	return impl.Coin{Ref: impl.Ref{Tx: tx, At: at}, Out: impl.Out{Value: value, Rule: rule}, Height: height, Mined: mined}
}

// spentCoins are those that bigTx spends, and others between them.
func spentCoins() []impl.Coin {
	return []impl.Coin{
		coinWith(1, 3, 50, 2, false, ruleWith(1, 0, 9)),
		coinWith(2, 1, 100, 4, true, ruleWith(1, 0, 2)),
		coinWith(5, 0, 70, 4, false, ruleWith(2, 9, 2, 3, 4)),
		coinWith(5, 1, 999, 4, false, ruleWith(1, 0, 9)),
		coinWith(8, 0, 30, 10, true, ruleWith(1, 11, 7)),
		coinWith(60, 2, 1, 1, true, ruleWith(1, 0, 9)),
	}
}

func bigTx() impl.Tx {
	return pay(refsOf(8, 0, 2, 1, 5, 0), outOf(120, 2), outOf(60, 3, 4), impl.Out{Value: 10, Rule: ruleWith(2, 20, 1, 2, 3)})
}

func holdSpendAgainstPlain(t *testing.T, coins []impl.Coin, tx impl.Tx, id, height int64) {
	t.Helper()
	was, wasTx := copyCoins(coins), copyTx(tx)
	if got, want := impl.SpentBy(coins, tx), plainSpentBy(coins, tx); !sameCoinsResults(got, want) {
		t.Fatalf("SpentBy(%v, %v) = %v, want %v", coins, tx, got, want)
	}
	if got, want := impl.SpendTx(coins, tx, id, height), plainSpend(coins, tx, id, height); !sameCoinsResults(got, want) {
		t.Fatalf("SpendTx(%v, %v, %d, %d) = %v, want %v", coins, tx, id, height, got, want)
	}
	if !plainSameCoins(coins, was) || !plainSameTxs(tx, wasTx) {
		t.Fatalf("an argument was changed: %v %v", coins, tx)
	}
}

func holdCheckAgainstPlain(t *testing.T, l impl.Ledger, coins []impl.Coin, tx impl.Tx, height int64) {
	t.Helper()
	wasLedger, was, wasTx := copyLedger(l), copyCoins(coins), copyTx(tx)
	if got, want := impl.CheckTx(l, coins, tx, height), plainCheck(l, coins, tx, height); got != want {
		t.Fatalf("CheckTx(%v, %v, %v, %d) = %v, want %v", l, coins, tx, height, got, want)
	}
	if !sameLedgers(l, wasLedger) || !plainSameCoins(coins, was) || !plainSameTxs(tx, wasTx) {
		t.Fatalf("an argument was changed: %v %v %v", l, coins, tx)
	}
}

func holdUndoAgainstPlain(t *testing.T, coins []impl.Coin, tx impl.Tx, id int64, spent []impl.Coin) {
	t.Helper()
	was, wasTx, wasSpent := copyCoins(coins), copyTx(tx), copyCoins(spent)
	if got, want := impl.UndoTx(coins, tx, id, spent), plainUndo(coins, tx, id, spent); !sameCoinsResults(got, want) {
		t.Fatalf("UndoTx(%v, %v, %d, %v) = %v, want %v", coins, tx, id, spent, got, want)
	}
	if !plainSameCoins(coins, was) || !plainSameTxs(tx, wasTx) || !plainSameCoins(spent, wasSpent) {
		t.Fatalf("an argument was changed: %v %v %v", coins, tx, spent)
	}
}

// Promise 6: who spends has the signatures for it, and nothing is made out of nothing; what a transaction did is taken back, and all is as it was.

func TestAnOrdinaryTransaction(t *testing.T) {
	coins, tx := spentCoins(), bigTx()
	l := notedTx(tx, 2, 3, 7)
	if r := impl.CheckTx(l, coins, tx, 12); r != (impl.IntResult{Value: 10}) {
		t.Error("CheckTx:", r)
	}
	spent := impl.SpentBy(coins, tx)
	if !sameCoinsResults(spent, impl.CoinsResult{Coins: []impl.Coin{coins[1], coins[2], coins[4]}}) {
		t.Error("SpentBy:", spent)
	}
	made := impl.SpendTx(coins, tx, 3, 12)
	want := []impl.Coin{coins[0], coinWith(3, 0, 120, 12, false, ruleWith(1, 0, 2)), coinWith(3, 1, 60, 12, false, ruleWith(1, 0, 3, 4)), coinWith(3, 2, 10, 12, false, ruleWith(2, 20, 1, 2, 3)), coins[3], coins[5]}
	if !sameCoinsResults(made, impl.CoinsResult{Coins: want}) {
		t.Error("SpendTx:", made)
	}
	if impl.CoinSum(made.Coins).Value+10 != impl.CoinSum(coins).Value {
		t.Error("all but the fee is there:", made)
	}
	back := impl.UndoTx(made.Coins, tx, 3, spent.Coins)
	if !sameCoinsResults(back, impl.CoinsResult{Coins: coins}) {
		t.Error("UndoTx:", back)
	}
}

// Whatever signs: who may spend has all signatures that each of the rules needs.
func TestWhoSpendsHasTheSignatures(t *testing.T) {
	coins := spentCoins()
	keys := []int64{2, 3, 4, 7, 9}
	for _, tx := range []impl.Tx{bigTx(), withMember(impl.KindLeave, 4, bigTx().Ins, bigTx().Outs...), withMember(impl.KindLeave, 9, bigTx().Ins, bigTx().Outs...), withMember(impl.KindJoin, 9, bigTx().Ins, bigTx().Outs...)} {
		for mask := range 1 << len(keys) {
			var who []int64
			for i, key := range keys {
				if mask>>i&1 == 1 {
					who = append(who, key)
				}
			}
			has := func(key int64) bool { return slices.Contains(who, key) }
			ok := has(2) && (has(3) || has(4)) && has(7)
			if tx.Kind == impl.KindLeave {
				ok = ok && has(tx.Member)
			}
			want := impl.IntResult{Code: impl.ErrSign}
			if ok {
				want = impl.IntResult{Value: 10}
			}
			if r := impl.CheckTx(notedTx(tx, who...), coins, tx, 12); r != want {
				t.Errorf("%v signed %v: %v, want %v", who, tx, r, want)
			}
			holdCheckAgainstPlain(t, notedTx(tx, who...), coins, tx, 12)
		}
	}
}

// Who signed another text has not signed this one.
func TestSignaturesOfAnotherTextAreNone(t *testing.T) {
	coins, tx := spentCoins(), bigTx()
	for id := int64(1); id <= 4; id++ {
		l := notedTx(tx, 2, 7)
		l.Signs = append(l.Signs, impl.Sign{Key: 3, Id: id})
		want := impl.IntResult{Code: impl.ErrSign}
		if id == 3 {
			want = impl.IntResult{Value: 10}
		}
		if r := impl.CheckTx(l, coins, tx, 12); r != want {
			t.Errorf("id %d: %v", id, r)
		}
	}
	leave := withMember(impl.KindLeave, 9, tx.Ins, tx.Outs...)
	for id := int64(1); id <= 4; id++ {
		l := notedTx(leave, 2, 3, 7)
		l.Signs = append(l.Signs, impl.Sign{Key: 9, Id: id})
		want := impl.IntResult{Code: impl.ErrSign}
		if id == 3 {
			want = impl.IntResult{Value: 10}
		}
		if r := impl.CheckTx(l, coins, leave, 12); r != want {
			t.Errorf("leave, id %d: %v", id, r)
		}
	}
}

func TestNothingIsMadeOutOfNothing(t *testing.T) {
	rows := []struct {
		out  int64
		want impl.IntResult
	}{
		{1, impl.IntResult{Value: 199}}, {198, impl.IntResult{Value: 2}}, {199, impl.IntResult{Value: 1}}, {200, impl.IntResult{}},
		{201, impl.IntResult{Code: impl.ErrValue}}, {1000000, impl.IntResult{Code: impl.ErrValue}},
	}
	for _, row := range rows {
		tx := pay(bigTx().Ins, outOf(row.out, 2))
		if r := impl.CheckTx(notedTx(tx, 2, 3, 7), spentCoins(), tx, 12); r != row.want {
			t.Errorf("%d out: %v, want %v", row.out, r, row.want)
		}
		if row.out == 201 {
			// What is made of them together counts, and that they are signed for comes first.
			tx = pay(bigTx().Ins, outOf(100, 2), outOf(101, 3))
			if r := impl.CheckTx(notedTx(tx, 2, 3, 7), spentCoins(), tx, 12); r != row.want {
				t.Error(r)
			}
			if r := impl.CheckTx(notedTx(tx, 2, 3), spentCoins(), tx, 12); r.Code != impl.ErrSign {
				t.Error(r)
			}
			tx = withMember(impl.KindLeave, 9, tx.Ins, tx.Outs...)
			if r := impl.CheckTx(notedTx(tx, 2, 3, 7), spentCoins(), tx, 12); r.Code != impl.ErrSign {
				t.Error(r)
			}
			if r := impl.CheckTx(notedTx(tx, 2, 3, 7, 9), spentCoins(), tx, 12); r != row.want {
				t.Error(r)
			}
		}
	}
	full := manyCoins(40)
	for i := range full {
		full[i].Out.Value, full[i].Mined = 1000000, false
	}
	tx := pay(refsOf(1, 0, 1, 1, 1, 2, 1, 3), outOf(1, 1))
	if r := impl.CheckTx(notedTx(tx, 900), full, tx, 999); r != (impl.IntResult{Value: 3999999}) {
		t.Error(r)
	}
}

func TestIsRipe(t *testing.T) {
	for _, at := range []int64{math.MinInt64, -1000, -3, -2, -1, 0, 1, 2, 500, 996, 997, 998, 999, 1000, 1001, math.MaxInt64 - 1, math.MaxInt64} {
		heights := []int64{math.MinInt64, -2, -1, 0, 1, 2, 3, 500, 997, 998, 999, 1000, math.MaxInt64}
		if at > -2000 && at < 2000 {
			heights = append(heights, at-1, at, at+1, at+2, at+3)
		}
		for _, height := range heights {
			for _, mined := range []bool{false, true} {
				coin := coinWith(1, 0, 5, at, mined, ruleOf(2))
				if got, want := impl.IsRipe(coin, height), plainIsRipe(coin, height); got != want {
					t.Errorf("mined %v at %d, height %d: %v, want %v", mined, at, height, got, want)
				}
			}
		}
	}
	rows := []struct {
		mined      bool
		at, height int64
		ripe       bool
	}{
		{true, 5, 5, false}, {true, 5, 6, false}, {true, 5, 7, true}, {true, 5, 8, true}, {true, 5, 4, false},
		{false, 5, 5, true}, {false, 5, 4, true}, {false, 5, 0, true}, {false, 999, 0, true},
		{true, 0, 0, false}, {true, 0, 1, false}, {true, 0, 2, true}, {true, 997, 999, true}, {true, 998, 999, false}, {true, 999, 999, false},
		{true, -1, 1, false}, {true, -1, 999, false}, {true, 5, 1000, false}, {true, 998, 1000, false}, {true, 1000, 999, false}, {true, 5, -1, false},
		{false, -1, 5, false}, {false, 1000, 5, false}, {false, 5, -1, false}, {false, 5, 1000, false}, {false, 0, 0, true}, {false, 999, 999, true},
	}
	for _, row := range rows {
		if got := impl.IsRipe(coinWith(1, 0, 5, row.at, row.mined, ruleOf(2)), row.height); got != row.ripe {
			t.Errorf("%v: %v", row, got)
		}
	}
	// The coin's other fields are not asked.
	if !impl.IsRipe(impl.Coin{}, 0) || impl.IsRipe(impl.Coin{Mined: true}, 1) || !impl.IsRipe(impl.Coin{Mined: true}, 2) {
		t.Error("a coin with nothing in it")
	}
}

// The edges that the document names, and wrong inputs.

func TestNoCoinOfAnIn(t *testing.T) {
	coins, tx := spentCoins(), bigTx()
	l := notedTx(tx, 2, 3, 7)
	without := func(gone ...int) []impl.Coin {
		var left []impl.Coin
		for i, coin := range coins {
			if !slices.Contains(gone, i) {
				left = append(left, coin)
			}
		}
		return left
	}
	for name, left := range map[string][]impl.Coin{"the first": without(4), "the middle": without(1), "the last": without(2), "all": without(1, 2, 4), "no coins": nil} {
		if r := impl.SpentBy(left, tx); !sameCoinsResults(r, impl.CoinsResult{Code: impl.ErrNone}) {
			t.Errorf("%s: SpentBy %v", name, r)
		}
		if r := impl.CheckTx(l, left, tx, 12); r != (impl.IntResult{Code: impl.ErrNone}) {
			t.Errorf("%s: CheckTx %v", name, r)
		}
		// A coin that is missing comes ahead of those that are there and neither ripe nor signed for.
		if r := impl.CheckTx(notedTx(tx), left, tx, 0); r != (impl.IntResult{Code: impl.ErrNone}) {
			t.Errorf("%s: CheckTx early %v", name, r)
		}
		for _, id := range []int64{0, 2, 30, 61} {
			if r := impl.SpendTx(left, tx, id, -1); !sameCoinsResults(r, impl.CoinsResult{Code: impl.ErrNone}) {
				t.Errorf("%s: SpendTx %v", name, r)
			}
		}
		holdSpendAgainstPlain(t, left, tx, 30, 12)
	}
	// The place within its transaction counts.
	near := pay(refsOf(2, 0), outOf(1, 1))
	if r := impl.SpentBy(coins, near); r.Code != impl.ErrNone {
		t.Error(r)
	}
}

func TestInsInAnyOrder(t *testing.T) {
	coins := spentCoins()
	refs := refsOf(2, 1, 5, 0, 8, 0)
	want := impl.CoinsResult{Coins: []impl.Coin{coins[1], coins[2], coins[4]}}
	var first impl.CoinsResult
	listsOf(refs, 3, func(ins []impl.Ref) {
		tx := pay(ins, bigTx().Outs...)
		holdSpendAgainstPlain(t, coins, tx, 30, 12)
		holdCheckAgainstPlain(t, notedTx(tx, 2, 3, 7), coins, tx, 12)
		if len(ins) < 3 || plainTxFault(tx) != impl.OK {
			return
		}
		if r := impl.SpentBy(coins, tx); !sameCoinsResults(r, want) {
			t.Errorf("%v: %v", ins, r)
		}
		made := impl.SpendTx(coins, tx, 30, 12)
		if len(first.Coins) == 0 {
			first = made
		}
		if made.Code != impl.OK || !sameCoinsResults(made, first) {
			t.Errorf("%v: %v", ins, made)
		}
		if r := impl.UndoTx(made.Coins, tx, 30, want.Coins); !sameCoinsResults(r, impl.CoinsResult{Coins: coins}) {
			t.Errorf("%v: %v", ins, r)
		}
	})
}

func TestCheckHeights(t *testing.T) {
	coins, tx := spentCoins(), bigTx()
	for _, l := range []impl.Ledger{notedTx(tx, 2, 3, 7), notedTx(tx, 2, 7), {}} {
		for _, height := range []int64{math.MinInt64, -1, 0, 5, 6, 8, 9, 10, 11, 12, 13, 998, 999, 1000, math.MaxInt64} {
			holdCheckAgainstPlain(t, l, coins, tx, height)
		}
	}
	rows := []struct {
		height int64
		want   impl.IntResult
	}{
		{-1, impl.IntResult{Code: impl.ErrRange}}, {0, impl.IntResult{Code: impl.ErrEarly}}, {11, impl.IntResult{Code: impl.ErrEarly}},
		{12, impl.IntResult{Value: 10}}, {999, impl.IntResult{Value: 10}}, {1000, impl.IntResult{Code: impl.ErrRange}},
	}
	for _, row := range rows {
		if r := impl.CheckTx(notedTx(tx, 2, 3, 7), coins, tx, row.height); r != row.want {
			t.Errorf("%d: %v, want %v", row.height, r, row.want)
		}
	}
	// At After, and one below it; a coin that is not mined needs no time to ripen.
	lone := pay(refsOf(5, 0), outOf(1, 1))
	for height, want := range map[int64]impl.IntResult{8: {Code: impl.ErrEarly}, 9: {Value: 69}, 10: {Value: 69}} {
		if r := impl.CheckTx(notedTx(lone, 2, 3), coins, lone, height); r != want {
			t.Errorf("%d: %v, want %v", height, r, want)
		}
	}
	young := pay(refsOf(1, 0), outOf(1, 1))
	if r := impl.CheckTx(notedTx(young, 2), []impl.Coin{coinWith(1, 0, 5, 999, false, ruleOf(2))}, young, 0); r != (impl.IntResult{Value: 4}) {
		t.Error(r)
	}
}

func TestJustEnoughSignatures(t *testing.T) {
	for need := int64(1); need <= 3; need++ {
		coins := []impl.Coin{coinWith(1, 0, 5, 0, false, ruleWith(need, 0, 2, 3, 4))}
		tx := pay(refsOf(1, 0), outOf(5, 1))
		for n := range int64(4) {
			want := impl.IntResult{}
			if n < need {
				want.Code = impl.ErrSign
			}
			if r := impl.CheckTx(notedTx(tx, []int64{2, 3, 4}[:n]...), coins, tx, 0); r != want {
				t.Errorf("need %d, %d signed: %v", need, n, r)
			}
			// Who is not among the keys does not count.
			if r := impl.CheckTx(notedTx(tx, append([]int64{1, 5, 6}, []int64{2, 3, 4}[:n]...)...), coins, tx, 0); r != want {
				t.Errorf("need %d, %d and others signed: %v", need, n, r)
			}
		}
	}
}

func TestATextThatWasNotNoted(t *testing.T) {
	coins, tx := spentCoins(), bigTx()
	other := copyTx(tx)
	slices.Reverse(other.Ins)
	for _, l := range []impl.Ledger{{}, {Texts: manyTexts(60)}, notedTx(other, 2, 3, 7)} {
		if r := impl.CheckTx(l, coins, tx, 12); r != (impl.IntResult{Code: impl.ErrNone}) {
			t.Error(l, r)
		}
		// That comes ahead of all that is asked of the coins, and behind the height.
		if r := impl.CheckTx(l, coins, tx, 0); r.Code != impl.ErrNone {
			t.Error(l, r)
		}
		if r := impl.CheckTx(l, coins, tx, 1000); r.Code != impl.ErrRange {
			t.Error(l, r)
		}
	}
}

// No text of a transaction is too long for a ledger: the longest one is checked, spent and taken back.
func TestTheLongestTransaction(t *testing.T) {
	tx := longestTx()
	var coins []impl.Coin
	for at := range int64(4) {
		coins = append(coins, coinWith(60, at, 1000000, 0, false, ruleWith(3, 999, 997, 998, 999)))
	}
	if r := impl.CheckTx(notedTx(tx, 997, 998, 999), coins, tx, 999); r != (impl.IntResult{}) {
		t.Error(r)
	}
	made := impl.SpendTx(coins, tx, 59, 999)
	if back := impl.UndoTx(made.Coins, tx, 59, impl.SpentBy(coins, tx).Coins); made.Code != impl.OK || !sameCoinsResults(back, impl.CoinsResult{Coins: coins}) {
		t.Error(made, back)
	}
}

// Coin by coin, in the order of the coins and not of Ins: all that is asked of one comes ahead of the next.
func TestWhichCoinIsAskedFirst(t *testing.T) {
	fine, young, closed, later := coinWith(1, 0, 5, 0, false, ruleOf(2)), coinWith(1, 1, 5, 9, true, ruleOf(2)), coinWith(1, 2, 5, 0, false, ruleOf(3)), coinWith(1, 3, 5, 0, false, ruleWith(1, 11, 2))
	kinds := []impl.Coin{fine, young, closed, later}
	codes := []int64{impl.OK, impl.ErrEarly, impl.ErrSign, impl.ErrEarly}
	listsOf([]int{0, 1, 2, 3}, 4, func(which []int) {
		if len(which) == 0 {
			return
		}
		var coins []impl.Coin
		var ins []impl.Ref
		want := impl.IntResult{Value: int64(5*len(which)) - 1}
		for i, kind := range which {
			coin := kinds[kind]
			coin.Ref = impl.Ref{Tx: int64(i + 1), At: 2}
			coins = append(coins, coin)
			ins = append(ins, coin.Ref)
			if want.Code == impl.OK && codes[kind] != impl.OK {
				want = impl.IntResult{Code: codes[kind]}
			}
		}
		forth := pay(ins, outOf(1, 1))
		back := copyTx(forth)
		slices.Reverse(back.Ins)
		for _, tx := range []impl.Tx{forth, back} {
			if r := impl.CheckTx(notedTx(tx, 2), coins, tx, 10); r != want {
				t.Fatalf("%v %v: %v, want %v", which, tx.Ins, r, want)
			}
		}
	})
	// Of one coin: that it is not ripe comes ahead of its rule, and After ahead of signatures.
	both := []impl.Coin{coinWith(1, 0, 5, 9, true, ruleOf(3))}
	tx := pay(refsOf(1, 0), outOf(1, 1))
	if r := impl.CheckTx(notedTx(tx), both, tx, 10); r.Code != impl.ErrEarly {
		t.Error(r)
	}
	if r := impl.CheckTx(notedTx(tx), both, tx, 11); r.Code != impl.ErrSign {
		t.Error(r)
	}
	// Of who leaves it is asked behind all coins.
	leave := withMember(impl.KindLeave, 8, refsOf(1, 0, 2, 0), outOf(1, 1))
	pair := []impl.Coin{coinWith(1, 0, 5, 0, false, ruleOf(2)), coinWith(2, 0, 5, 9, true, ruleOf(2))}
	if r := impl.CheckTx(notedTx(leave, 2), pair, leave, 10); r.Code != impl.ErrEarly {
		t.Error(r)
	}
	if r := impl.CheckTx(notedTx(leave, 2), pair, leave, 11); r.Code != impl.ErrSign {
		t.Error(r)
	}
	if r := impl.CheckTx(notedTx(leave, 2, 8), pair, leave, 11); r != (impl.IntResult{Value: 9}) {
		t.Error(r)
	}
}

// The faults come first: of the ledger, of the coins, of the transaction, each ahead of the next.
func TestFaultsOfWhatIsChecked(t *testing.T) {
	noted := notedTx(bigTx(), 2, 3, 7)
	for _, row := range faultRows() {
		for _, coins := range [][]impl.Coin{spentCoins(), {{}}} {
			for _, tx := range []impl.Tx{bigTx(), {Kind: 9}} {
				if r := impl.CheckTx(row.ledger, coins, tx, -1); r != (impl.IntResult{Code: row.code}) {
					t.Errorf("%s: %v, want %d", row.name, r, row.code)
				}
			}
		}
	}
	for _, row := range wrongCoins() {
		for _, tx := range []impl.Tx{bigTx(), {Kind: 9}, {}} {
			if r := impl.CheckTx(noted, row.coins, tx, -1); r != (impl.IntResult{Code: row.code}) {
				t.Errorf("%s: CheckTx %v, want %d", row.name, r, row.code)
			}
			want := impl.CoinsResult{Code: row.code}
			if r := impl.SpentBy(row.coins, tx); !sameCoinsResults(r, want) {
				t.Errorf("%s: SpentBy %v, want %d", row.name, r, row.code)
			}
			if r := impl.SpendTx(row.coins, tx, 0, -1); !sameCoinsResults(r, want) {
				t.Errorf("%s: SpendTx %v, want %d", row.name, r, row.code)
			}
			if r := impl.UndoTx(row.coins, tx, 0, []impl.Coin{{}, {}}); !sameCoinsResults(r, want) {
				t.Errorf("%s: UndoTx %v, want %d", row.name, r, row.code)
			}
			if r := impl.UndoTx(spentCoins(), tx, 0, row.coins); !sameCoinsResults(r, want) {
				t.Errorf("%s: UndoTx of spent %v, want %d", row.name, r, row.code)
			}
		}
	}
	for _, row := range wrongTxs() {
		want := impl.CoinsResult{Code: row.code}
		if r := impl.CheckTx(noted, spentCoins(), row.tx, -1); r != (impl.IntResult{Code: row.code}) {
			t.Errorf("%s: CheckTx %v, want %d", row.name, r, row.code)
		}
		if r := impl.SpentBy(nil, row.tx); !sameCoinsResults(r, want) {
			t.Errorf("%s: SpentBy %v, want %d", row.name, r, row.code)
		}
		if r := impl.SpendTx(manyCoins(40), row.tx, 1, -1); !sameCoinsResults(r, want) {
			t.Errorf("%s: SpendTx %v, want %d", row.name, r, row.code)
		}
		if r := impl.UndoTx(manyCoins(40), row.tx, 0, manyCoins(5)); !sameCoinsResults(r, want) {
			t.Errorf("%s: UndoTx %v, want %d", row.name, r, row.code)
		}
	}
}

func TestSpendEdges(t *testing.T) {
	tx := bigTx()
	rows := []struct {
		name       string
		coins      []impl.Coin
		tx         impl.Tx
		id, height int64
		code       int64
	}{
		{"id 0", spentCoins(), tx, 0, 12, impl.ErrRange},
		{"id 1 is there", spentCoins(), tx, 1, 12, impl.ErrTaken},
		{"id 1", spentCoins()[1:], tx, 1, 12, impl.OK},
		{"id 60 is there", spentCoins(), tx, 60, 12, impl.ErrTaken},
		{"id 60", spentCoins()[:5], tx, 60, 12, impl.OK},
		{"id 61", spentCoins(), tx, 61, 12, impl.ErrRange},
		{"id far below", spentCoins(), tx, math.MinInt64, 12, impl.ErrRange},
		{"id far above", spentCoins(), tx, math.MaxInt64, 12, impl.ErrRange},
		{"id that it spends itself", spentCoins(), tx, 2, 12, impl.ErrTaken},
		{"id that it spends itself, alone", []impl.Coin{coinOf(7, 3, 5, 2)}, pay(refsOf(7, 3), outOf(5, 2)), 7, 12, impl.ErrTaken},
		{"id that it spends one of", spentCoins(), tx, 5, 12, impl.ErrTaken},
		{"taken ahead of height", spentCoins(), tx, 2, -1, impl.ErrTaken},
		{"height -1", spentCoins(), tx, 30, -1, impl.ErrRange},
		{"height 0", spentCoins(), tx, 30, 0, impl.OK},
		{"height 999", spentCoins(), tx, 30, 999, impl.OK},
		{"height 1000", spentCoins(), tx, 30, 1000, impl.ErrRange},
		{"just as many", manyCoins(40), pay(refsOf(1, 0), outOf(1, 1)), 11, 0, impl.OK},
		{"one more", manyCoins(40), pay(refsOf(1, 0), outOf(1, 1), outOf(1, 1)), 11, 0, impl.ErrMany},
		{"three more", manyCoins(40), pay(refsOf(1, 0), slices.Repeat([]impl.Out{outOf(1, 1)}, 4)...), 11, 0, impl.ErrMany},
		{"just three more", manyCoins(37), pay(refsOf(1, 0), slices.Repeat([]impl.Out{outOf(1, 1)}, 4)...), 11, 0, impl.OK},
		{"three more than there is room for two", manyCoins(38), pay(refsOf(1, 0), slices.Repeat([]impl.Out{outOf(1, 1)}, 4)...), 11, 0, impl.ErrMany},
		{"four for four", manyCoins(40), pay(refsOf(1, 0, 4, 2, 10, 3, 9, 0), slices.Repeat([]impl.Out{outOf(1, 1)}, 4)...), 11, 0, impl.OK},
		{"height ahead of too many", manyCoins(40), pay(refsOf(1, 0), outOf(1, 1), outOf(1, 1)), 11, -1, impl.ErrRange},
		{"taken ahead of too many", manyCoins(40), pay(refsOf(1, 0), outOf(1, 1), outOf(1, 1)), 10, 0, impl.ErrTaken},
		{"more made than spent", []impl.Coin{coinOf(1, 0, 1, 2)}, pay(refsOf(1, 0), outOf(1000000, 1)), 2, 0, impl.OK},
	}
	for _, row := range rows {
		r := impl.SpendTx(row.coins, row.tx, row.id, row.height)
		if r.Code != row.code || row.code != impl.OK && len(r.Coins) != 0 {
			t.Errorf("%s: %v, want %d", row.name, r, row.code)
		}
		if row.code == impl.OK && (impl.CoinsFault(r.Coins) != impl.OK || len(r.Coins) != len(row.coins)-len(row.tx.Ins)+len(row.tx.Outs)) {
			t.Errorf("%s: %v", row.name, r)
		}
		holdSpendAgainstPlain(t, row.coins, row.tx, row.id, row.height)
	}
}

func undoParts() ([]impl.Coin, impl.Tx, []impl.Coin) {
	coins, tx := spentCoins(), bigTx()
	return impl.SpendTx(coins, tx, 30, 12).Coins, tx, impl.SpentBy(coins, tx).Coins
}

func changedCoin(list []impl.Coin, at int, change func(*impl.Coin)) []impl.Coin {
	list = copyCoins(list)
	change(&list[at])
	return list
}

func TestUndoEdges(t *testing.T) {
	made, tx, spent := undoParts()
	at := slices.IndexFunc(made, func(coin impl.Coin) bool { return coin.Ref.Tx == 30 })
	drop := func(list []impl.Coin, i int) []impl.Coin { return slices.Delete(copyCoins(list), i, i+1) }
	add := func(list []impl.Coin, coin impl.Coin) []impl.Coin {
		list = append(copyCoins(list), coin)
		slices.SortFunc(list, func(a, b impl.Coin) int { return int(a.Ref.Tx*4 + a.Ref.At - b.Ref.Tx*4 - b.Ref.At) })
		return list
	}
	rows := []struct {
		name  string
		coins []impl.Coin
		id    int64
		spent []impl.Coin
		code  int64
	}{
		{"as it was", made, 30, spent, impl.OK},
		{"id 0", made, 0, spent, impl.ErrRange},
		{"id 1", made, 1, spent, impl.ErrNone},
		{"id 60", made, 60, spent, impl.ErrNone},
		{"id 61", made, 61, spent, impl.ErrRange},
		{"id ahead of spent", made, 61, nil, impl.ErrRange},
		{"spent lack the first", made, 30, spent[1:], impl.ErrForm},
		{"spent lack the last", made, 30, spent[:2], impl.ErrForm},
		{"spent are none", made, 30, nil, impl.ErrForm},
		{"spent have one more", made, 30, add(spent, coinOf(50, 0, 5, 2)), impl.ErrForm},
		{"spent have another in place of one", made, 30, add(spent[1:], coinOf(50, 0, 5, 2)), impl.ErrForm},
		{"spent are of another place", made, 30, changedCoin(spent, 0, func(c *impl.Coin) { c.Ref.At = 2 }), impl.ErrForm},
		{"spent are those of another", made, 30, []impl.Coin{coinOf(41, 0, 5, 2), coinOf(42, 0, 5, 2), coinOf(43, 0, 5, 2)}, impl.ErrForm},
		{"spent had other values", made, 30, changedCoin(spent, 0, func(c *impl.Coin) { c.Out.Value, c.Height, c.Mined = 7, 9, false }), impl.OK},
		{"spent ahead of made", nil, 30, nil, impl.ErrForm},
		{"one of id less", drop(made, at), 30, spent, impl.ErrNone},
		{"the last of id less", drop(made, at+2), 30, spent, impl.ErrNone},
		{"one of id more", add(made, coinOf(30, 3, 5, 2)), 30, spent, impl.ErrNone},
		{"none of id", nil, 30, spent, impl.ErrNone},
		{"another Value", changedCoin(made, at, func(c *impl.Coin) { c.Out.Value++ }), 30, spent, impl.ErrNone},
		{"another Value of the last", changedCoin(made, at+2, func(c *impl.Coin) { c.Out.Value-- }), 30, spent, impl.ErrNone},
		{"another Need", changedCoin(made, at+2, func(c *impl.Coin) { c.Out.Rule.Need = 1 }), 30, spent, impl.ErrNone},
		{"another After", changedCoin(made, at+2, func(c *impl.Coin) { c.Out.Rule.After++ }), 30, spent, impl.ErrNone},
		{"another key", changedCoin(made, at+1, func(c *impl.Coin) { c.Out.Rule.Keys[1] = 5 }), 30, spent, impl.ErrNone},
		{"a key more", changedCoin(made, at+1, func(c *impl.Coin) { c.Out.Rule.Keys = []int64{3, 4, 5} }), 30, spent, impl.ErrNone},
		{"two changed about", changedCoin(changedCoin(made, at, func(c *impl.Coin) { c.Out = tx.Outs[1] }), at+1, func(c *impl.Coin) { c.Out = tx.Outs[0] }), 30, spent, impl.ErrNone},
		{"another Height, and mined", changedCoin(made, at, func(c *impl.Coin) { c.Height, c.Mined = 900, true }), 30, spent, impl.OK},
		{"one of Ins is there", add(made, spent[0]), 30, spent, impl.ErrTaken},
		{"the last of Ins is there, with another value", add(made, coinOf(8, 0, 1, 1)), 30, spent, impl.ErrTaken},
		{"all of Ins are there", add(add(add(made, spent[0]), spent[1]), spent[2]), 30, spent, impl.ErrTaken},
		{"made ahead of taken", add(drop(made, at), spent[0]), 30, spent, impl.ErrNone},
		{"more coins of the numbers of Ins", add(made, coinOf(2, 0, 1, 1)), 30, spent, impl.OK},
	}
	for _, row := range rows {
		r := impl.UndoTx(row.coins, tx, row.id, row.spent)
		if r.Code != row.code || row.code != impl.OK && len(r.Coins) != 0 {
			t.Errorf("%s: %v, want %d", row.name, r, row.code)
		}
		holdUndoAgainstPlain(t, row.coins, tx, row.id, row.spent)
	}
}

// The numbers that a transaction may have made its coins by.
func TestUndoOfEachNumber(t *testing.T) {
	ahead := []impl.Coin{coinOf(20, 1, 5, 2)}
	tx := pay(refsOf(20, 1), outOf(2, 3), outOf(3, 4))
	for id := int64(-1); id <= 62; id++ {
		made := impl.SpendTx(ahead, tx, id, 1)
		back := impl.UndoTx(made.Coins, tx, id, ahead)
		switch {
		case id < 1 || id > 60:
			if made.Code != impl.ErrRange || back.Code != impl.ErrRange {
				t.Error(id, made, back)
			}
		case id == 20:
			if made.Code != impl.ErrTaken || back.Code != impl.ErrNone {
				t.Error(id, made, back)
			}
		default:
			if made.Code != impl.OK || !sameCoinsResults(back, impl.CoinsResult{Coins: ahead}) {
				t.Error(id, made, back)
			}
		}
	}
	// Coins of its own number that it is said to have spent: these bar it while they are there.
	own := pay(refsOf(7, 0), outOf(5, 2))
	if r := impl.UndoTx([]impl.Coin{coinOf(7, 0, 5, 2)}, own, 7, []impl.Coin{coinOf(7, 0, 9, 9)}); r.Code != impl.ErrTaken {
		t.Error(r)
	}
	own = pay(refsOf(7, 3), outOf(5, 2))
	if r := impl.UndoTx([]impl.Coin{coinOf(7, 0, 5, 2)}, own, 7, []impl.Coin{coinOf(7, 3, 9, 9)}); !sameCoinsResults(r, impl.CoinsResult{Coins: []impl.Coin{coinOf(7, 3, 9, 9)}}) {
		t.Error(r)
	}
}

// A coin of a place that Outs have not is none that they made, however much it is like one of them.
func TestUndoOfCoinsAtOtherPlaces(t *testing.T) {
	spent := []impl.Coin{coinOf(1, 0, 10, 2)}
	others := []impl.Coin{coinOf(2, 0, 5, 2), coinOf(19, 3, 5, 2), coinOf(21, 0, 5, 2), coinOf(60, 1, 5, 2)}
	for outs := 1; outs <= 4; outs++ {
		tx := pay(refsOf(1, 0), slices.Repeat([]impl.Out{outOf(5, 2)}, outs)...)
		for places := range 16 {
			var alone []impl.Coin
			for at := int64(0); at < 4; at++ {
				if places>>at&1 == 1 {
					alone = append(alone, coinOf(20, at, 5, 2))
				}
			}
			among := slices.Concat(others[:2], alone, others[2:])
			wantAlone, wantAmong := impl.CoinsResult{Code: impl.ErrNone}, impl.CoinsResult{Code: impl.ErrNone}
			// Just the lowest places, one for each of Outs.
			if places == 1<<outs-1 {
				wantAlone, wantAmong = impl.CoinsResult{Coins: spent}, impl.CoinsResult{Coins: slices.Concat(spent, others)}
			}
			if r := impl.UndoTx(alone, tx, 20, spent); !sameCoinsResults(r, wantAlone) {
				t.Errorf("%d outs, places %04b: %v, want %v", outs, places, r, wantAlone)
			}
			if r := impl.UndoTx(among, tx, 20, spent); !sameCoinsResults(r, wantAmong) {
				t.Errorf("%d outs, places %04b, among others: %v, want %v", outs, places, r, wantAmong)
			}
			holdUndoAgainstPlain(t, alone, tx, 20, spent)
			holdUndoAgainstPlain(t, among, tx, 20, spent)
		}
	}
	// Outs that are not alike: the coins are all there, each at the place of another one, or one place on.
	tx := pay(refsOf(1, 0), outOf(3, 2), outOf(4, 2), outOf(5, 2))
	listsOf([]int64{0, 1, 2, 3}, 3, func(at []int64) {
		var coins []impl.Coin
		for i, place := range at {
			coins = append(coins, coinOf(20, place, int64(3+i), 2))
		}
		slices.SortFunc(coins, func(a, b impl.Coin) int { return int(a.Ref.At - b.Ref.At) })
		if plainCoinsFault(coins) != impl.OK {
			return
		}
		want := int64(impl.ErrNone)
		if slices.Equal(at, []int64{0, 1, 2}) {
			want = impl.OK
		}
		if r := impl.UndoTx(coins, tx, 20, spent); r.Code != want {
			t.Errorf("places %v: %v, want %d", at, r, want)
		}
	})
	// The places come behind what is spent, and ahead of a coin of Ins that is there.
	coins := []impl.Coin{coinOf(1, 0, 10, 2), coinOf(20, 1, 5, 2)}
	lone := pay(refsOf(1, 0), outOf(5, 2))
	if r := impl.UndoTx(coins, lone, 20, spent); r.Code != impl.ErrNone {
		t.Error(r)
	}
	if r := impl.UndoTx(coins, lone, 20, nil); r.Code != impl.ErrForm {
		t.Error(r)
	}
}

func TestUndoWhereThereIsNoRoom(t *testing.T) {
	spent := []impl.Coin{coinOf(20, 0, 5, 2), coinOf(21, 0, 5, 2), coinOf(22, 0, 5, 2), coinOf(23, 0, 5, 2)}
	for ins := 1; ins <= 4; ins++ {
		for outs := 1; outs <= 4; outs++ {
			tx := pay(nil, slices.Repeat([]impl.Out{outOf(1, 1)}, outs)...)
			for _, coin := range spent[:ins] {
				tx.Ins = append(tx.Ins, coin.Ref)
			}
			for others := 34; others+outs <= 40; others++ {
				coins := impl.PutCoins(manyCoins(others), 15, tx.Outs, 3, false).Coins
				want := int64(impl.OK)
				if others+ins > 40 {
					want = impl.ErrMany
				}
				r := impl.UndoTx(coins, tx, 15, spent[:ins])
				if r.Code != want || want == impl.OK && len(r.Coins) != others+ins || want != impl.OK && len(r.Coins) != 0 {
					t.Errorf("%d ins, %d outs, %d others: %v", ins, outs, others, r)
				}
				holdUndoAgainstPlain(t, coins, tx, 15, spent[:ins])
				if ins == 4 && outs == 1 && others == 39 {
					// A coin of Ins that is there comes ahead of the room.
					tx.Ins[3], spent[3].Ref = impl.Ref{Tx: 23, At: 1}, impl.Ref{Tx: 23, At: 1}
					coins[38] = coinOf(23, 1, 5, 2)
					slices.SortFunc(coins, func(a, b impl.Coin) int { return int(a.Ref.Tx*4 + a.Ref.At - b.Ref.Tx*4 - b.Ref.At) })
					if r := impl.UndoTx(coins, tx, 15, spent); r.Code != impl.ErrTaken {
						t.Error(r)
					}
					spent[3].Ref = impl.Ref{Tx: 23}
				}
			}
		}
	}
}

// A walk: what can be spent is, and all of it is taken back from the last to the first.
func TestAWalkOfTransactions(t *testing.T) {
	dice := rand.New(rand.NewSource(5))
	type step struct {
		coins []impl.Coin
		tx    impl.Tx
		id    int64
	}
	for range 40 {
		coins := manyCoins(20 + dice.Intn(20))
		var steps []step
		for range 40 {
			tx := randomTx(dice, coins)
			id, height := dice.Int63n(62), dice.Int63n(1001)
			l := notedTx(tx, dice.Int63n(40)+1, 900)
			holdSpendAgainstPlain(t, coins, tx, id, height)
			if plainFault(l) == impl.OK {
				holdCheckAgainstPlain(t, l, coins, tx, height)
			}
			made := impl.SpendTx(coins, tx, id, height)
			if made.Code != impl.OK {
				continue
			}
			lost := impl.CoinSum(coins).Value - impl.CoinSum(made.Coins).Value
			if lost != impl.CoinSum(impl.SpentBy(coins, tx).Coins).Value-impl.OutSum(tx).Value {
				t.Fatal("value was lost:", lost, tx)
			}
			steps = append(steps, step{coins, tx, id})
			coins = made.Coins
		}
		for _, s := range slices.Backward(steps) {
			spent := impl.SpentBy(s.coins, s.tx).Coins
			holdUndoAgainstPlain(t, coins, s.tx, s.id, spent)
			holdUndoAgainstPlain(t, s.coins, s.tx, s.id, spent)
			r := impl.UndoTx(coins, s.tx, s.id, spent)
			if !sameCoinsResults(r, impl.CoinsResult{Coins: s.coins}) {
				t.Fatalf("%v is not taken back: %v, it was %v", s.tx, r, s.coins)
			}
			coins = r.Coins
		}
	}
}

// randomTx spends coins that there are, and now and then one that there is not.
func randomTx(dice *rand.Rand, coins []impl.Coin) impl.Tx {
	tx := impl.Tx{Kind: dice.Int63n(3)}
	if tx.Kind != impl.KindPay {
		tx.Member = dice.Int63n(30) + 1
	}
	for range 1 + dice.Intn(4) {
		ref := impl.Ref{Tx: dice.Int63n(60) + 1}
		if len(coins) > 0 && dice.Intn(20) > 0 {
			ref = coins[dice.Intn(len(coins))].Ref
		}
		if !slices.Contains(tx.Ins, ref) {
			tx.Ins = append(tx.Ins, ref)
		}
	}
	for range 1 + dice.Intn(4) {
		tx.Outs = append(tx.Outs, outOf(100+dice.Int63n(50), 1+dice.Int63n(40), 900))
	}
	return tx
}

// Promise 1: memory, nil and empty, the same again.

func TestWhatIsCheckedIsNotChanged(t *testing.T) {
	coins, tx := spentCoins(), bigTx()
	made, _, spent := undoParts()
	leave := withMember(impl.KindLeave, 9, tx.Ins, tx.Outs...)
	txs := []impl.Tx{tx, leave, {}, pay(refsOf(9, 0), outOf(1, 1))}
	lists := [][]impl.Coin{coins, made, spent, nil, manyCoins(40), manyCoins(41)}
	for _, list := range lists {
		for _, x := range txs {
			shown := roomyCoins(list)
			was, wasKeys := copyCoins(shown[:cap(shown)]), wholeKeys(shown)
			shownSpent := roomyCoins(spent)
			wasSpent, wasSpentKeys := copyCoins(shownSpent[:cap(shownSpent)]), wholeKeys(shownSpent)
			shownTx, whole := roomyTx(x)
			wasTx := copyTx(whole)
			l, texts, signs := roomy(notedTx(tx, 2, 3, 7))
			wasTexts, wasSigns := slices.Clone(texts), slices.Clone(signs)
			impl.CheckTx(l, shown, shownTx, 12)
			impl.SpendTx(shown, shownTx, 30, 12)
			impl.SpentBy(shown, shownTx)
			impl.UndoTx(shown, shownTx, 30, shownSpent)
			if len(shown) > 0 {
				impl.IsRipe(shown[0], 12)
			}
			if !plainSameCoins(shown[:cap(shown)], was) || !slices.Equal(wholeKeys(shown), wasKeys) {
				t.Errorf("the coins were changed: %v", shown[:cap(shown)])
			}
			if !plainSameCoins(shownSpent[:cap(shownSpent)], wasSpent) || !slices.Equal(wholeKeys(shownSpent), wasSpentKeys) {
				t.Errorf("spent was changed: %v", shownSpent[:cap(shownSpent)])
			}
			if !plainSameTxs(whole, wasTx) || !plainSameTxs(shownTx, x) {
				t.Errorf("the transaction was changed: %v", whole)
			}
			if !slices.Equal(texts, wasTexts) || !slices.Equal(signs, wasSigns) {
				t.Errorf("the ledger was changed: %v %v", texts, signs)
			}
		}
	}
}

func TestAnswersOfChecksShareNoMemory(t *testing.T) {
	calls := []struct {
		name string
		call func([]impl.Coin, impl.Tx, []impl.Coin, []impl.Coin) impl.CoinsResult
	}{
		{"SpentBy", func(coins []impl.Coin, tx impl.Tx, _, _ []impl.Coin) impl.CoinsResult { return impl.SpentBy(coins, tx) }},
		{"SpendTx", func(coins []impl.Coin, tx impl.Tx, _, _ []impl.Coin) impl.CoinsResult {
			return impl.SpendTx(coins, tx, 30, 12)
		}},
		{"UndoTx", func(_ []impl.Coin, tx impl.Tx, made, spent []impl.Coin) impl.CoinsResult {
			return impl.UndoTx(made, tx, 30, spent)
		}},
	}
	for _, row := range calls {
		keys := []int64{2, 3}
		coins, tx := spentCoins(), bigTx()
		// The same keys in several places: an answer has them apart.
		coins[0].Out.Rule.Keys, coins[2].Out.Rule.Keys, coins[3].Out.Rule.Keys = keys, keys, keys
		tx.Outs[0].Rule.Keys, tx.Outs[1].Rule.Keys = keys, keys
		made, spent := impl.SpendTx(coins, tx, 30, 12).Coins, impl.SpentBy(coins, tx).Coins
		made[0].Out.Rule.Keys, spent[1].Out.Rule.Keys = keys, keys
		was, wasTx, wasMade, wasSpent := copyCoins(coins), copyTx(tx), copyCoins(made), copyCoins(spent)
		answer, again := row.call(coins, tx, made, spent), row.call(coins, tx, made, spent)
		want := copyCoins(answer.Coins)
		if answer.Code != impl.OK || len(want) == 0 {
			t.Errorf("%s: %v", row.name, answer)
		}
		coinsShareNone(t, row.name, answer.Coins)
		spoilCoins(answer.Coins)
		if !plainSameCoins(coins, was) || !plainSameTxs(tx, wasTx) || !plainSameCoins(made, wasMade) || !plainSameCoins(spent, wasSpent) {
			t.Errorf("%s: who writes to the answer writes to an argument", row.name)
		}
		for _, out := range tx.Outs {
			spoilNumbers(out.Rule.Keys)
		}
		spoilRefs(tx.Ins)
		spoilCoins(coins)
		spoilCoins(made)
		spoilCoins(spent)
		if !plainSameCoins(again.Coins, want) {
			t.Errorf("%s: who writes to an argument or to another answer writes to the answer: %v", row.name, again)
		}
	}
}

func TestEmptyAndNilOfChecksAreTheSame(t *testing.T) {
	tx := bigTx()
	if r, s := impl.CheckTx(notedTx(tx), nil, tx, 5), impl.CheckTx(notedTx(tx), []impl.Coin{}, tx, 5); r != s || r.Code != impl.ErrNone {
		t.Error(r, s)
	}
	if r, s := impl.CheckTx(impl.Ledger{}, nil, tx, 5), impl.CheckTx(impl.Ledger{Texts: []string{}, Signs: []impl.Sign{}}, []impl.Coin{}, tx, 5); r != s || r.Code != impl.ErrNone {
		t.Error(r, s)
	}
	bare, hollow := impl.Tx{}, impl.Tx{Ins: []impl.Ref{}, Outs: []impl.Out{}}
	for _, coins := range [][]impl.Coin{nil, {}} {
		for _, spent := range [][]impl.Coin{nil, {}} {
			for _, x := range []impl.Tx{bare, hollow, tx} {
				holdSpendAgainstPlain(t, coins, x, 5, 5)
				holdUndoAgainstPlain(t, coins, x, 5, spent)
			}
		}
	}
	// A transaction that spends the last coin and is taken back from what it made alone.
	lone, all := []impl.Coin{coinOf(1, 0, 5, 2)}, pay(refsOf(1, 0), outOf(5, 3))
	if r := impl.UndoTx(impl.SpendTx(lone, all, 2, 0).Coins, all, 2, lone); !sameCoinsResults(r, impl.CoinsResult{Coins: lone}) {
		t.Error(r)
	}
}

func TestChecksHangOnTheArgumentsAlone(t *testing.T) {
	coins, tx := spentCoins(), bigTx()
	l := notedTx(tx, 2, 3, 7)
	made, _, spent := undoParts()
	for range 30 {
		impl.CheckTx(notedTx(tx), coins, tx, 0)
		impl.SpendTx(manyCoins(40), pay(refsOf(1, 0), outOf(1, 1)), 11, 0)
		if r := impl.CheckTx(l, coins, tx, 12); r != (impl.IntResult{Value: 10}) {
			t.Fatal(r)
		}
		if r := impl.SpendTx(coins, tx, 30, 12); !sameCoinsResults(r, impl.CoinsResult{Coins: made}) || impl.CoinsFault(r.Coins) != impl.OK {
			t.Fatal(r)
		}
		if r := impl.SpentBy(coins, tx); !sameCoinsResults(r, impl.CoinsResult{Coins: spent}) || impl.CoinsFault(r.Coins) != impl.OK {
			t.Fatal(r)
		}
		if r := impl.UndoTx(made, tx, 30, spent); !sameCoinsResults(r, impl.CoinsResult{Coins: coins}) || impl.CoinsFault(r.Coins) != impl.OK {
			t.Fatal(r)
		}
	}
}

func TestConstantsOfChecks(t *testing.T) {
	if impl.Ripe != 2 {
		t.Error(impl.Ripe)
	}
}
