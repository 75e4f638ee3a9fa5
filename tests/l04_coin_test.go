package tests

import (
	"math"
	"math/rand"
	"slices"
	"testing"

	"loop.example/g00304/impl"
)

// The plain reading of chapter 4, list by list and without a map: what the program is held against.

func plainCoinsFault(list []impl.Coin) int64 {
	if len(list) > 40 {
		return impl.ErrMany
	}
	for i, coin := range list {
		if !plainRefIsSo(coin.Ref) || coin.Height < 0 || coin.Height > 999 || coin.Out.Value < 1 || coin.Out.Value > 1000000 {
			return impl.ErrRange
		}
		if code := plainRuleFault(coin.Out.Rule); code != impl.OK {
			return code
		}
		if i > 0 && !plainIsBelow(list[i-1].Ref, coin.Ref) {
			return impl.ErrForm
		}
	}
	return impl.OK
}

func plainIsBelow(a, b impl.Ref) bool {
	return a.Tx < b.Tx || a.Tx == b.Tx && a.At < b.At
}

func plainCoinAt(list []impl.Coin, r impl.Ref) impl.CoinsResult {
	if code := plainCoinsFault(list); code != impl.OK {
		return impl.CoinsResult{Code: code}
	}
	for _, coin := range list {
		if coin.Ref == r {
			return impl.CoinsResult{Coins: []impl.Coin{coin}}
		}
	}
	return impl.CoinsResult{Code: impl.ErrNone}
}

func plainPut(list []impl.Coin, tx int64, outs []impl.Out, height int64, mined bool) impl.CoinsResult {
	fail := func(code int64) impl.CoinsResult { return impl.CoinsResult{Code: code} }
	if code := plainCoinsFault(list); code != impl.OK {
		return fail(code)
	}
	if tx < 1 || tx > 60 || height < 0 || height > 999 {
		return fail(impl.ErrRange)
	}
	if len(outs) > 4 {
		return fail(impl.ErrMany)
	}
	for _, out := range outs {
		if out.Value < 1 || out.Value > 1000000 {
			return fail(impl.ErrRange)
		}
		if code := plainRuleFault(out.Rule); code != impl.OK {
			return fail(code)
		}
	}
	var all []impl.Coin
	for _, coin := range list {
		if coin.Ref.Tx == tx {
			return fail(impl.ErrTaken)
		}
		if coin.Ref.Tx < tx {
			all = append(all, coin)
		}
	}
	for at, out := range outs {
		all = append(all, impl.Coin{Ref: impl.Ref{Tx: tx, At: int64(at)}, Out: out, Height: height, Mined: mined})
	}
	for _, coin := range list {
		if coin.Ref.Tx > tx {
			all = append(all, coin)
		}
	}
	if len(all) > 40 {
		return fail(impl.ErrMany)
	}
	return impl.CoinsResult{Coins: all}
}

func plainTake(list []impl.Coin, refs []impl.Ref) impl.CoinsResult {
	if code := plainCoinsFault(list); code != impl.OK {
		return impl.CoinsResult{Code: code}
	}
	if len(refs) > 4 {
		return impl.CoinsResult{Code: impl.ErrMany}
	}
	left := slices.Clone(list)
	for _, ref := range refs {
		at := slices.IndexFunc(left, func(coin impl.Coin) bool { return coin.Ref == ref })
		if at < 0 {
			return impl.CoinsResult{Code: impl.ErrNone}
		}
		left = slices.Delete(left, at, at+1)
	}
	return impl.CoinsResult{Coins: left}
}

func plainCoinSum(list []impl.Coin) impl.IntResult {
	if code := plainCoinsFault(list); code != impl.OK {
		return impl.IntResult{Code: code}
	}
	var sum int64
	for _, coin := range list {
		sum += coin.Out.Value
	}
	return impl.IntResult{Value: sum}
}

func plainOwned(list []impl.Coin, key int64) impl.IntResult {
	if code := plainCoinsFault(list); code != impl.OK {
		return impl.IntResult{Code: code}
	}
	var sum int64
	for _, coin := range list {
		for _, k := range coin.Out.Rule.Keys {
			if k == key && coin.Out.Rule.Need == 1 {
				sum += coin.Out.Value
			}
		}
	}
	return impl.IntResult{Value: sum}
}

func plainSameCoins(a, b []impl.Coin) bool {
	if len(a) != len(b) {
		return false
	}
	for i := range a {
		x, y := a[i], b[i]
		if x.Ref.Tx != y.Ref.Tx || x.Ref.At != y.Ref.At || x.Height != y.Height || x.Mined != y.Mined {
			return false
		}
		if x.Out.Value != y.Out.Value || !slices.Equal(x.Out.Rule.Keys, y.Out.Rule.Keys) || x.Out.Rule.Need != y.Out.Rule.Need || x.Out.Rule.After != y.Out.Rule.After {
			return false
		}
	}
	return true
}

func sameCoinsResults(a, b impl.CoinsResult) bool {
	return a.Code == b.Code && plainSameCoins(a.Coins, b.Coins)
}

func copyCoins(list []impl.Coin) []impl.Coin {
	list = slices.Clone(list)
	for i := range list {
		list[i].Out.Rule.Keys = slices.Clone(list[i].Out.Rule.Keys)
	}
	return list
}

func coinOf(tx, at, value int64, keys ...int64) impl.Coin {
	return impl.Coin{Ref: impl.Ref{Tx: tx, At: at}, Out: outOf(value, keys...)}
}

// manyCoins has n coins that rise, four of each transaction.
func manyCoins(n int) []impl.Coin {
	var list []impl.Coin
	for i := range n {
		coin := coinOf(int64(i/4+1), int64(i%4), int64(i+1), int64(i+1), 900)
		coin.Height, coin.Mined = int64(i*20), i%3 == 0
		list = append(list, coin)
	}
	return list
}

func ordinaryCoins() []impl.Coin {
	return []impl.Coin{
		{Ref: impl.Ref{Tx: 2, At: 1}, Out: outOf(5, 2), Height: 3},
		{Ref: impl.Ref{Tx: 2, At: 3}, Out: outOf(7, 2, 3), Height: 3},
		{Ref: impl.Ref{Tx: 5, At: 0}, Out: impl.Out{Value: 11, Rule: impl.Rule{Keys: []int64{2, 3}, Need: 2}}, Height: 999, Mined: true},
		{Ref: impl.Ref{Tx: 9, At: 0}, Out: impl.Out{Value: 1000000, Rule: impl.Rule{Keys: []int64{1, 3, 999}, Need: 1, After: 7}}, Mined: true},
		{Ref: impl.Ref{Tx: 60, At: 2}, Out: impl.Out{Value: 1, Rule: impl.Rule{Keys: []int64{1, 2, 3}, Need: 3, After: 999}}, Height: 1},
	}
}

type coinsRow struct {
	name  string
	coins []impl.Coin
	code  int64
}

// wrongCoins names the code that comes first where several are so.
func wrongCoins() []coinsRow {
	tall := impl.Coin{Ref: impl.Ref{Tx: 1}, Out: outOf(5, 2), Height: 1000}
	low := impl.Coin{Ref: impl.Ref{Tx: 1}, Out: outOf(5, 2), Height: -1}
	return []coinsRow{
		{"41 coins", manyCoins(41), impl.ErrMany},
		{"41 coins ahead of all else", make([]impl.Coin, 41), impl.ErrMany},
		{"the zero value of a coin", []impl.Coin{{}}, impl.ErrRange},
		{"Tx 0", []impl.Coin{coinOf(0, 0, 5, 2)}, impl.ErrRange},
		{"Tx 61", []impl.Coin{coinOf(61, 0, 5, 2)}, impl.ErrRange},
		{"At -1", []impl.Coin{coinOf(1, -1, 5, 2)}, impl.ErrRange},
		{"At 4", []impl.Coin{coinOf(1, 4, 5, 2)}, impl.ErrRange},
		{"Height 1000", []impl.Coin{tall}, impl.ErrRange},
		{"Height -1", []impl.Coin{low}, impl.ErrRange},
		{"Value 0", []impl.Coin{coinOf(1, 0, 0, 2)}, impl.ErrRange},
		{"Value 1000001", []impl.Coin{coinOf(1, 0, 1000001, 2)}, impl.ErrRange},
		{"Value far below", []impl.Coin{coinOf(1, 0, math.MinInt64, 2)}, impl.ErrRange},
		{"no keys", []impl.Coin{coinOf(1, 0, 5)}, impl.ErrMany},
		{"four keys", []impl.Coin{coinOf(1, 0, 5, 1, 2, 3, 4)}, impl.ErrMany},
		{"a key 0", []impl.Coin{coinOf(1, 0, 5, 0)}, impl.ErrRange},
		{"keys that fall", []impl.Coin{coinOf(1, 0, 5, 2, 1)}, impl.ErrForm},
		{"Value ahead of keys", []impl.Coin{coinOf(1, 0, 0)}, impl.ErrRange},
		{"the ref ahead of keys", []impl.Coin{coinOf(0, 0, 5)}, impl.ErrRange},
		{"Height ahead of keys", []impl.Coin{{Ref: impl.Ref{Tx: 1}, Out: outOf(5), Height: 1000}}, impl.ErrRange},
		{"the same ref twice", []impl.Coin{coinOf(1, 0, 5, 2), coinOf(1, 0, 6, 3)}, impl.ErrForm},
		{"Tx falls", []impl.Coin{coinOf(2, 0, 5, 2), coinOf(1, 0, 5, 2)}, impl.ErrForm},
		{"Tx falls, At rises", []impl.Coin{coinOf(2, 0, 5, 2), coinOf(1, 3, 5, 2)}, impl.ErrForm},
		{"At falls alone", []impl.Coin{coinOf(2, 1, 5, 2), coinOf(2, 0, 5, 2)}, impl.ErrForm},
		{"At falls late", append(ordinaryCoins(), coinOf(60, 1, 5, 2)), impl.ErrForm},
		{"Value ahead of the order", []impl.Coin{coinOf(2, 0, 5, 2), coinOf(1, 0, 0, 2)}, impl.ErrRange},
		{"keys ahead of the order", []impl.Coin{coinOf(2, 0, 5, 2), coinOf(1, 0, 5)}, impl.ErrMany},
		{"the order of one ahead of the Value of the next", []impl.Coin{coinOf(2, 0, 5, 2), coinOf(1, 0, 5, 2), coinOf(3, 0, 0, 2)}, impl.ErrForm},
		{"the keys of one ahead of the ref of the next", []impl.Coin{coinOf(2, 0, 5), coinOf(0, 0, 5, 2)}, impl.ErrMany},
		{"the ref of one ahead of the keys of the next", []impl.Coin{coinOf(0, 0, 5, 2), coinOf(2, 0, 5)}, impl.ErrRange},
	}
}

// holdCoinsAgainstPlain asks all that take the list and little else.
func holdCoinsAgainstPlain(t *testing.T, list []impl.Coin) {
	t.Helper()
	was := copyCoins(list)
	if got, want := impl.CoinsFault(list), plainCoinsFault(list); got != want {
		t.Fatalf("CoinsFault(%v) = %d, want %d", list, got, want)
	}
	if got, want := impl.CoinSum(list), plainCoinSum(list); got != want {
		t.Fatalf("CoinSum(%v) = %v, want %v", list, got, want)
	}
	for _, key := range []int64{math.MinInt64, -1, 0, 1, 2, 3, 999, 1000} {
		if got, want := impl.OwnedBy(list, key), plainOwned(list, key); got != want {
			t.Fatalf("OwnedBy(%v, %d) = %v, want %v", list, key, got, want)
		}
	}
	for _, ref := range refsOf(0, 0, 1, 0, 1, 3, 1, 4, 2, 1, 5, -1, 60, 2, 61, 0) {
		if got, want := impl.CoinAt(list, ref), plainCoinAt(list, ref); !sameCoinsResults(got, want) {
			t.Fatalf("CoinAt(%v, %v) = %v, want %v", list, ref, got, want)
		}
	}
	if !impl.SameCoins(list, was) {
		t.Fatalf("SameCoins: %v is not %v", list, was)
	}
	if !plainSameCoins(list, was) {
		t.Fatalf("an argument was changed: %v, it was %v", list, was)
	}
}

func holdPutAgainstPlain(t *testing.T, list []impl.Coin, tx int64, outs []impl.Out, height int64, mined bool) {
	t.Helper()
	was, wasOuts := copyCoins(list), copyTx(pay(nil, outs...))
	got, want := impl.PutCoins(list, tx, outs, height, mined), plainPut(list, tx, outs, height, mined)
	if !sameCoinsResults(got, want) {
		t.Fatalf("PutCoins(%v, %d, %v, %d, %v) = %v, want %v", list, tx, outs, height, mined, got, want)
	}
	if !plainSameCoins(list, was) || !plainSameTxs(pay(nil, outs...), wasOuts) {
		t.Fatalf("an argument was changed: %v %v", list, outs)
	}
}

func holdTakeAgainstPlain(t *testing.T, list []impl.Coin, refs []impl.Ref) {
	t.Helper()
	was, wasRefs := copyCoins(list), slices.Clone(refs)
	got, want := impl.TakeCoins(list, refs), plainTake(list, refs)
	if !sameCoinsResults(got, want) {
		t.Fatalf("TakeCoins(%v, %v) = %v, want %v", list, refs, got, want)
	}
	if !plainSameCoins(list, was) || !slices.Equal(refs, wasRefs) {
		t.Fatalf("an argument was changed: %v %v", list, refs)
	}
}

// Promise 5: what is put is there, what is taken is gone, all else stays, and no value is lost.

func TestWhatIsPutIsThere(t *testing.T) {
	outs := []impl.Out{outOf(5, 2), outOf(1000000, 3, 4), {Value: 1, Rule: impl.Rule{Keys: []int64{1, 2, 3}, Need: 2, After: 8}}, outOf(7, 999)}
	for _, tx := range []int64{1, 3, 4, 10, 59} {
		for n := range 5 {
			ahead := ordinaryCoins()
			r := impl.PutCoins(ahead, tx, outs[:n], 6, n%2 == 0)
			if r.Code != impl.OK || len(r.Coins) != len(ahead)+n || impl.CoinsFault(r.Coins) != impl.OK {
				t.Fatal(tx, n, r)
			}
			var put int64
			for at, out := range outs[:n] {
				put += out.Value
				want := impl.Coin{Ref: impl.Ref{Tx: tx, At: int64(at)}, Out: out, Height: 6, Mined: n%2 == 0}
				if one := impl.CoinAt(r.Coins, want.Ref); !sameCoinsResults(one, impl.CoinsResult{Coins: []impl.Coin{want}}) {
					t.Errorf("tx %d at %d: %v, want %v", tx, at, one, want)
				}
			}
			for _, coin := range ahead {
				if one := impl.CoinAt(r.Coins, coin.Ref); !sameCoinsResults(one, impl.CoinsResult{Coins: []impl.Coin{coin}}) {
					t.Errorf("tx %d: %v does not stay: %v", tx, coin, one)
				}
			}
			if sum := impl.CoinSum(r.Coins).Value; sum != impl.CoinSum(ahead).Value+put {
				t.Errorf("tx %d, %d outs: %d is not all", tx, n, sum)
			}
		}
	}
}

func TestWhatIsTakenIsGone(t *testing.T) {
	all := ordinaryCoins()
	var refs []impl.Ref
	for _, coin := range all {
		refs = append(refs, coin.Ref)
	}
	listsOf(refs, 4, func(some []impl.Ref) {
		r := impl.TakeCoins(all, some)
		twice := false
		for i, ref := range some {
			twice = twice || slices.Contains(some[:i], ref)
		}
		if twice {
			if !sameCoinsResults(r, impl.CoinsResult{Code: impl.ErrNone}) {
				t.Fatal("a coin was taken twice:", some, r)
			}
			return
		}
		var left []impl.Coin
		var gone int64
		for _, coin := range all {
			if slices.Contains(some, coin.Ref) {
				gone += coin.Out.Value
			} else {
				left = append(left, coin)
			}
		}
		if !sameCoinsResults(r, impl.CoinsResult{Coins: left}) || impl.CoinSum(r.Coins).Value+gone != impl.CoinSum(all).Value {
			t.Fatal(some, r)
		}
		for _, ref := range some {
			if one := impl.CoinAt(r.Coins, ref); !sameCoinsResults(one, impl.CoinsResult{Code: impl.ErrNone}) {
				t.Fatal(some, one)
			}
		}
	})
}

func TestWhatIsPutAndTakenLeavesAllAsItWas(t *testing.T) {
	ahead := ordinaryCoins()
	for tx := int64(1); tx <= 60; tx++ {
		outs := []impl.Out{outOf(tx, tx), outOf(tx+1, tx+1), outOf(tx+2, tx+2)}
		r := impl.PutCoins(ahead, tx, outs, tx, true)
		if plainCoinAtTx(ahead, tx) {
			if r.Code != impl.ErrTaken {
				t.Error(tx, r)
			}
			continue
		}
		back := impl.TakeCoins(r.Coins, refsOf(tx, 2, tx, 0, tx, 1))
		if back.Code != impl.OK || !impl.SameCoins(back.Coins, ahead) {
			t.Error(tx, back)
		}
	}
}

func plainCoinAtTx(list []impl.Coin, tx int64) bool {
	return slices.ContainsFunc(list, func(coin impl.Coin) bool { return coin.Ref.Tx == tx })
}

// Coins that are put and taken in turn, as long as there is room, by the plain reading.
func TestAWalkOfPutsAndTakes(t *testing.T) {
	dice := rand.New(rand.NewSource(4))
	for range 30 {
		var list []impl.Coin
		for range 150 {
			if dice.Intn(3) > 0 {
				var outs []impl.Out
				for range dice.Intn(5) {
					outs = append(outs, outOf(dice.Int63n(1000)+1, dice.Int63n(400)+1, dice.Int63n(500)+450))
				}
				tx, height, mined := dice.Int63n(62), dice.Int63n(1001), dice.Intn(2) == 0
				holdPutAgainstPlain(t, list, tx, outs, height, mined)
				if r := impl.PutCoins(list, tx, outs, height, mined); r.Code == impl.OK {
					list = r.Coins
				}
				continue
			}
			var refs []impl.Ref
			for range dice.Intn(4) {
				if len(list) > 0 {
					refs = append(refs, list[dice.Intn(len(list))].Ref)
				}
			}
			holdTakeAgainstPlain(t, list, refs)
			if r := impl.TakeCoins(list, refs); r.Code == impl.OK {
				list = r.Coins
			}
		}
		holdCoinsAgainstPlain(t, list)
	}
}

// The edges that the document names, and wrong coins.

func TestHowManyCoins(t *testing.T) {
	for _, n := range []int{0, 1, 2, 39, 40, 41, 42, 1000} {
		want := int64(impl.OK)
		if n > 40 {
			want = impl.ErrMany
		}
		if code := impl.CoinsFault(manyCoins(n)); code != want {
			t.Errorf("%d coins: %d, want %d", n, code, want)
		}
		if n <= 240 {
			holdCoinsAgainstPlain(t, manyCoins(n))
		}
	}
}

func TestEachFaultOfCoins(t *testing.T) {
	for _, row := range wrongCoins() {
		if code := impl.CoinsFault(row.coins); code != row.code {
			t.Errorf("%s: %d, want %d", row.name, code, row.code)
		}
		fault := impl.CoinsResult{Code: row.code}
		// What is asked is wrong as well: the list is asked first.
		if r := impl.CoinAt(row.coins, impl.Ref{}); !sameCoinsResults(r, fault) {
			t.Errorf("%s: CoinAt %v", row.name, r)
		}
		if r := impl.PutCoins(row.coins, 0, make([]impl.Out, 9), -1, true); !sameCoinsResults(r, fault) {
			t.Errorf("%s: PutCoins %v", row.name, r)
		}
		if r := impl.PutCoins(row.coins, 50, nil, 0, false); !sameCoinsResults(r, fault) {
			t.Errorf("%s: PutCoins of none %v", row.name, r)
		}
		if r := impl.TakeCoins(row.coins, make([]impl.Ref, 9)); !sameCoinsResults(r, fault) {
			t.Errorf("%s: TakeCoins %v", row.name, r)
		}
		if r := impl.TakeCoins(row.coins, nil); !sameCoinsResults(r, fault) {
			t.Errorf("%s: TakeCoins of none %v", row.name, r)
		}
		if r := impl.CoinSum(row.coins); r != (impl.IntResult{Code: row.code}) {
			t.Errorf("%s: CoinSum %v", row.name, r)
		}
		if r := impl.OwnedBy(row.coins, 2); r != (impl.IntResult{Code: row.code}) {
			t.Errorf("%s: OwnedBy %v", row.name, r)
		}
		holdCoinsAgainstPlain(t, row.coins)
	}
}

func TestNumbersOfACoin(t *testing.T) {
	odd := []int64{math.MinInt64, -1, 0, 1, 2, 3, 4, 59, 60, 61, 998, 999, 1000, 999999, 1000000, 1000001, 1 << 32, 1<<32 + 1, math.MaxInt64}
	for _, n := range odd {
		for _, mined := range []bool{false, true} {
			for _, keys := range [][]int64{{2}, nil} {
				holdCoinsAgainstPlain(t, []impl.Coin{{Ref: impl.Ref{Tx: n}, Out: outOf(5, keys...), Mined: mined}})
				holdCoinsAgainstPlain(t, []impl.Coin{{Ref: impl.Ref{Tx: 1, At: n}, Out: outOf(5, keys...), Mined: mined}})
				holdCoinsAgainstPlain(t, []impl.Coin{{Ref: impl.Ref{Tx: 1}, Out: outOf(5, keys...), Height: n, Mined: mined}})
				holdCoinsAgainstPlain(t, []impl.Coin{{Ref: impl.Ref{Tx: 1}, Out: outOf(n, keys...), Mined: mined}})
			}
		}
	}
}

func TestRefsOfCoinsByThePlainReading(t *testing.T) {
	var coins []impl.Coin
	for _, tx := range []int64{0, 1, 60, 61} {
		for _, at := range []int64{-1, 0, 3, 4} {
			coins = append(coins, coinOf(tx, at, 5, 2))
		}
	}
	listsOf(coins, 2, func(list []impl.Coin) { holdCoinsAgainstPlain(t, list) })
	few := []impl.Coin{coinOf(1, 0, 5, 2), coinOf(1, 1, 6, 1, 2), coinOf(2, 0, 7, 3), coinOf(2, 3, 0, 3), coinOf(3, 0, 8)}
	listsOf(few, 4, func(list []impl.Coin) { holdCoinsAgainstPlain(t, list) })
}

func TestRulesOfCoins(t *testing.T) {
	for _, rule := range append(ruleOfEachKind(), ordinaryRules()...) {
		for _, value := range []int64{0, 1, 1000000, 1000001} {
			coin := impl.Coin{Ref: impl.Ref{Tx: 1}, Out: impl.Out{Value: value, Rule: rule}}
			holdCoinsAgainstPlain(t, []impl.Coin{coin})
			holdCoinsAgainstPlain(t, []impl.Coin{coinOf(2, 0, 5, 2), coin})
			holdCoinsAgainstPlain(t, []impl.Coin{coin, coinOf(1, 0, 5, 2)})
			holdPutAgainstPlain(t, ordinaryCoins(), 1, []impl.Out{coin.Out}, 0, false)
			holdPutAgainstPlain(t, ordinaryCoins(), 2, []impl.Out{outOf(5, 2), coin.Out, outOf(0, 2)}, 0, true)
		}
	}
}

func TestPutEdges(t *testing.T) {
	odd := []int64{math.MinInt64, -1, 0, 1, 2, 3, 5, 30, 59, 60, 61, 999, 1000, 1<<32 + 1, math.MaxInt64}
	for _, list := range [][]impl.Coin{nil, ordinaryCoins(), manyCoins(36), manyCoins(40)} {
		for _, tx := range odd {
			for _, height := range odd {
				for n := range 6 {
					outs := slices.Repeat([]impl.Out{outOf(5, 2)}, n)
					holdPutAgainstPlain(t, list, tx, outs, height, n%2 == 0)
				}
			}
		}
	}
}

func TestWhichCodeOfPutComesFirst(t *testing.T) {
	good, cheap, unruly := outOf(5, 2), outOf(0, 2), outOf(5)
	rows := []struct {
		name   string
		list   []impl.Coin
		tx     int64
		outs   []impl.Out
		height int64
		code   int64
	}{
		{"tx 0", nil, 0, []impl.Out{good}, 0, impl.ErrRange},
		{"tx 61", nil, 61, []impl.Out{good}, 0, impl.ErrRange},
		{"height -1", nil, 1, []impl.Out{good}, -1, impl.ErrRange},
		{"height 1000", nil, 1, []impl.Out{good}, 1000, impl.ErrRange},
		{"five outs", nil, 1, slices.Repeat([]impl.Out{good}, 5), 0, impl.ErrMany},
		{"tx ahead of five outs", nil, 0, slices.Repeat([]impl.Out{good}, 5), 0, impl.ErrRange},
		{"height ahead of five outs", nil, 1, slices.Repeat([]impl.Out{good}, 5), 1000, impl.ErrRange},
		{"tx of none", nil, 61, nil, 0, impl.ErrRange},
		{"height of none", nil, 1, nil, 1000, impl.ErrRange},
		{"height ahead of the rule", nil, 1, []impl.Out{unruly}, -1, impl.ErrRange},
		{"five ahead of Value", nil, 1, slices.Repeat([]impl.Out{cheap}, 5), 0, impl.ErrMany},
		{"five with a key that falls", nil, 1, slices.Repeat([]impl.Out{outOf(5, 2, 1)}, 5), 0, impl.ErrMany},
		{"Value", nil, 1, []impl.Out{good, cheap}, 0, impl.ErrRange},
		{"a rule", nil, 1, []impl.Out{good, unruly}, 0, impl.ErrMany},
		{"keys that fall", nil, 1, []impl.Out{outOf(5, 2, 1)}, 0, impl.ErrForm},
		{"the rule of one ahead of the Value of the next", nil, 1, []impl.Out{unruly, cheap}, 0, impl.ErrMany},
		{"the Value of one ahead of the rule of the next", nil, 1, []impl.Out{cheap, unruly}, 0, impl.ErrRange},
		{"Value ahead of taken", ordinaryCoins(), 2, []impl.Out{cheap}, 0, impl.ErrRange},
		{"a rule ahead of taken", ordinaryCoins(), 2, []impl.Out{unruly}, 0, impl.ErrMany},
		{"five ahead of taken", ordinaryCoins(), 2, slices.Repeat([]impl.Out{good}, 5), 0, impl.ErrMany},
		{"taken", ordinaryCoins(), 2, []impl.Out{good}, 0, impl.ErrTaken},
		{"taken at another place alone", ordinaryCoins(), 60, []impl.Out{good}, 0, impl.ErrTaken},
		{"taken of none", ordinaryCoins(), 9, nil, 0, impl.ErrTaken},
		{"taken ahead of too many", manyCoins(40), 10, []impl.Out{good}, 0, impl.ErrTaken},
		{"taken of none, where there is no room", manyCoins(40), 1, nil, 0, impl.ErrTaken},
		{"one too many", manyCoins(40), 11, []impl.Out{good}, 0, impl.ErrMany},
		{"one of four too many", manyCoins(37), 11, slices.Repeat([]impl.Out{good}, 4), 0, impl.ErrMany},
		{"Value ahead of too many", manyCoins(40), 11, []impl.Out{cheap}, 0, impl.ErrRange},
		{"keys that fall ahead of too many", manyCoins(40), 11, []impl.Out{outOf(5, 2, 1)}, 0, impl.ErrForm},
		{"just as many", manyCoins(36), 11, slices.Repeat([]impl.Out{good}, 4), 0, impl.OK},
		{"just one more", manyCoins(39), 11, []impl.Out{good}, 0, impl.OK},
		{"none where there is no room", manyCoins(40), 11, nil, 999, impl.OK},
		{"none of none", nil, 1, nil, 0, impl.OK},
		{"four", nil, 60, slices.Repeat([]impl.Out{good}, 4), 999, impl.OK},
	}
	for _, row := range rows {
		r := impl.PutCoins(row.list, row.tx, row.outs, row.height, true)
		if r.Code != row.code || row.code != impl.OK && len(r.Coins) != 0 {
			t.Errorf("%s: %v, want %d", row.name, r, row.code)
		}
		if row.code == impl.OK && len(r.Coins) != len(row.list)+len(row.outs) {
			t.Errorf("%s: %d coins", row.name, len(r.Coins))
		}
		holdPutAgainstPlain(t, row.list, row.tx, row.outs, row.height, true)
	}
}

// A coin of a number bars the number, at whatever place of it that coin is.
func TestACoinAtAnyPlaceBarsItsNumber(t *testing.T) {
	for at := range int64(4) {
		list := []impl.Coin{coinOf(6, 3, 5, 2), coinOf(7, at, 5, 2), coinOf(8, 0, 5, 2)}
		for n := range 5 {
			if r := impl.PutCoins(list, 7, slices.Repeat([]impl.Out{outOf(1, 1)}, n), 0, false); !sameCoinsResults(r, impl.CoinsResult{Code: impl.ErrTaken}) {
				t.Errorf("at %d, %d outs: %v", at, n, r)
			}
		}
	}
}

func TestTakeEdges(t *testing.T) {
	there := refsOf(2, 1, 2, 3, 5, 0, 9, 0, 60, 2)
	rows := []struct {
		name string
		list []impl.Coin
		refs []impl.Ref
		code int64
	}{
		{"none", ordinaryCoins(), nil, impl.OK},
		{"none of none", nil, nil, impl.OK},
		{"one", ordinaryCoins(), there[:1], impl.OK},
		{"four", ordinaryCoins(), there[:4], impl.OK},
		{"five", ordinaryCoins(), there, impl.ErrMany},
		{"five, of none", nil, refsOf(1, 0, 1, 1, 1, 2, 1, 3, 2, 0), impl.ErrMany},
		{"another order", ordinaryCoins(), refsOf(60, 2, 2, 3, 9, 0, 2, 1), impl.OK},
		{"the same twice", ordinaryCoins(), refsOf(2, 1, 2, 1), impl.ErrNone},
		{"the same twice, one between", ordinaryCoins(), refsOf(2, 1, 5, 0, 2, 1), impl.ErrNone},
		{"another place", ordinaryCoins(), refsOf(2, 0), impl.ErrNone},
		{"another number", ordinaryCoins(), refsOf(3, 1), impl.ErrNone},
		{"the last is none", ordinaryCoins(), refsOf(2, 1, 2, 3, 5, 0, 9, 1), impl.ErrNone},
		{"out of bounds", ordinaryCoins(), refsOf(0, 0), impl.ErrNone},
		{"far out of bounds", ordinaryCoins(), refsOf(math.MaxInt64, math.MinInt64), impl.ErrNone},
		{"of none", nil, refsOf(1, 0), impl.ErrNone},
		{"the only one", []impl.Coin{coinOf(1, 0, 5, 2)}, refsOf(1, 0), impl.OK},
	}
	for _, row := range rows {
		r := impl.TakeCoins(row.list, row.refs)
		if r.Code != row.code || row.code != impl.OK && len(r.Coins) != 0 {
			t.Errorf("%s: %v, want %d", row.name, r, row.code)
		}
		if row.code == impl.OK && len(r.Coins) != len(row.list)-len(row.refs) {
			t.Errorf("%s: %d coins", row.name, len(r.Coins))
		}
		holdTakeAgainstPlain(t, row.list, row.refs)
	}
	if r := impl.TakeCoins(ordinaryCoins(), make([]impl.Ref, 100000)); r.Code != impl.ErrMany {
		t.Error("very many refs:", r)
	}
}

func TestTakesByThePlainReading(t *testing.T) {
	refs := refsOf(1, 0, 1, 1, 2, 0, 2, 3, 61, 0)
	lists := [][]impl.Coin{nil, {coinOf(1, 1, 5, 2)}, {coinOf(1, 0, 5, 2), coinOf(1, 1, 6, 3), coinOf(2, 0, 7, 4)}, {coinOf(1, 0, 5, 2), coinOf(1, 1, 6, 3), coinOf(2, 0, 7, 4), coinOf(2, 3, 8, 5)}, {coinOf(2, 0, 5, 2), coinOf(1, 0, 5, 2)}}
	for _, list := range lists {
		listsOf(refs, 5, func(some []impl.Ref) { holdTakeAgainstPlain(t, list, some) })
	}
}

func TestSumsAndOwners(t *testing.T) {
	if r := impl.CoinSum(ordinaryCoins()); r != (impl.IntResult{Value: 1000024}) {
		t.Error(r)
	}
	if r := impl.CoinSum(nil); r != (impl.IntResult{}) {
		t.Error(r)
	}
	full := manyCoins(40)
	for i := range full {
		full[i].Out.Value = 1000000
	}
	if r := impl.CoinSum(full); r != (impl.IntResult{Value: 40000000}) {
		t.Error(r)
	}
	if r := impl.OwnedBy(full, 900); r != (impl.IntResult{Value: 40000000}) {
		t.Error(r)
	}
	rows := []struct{ key, sum int64 }{{2, 12}, {3, 1000007}, {1, 1000000}, {999, 1000000}, {4, 0}, {0, 0}, {-1, 0}, {1000, 0}, {math.MaxInt64, 0}}
	for _, row := range rows {
		if r := impl.OwnedBy(ordinaryCoins(), row.key); r != (impl.IntResult{Value: row.sum}) {
			t.Errorf("key %d: %v, want %d", row.key, r, row.sum)
		}
	}
	for need := int64(1); need <= 3; need++ {
		list := []impl.Coin{{Ref: impl.Ref{Tx: 1}, Out: impl.Out{Value: 5, Rule: impl.Rule{Keys: []int64{1, 2, 3}, Need: need, After: 999}}, Mined: true}}
		for key := range int64(5) {
			want := impl.IntResult{}
			if need == 1 && key >= 1 && key <= 3 {
				want.Value = 5
			}
			if r := impl.OwnedBy(list, key); r != want {
				t.Errorf("need %d, key %d: %v", need, key, r)
			}
		}
	}
}

func TestSameCoins(t *testing.T) {
	base := impl.Coin{Ref: impl.Ref{Tx: 1, At: 1}, Out: outOf(5, 2, 3), Height: 4}
	differ := []func(*impl.Coin){
		func(c *impl.Coin) {}, func(c *impl.Coin) { c.Ref.Tx = 2 }, func(c *impl.Coin) { c.Ref.At = 2 }, func(c *impl.Coin) { c.Out.Value = 6 },
		func(c *impl.Coin) { c.Out.Rule.Keys = []int64{2, 4} }, func(c *impl.Coin) { c.Out.Rule.Keys = []int64{2} }, func(c *impl.Coin) { c.Out.Rule.Keys = nil },
		func(c *impl.Coin) { c.Out.Rule.Need = 2 }, func(c *impl.Coin) { c.Out.Rule.After = 1 }, func(c *impl.Coin) { c.Height = 5 }, func(c *impl.Coin) { c.Mined = true },
		func(c *impl.Coin) { *c = impl.Coin{} },
	}
	lists := [][]impl.Coin{nil, {base, base}, {coinOf(1, 0, 5, 2), base}, {base, coinOf(1, 0, 5, 2)}}
	for _, change := range differ {
		coin := base
		change(&coin)
		lists = append(lists, []impl.Coin{coin})
	}
	lists = append(lists, manyCoins(41), manyCoins(40), ordinaryCoins())
	for i, a := range lists {
		for j, b := range lists {
			if impl.SameCoins(a, copyCoins(b)) != (i == j) {
				t.Errorf("SameCoins(%v, %v) = %v", a, b, i != j)
			}
		}
	}
}

// Promise 1: memory, nil and empty, the same again.

func TestEmptyAndNilCoinsAreTheSame(t *testing.T) {
	if !impl.SameCoins(nil, []impl.Coin{}) || !impl.SameCoins([]impl.Coin{}, nil) {
		t.Error("no coins are the same, empty or nil")
	}
	a, b := []impl.Coin{coinOf(1, 0, 5)}, []impl.Coin{coinOf(1, 0, 5)}
	b[0].Out.Rule.Keys = []int64{}
	if !impl.SameCoins(a, b) || impl.CoinsFault(a) != impl.CoinsFault(b) {
		t.Error("no keys are the same, empty or nil")
	}
	for _, empty := range [][]impl.Coin{nil, {}} {
		holdCoinsAgainstPlain(t, empty)
		for _, refs := range [][]impl.Ref{nil, {}} {
			holdTakeAgainstPlain(t, empty, refs)
			holdTakeAgainstPlain(t, ordinaryCoins(), refs)
		}
		for _, outs := range [][]impl.Out{nil, {}} {
			holdPutAgainstPlain(t, empty, 4, outs, 0, true)
			holdPutAgainstPlain(t, ordinaryCoins(), 4, outs, 0, true)
		}
	}
}

// roomyCoins has space behind its list and behind the keys of each rule, with marks in it.
func roomyCoins(list []impl.Coin) []impl.Coin {
	whole := append(copyCoins(list), coinOf(77, 78, 79, 80), coinOf(81, 82, 83, 84))
	for i := range whole {
		keys := append(slices.Clone(whole[i].Out.Rule.Keys), 77, 78)
		whole[i].Out.Rule.Keys = keys[:len(keys)-2]
	}
	return whole[:len(list)]
}

// wholeKeys tells the keys of each coin and what stands behind them.
func wholeKeys(list []impl.Coin) []int64 {
	var all []int64
	for _, coin := range list[:cap(list)] {
		all = append(all, coin.Out.Rule.Keys[:cap(coin.Out.Rule.Keys)]...)
	}
	return all
}

func TestCoinsAreNotChanged(t *testing.T) {
	lists := [][]impl.Coin{ordinaryCoins(), manyCoins(40), manyCoins(36), nil}
	for _, row := range wrongCoins() {
		lists = append(lists, row.coins)
	}
	outs := roomyCoins([]impl.Coin{coinOf(1, 0, 5, 2), coinOf(1, 1, 6, 3)})
	for _, list := range lists {
		shown := roomyCoins(list)
		was, wasKeys := copyCoins(shown[:cap(shown)]), wholeKeys(shown)
		some := []impl.Out{outs[0].Out, outs[1].Out, outOf(77, 78)}
		refs := refsOf(60, 2, 2, 1, 77, 78)
		impl.CoinsFault(shown)
		impl.CoinAt(shown, impl.Ref{Tx: 2, At: 1})
		impl.PutCoins(shown, 30, some[:2], 0, true)
		impl.PutCoins(shown, 1, some[:2], 0, true)
		impl.TakeCoins(shown, refs[:2])
		impl.TakeCoins(shown, nil)
		impl.CoinSum(shown)
		impl.OwnedBy(shown, 2)
		impl.SameCoins(shown, shown)
		if !plainSameCoins(shown[:cap(shown)], was) || !slices.Equal(wholeKeys(shown), wasKeys) {
			t.Errorf("an argument was changed: %v", shown[:cap(shown)])
		}
		if !slices.Equal(refs, refsOf(60, 2, 2, 1, 77, 78)) || some[2].Value != 77 || some[0].Value != 5 || !slices.Equal(wholeKeys(outs), wholeKeys(roomyCoins([]impl.Coin{coinOf(1, 0, 5, 2), coinOf(1, 1, 6, 3)}))) {
			t.Errorf("an argument was changed: %v %v", refs, some)
		}
	}
}

// spoilCoins writes to all memory that a list has, and to the keys of each coin of it.
func spoilCoins(list []impl.Coin) {
	for i := range list {
		spoilNumbers(list[i].Out.Rule.Keys)
	}
	clear(list[:cap(list)])
}

// coinsShareNone: who writes to the keys of one coin writes to those of no other.
func coinsShareNone(t *testing.T, name string, list []impl.Coin) {
	t.Helper()
	want := copyCoins(list)
	for i := range list {
		spoilNumbers(list[i].Out.Rule.Keys)
		for j := i + 1; j < len(list); j++ {
			if !slices.Equal(list[j].Out.Rule.Keys, want[j].Out.Rule.Keys) {
				t.Errorf("%s: the coins %d and %d share memory", name, i, j)
			}
		}
	}
}

func TestAnswersOfCoinsShareNoMemory(t *testing.T) {
	calls := []struct {
		name string
		call func([]impl.Coin, []impl.Out) []impl.Coin
	}{
		{"CoinAt", func(list []impl.Coin, _ []impl.Out) []impl.Coin {
			return impl.CoinAt(list, impl.Ref{Tx: 5}).Coins
		}},
		{"PutCoins", func(list []impl.Coin, outs []impl.Out) []impl.Coin {
			return impl.PutCoins(list, 4, outs, 1, true).Coins
		}},
		{"PutCoins of none", func(list []impl.Coin, _ []impl.Out) []impl.Coin {
			return impl.PutCoins(list, 4, nil, 1, true).Coins
		}},
		{"TakeCoins", func(list []impl.Coin, _ []impl.Out) []impl.Coin {
			return impl.TakeCoins(list, refsOf(2, 1)).Coins
		}},
		{"TakeCoins of the last", func(list []impl.Coin, _ []impl.Out) []impl.Coin {
			return impl.TakeCoins(list, refsOf(60, 2)).Coins
		}},
		{"TakeCoins of none", func(list []impl.Coin, _ []impl.Out) []impl.Coin {
			return impl.TakeCoins(list, nil).Coins
		}},
	}
	keys := []int64{2, 3}
	for _, row := range calls {
		list := ordinaryCoins()
		// The same keys in several places: an answer has them apart.
		outs := []impl.Out{{Value: 5, Rule: impl.Rule{Keys: keys, Need: 1}}, {Value: 6, Rule: impl.Rule{Keys: keys, Need: 2}}}
		list[1].Out.Rule.Keys, list[2].Out.Rule.Keys = keys, keys
		was, wasOuts := copyCoins(list), copyTx(pay(nil, outs...))
		answer, again := row.call(list, outs), row.call(list, outs)
		want := copyCoins(answer)
		if len(answer) == 0 {
			t.Errorf("%s: no answer", row.name)
		}
		coinsShareNone(t, row.name, answer)
		spoilCoins(answer)
		if !plainSameCoins(list, was) || !plainSameTxs(pay(nil, outs...), wasOuts) {
			t.Errorf("%s: who writes to the answer writes to an argument: %v %v", row.name, list, outs)
		}
		spoilCoins(list)
		clear(outs)
		if !plainSameCoins(again, want) {
			t.Errorf("%s: who writes to an argument or to another answer writes to the answer: %v", row.name, again)
		}
		keys = []int64{2, 3}
	}
}

func TestCoinsRiseHoweverOftenTheyAreAsked(t *testing.T) {
	first := impl.PutCoins(manyCoins(36), 30, []impl.Out{outOf(1, 1), outOf(2, 2), outOf(3, 3), outOf(4, 4)}, 9, false)
	if impl.CoinsFault(first.Coins) != impl.OK || len(first.Coins) != 40 {
		t.Fatal(first)
	}
	taken := impl.TakeCoins(first.Coins, refsOf(30, 3, 1, 0, 5, 2))
	for range 50 {
		again := impl.PutCoins(manyCoins(36), 30, []impl.Out{outOf(1, 1), outOf(2, 2), outOf(3, 3), outOf(4, 4)}, 9, false)
		if !sameCoinsResults(again, first) {
			t.Fatal(again)
		}
		if r := impl.TakeCoins(again.Coins, refsOf(1, 0, 5, 2, 30, 3)); !sameCoinsResults(r, taken) || impl.CoinsFault(r.Coins) != impl.OK {
			t.Fatal(r)
		}
	}
}

func TestConstantsOfCoins(t *testing.T) {
	if impl.MaxCoins != 40 {
		t.Error(impl.MaxCoins)
	}
}
