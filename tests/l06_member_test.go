package tests

import (
	"math"
	"math/rand"
	"slices"
	"testing"

	"loop.example/g00304/impl"
)

// The plain reading of chapter 6, member by member: what the program is held against.

func plainMembersFault(list []impl.Member) int64 {
	if len(list) > 8 {
		return impl.ErrMany
	}
	for i, m := range list {
		if m.Key < 1 || m.Key > 999 || !plainRefIsSo(m.Ref) {
			return impl.ErrRange
		}
		if i > 0 && m.Key <= list[i-1].Key {
			return impl.ErrForm
		}
	}
	for i, m := range list {
		for _, other := range list[:i] {
			if m.Ref.Tx == other.Ref.Tx && m.Ref.At == other.Ref.At {
				return impl.ErrTaken
			}
		}
	}
	return impl.OK
}

func plainMemberOf(list []impl.Member, key int64) impl.MembersResult {
	if code := plainMembersFault(list); code != impl.OK {
		return impl.MembersResult{Code: code}
	}
	for _, m := range list {
		if m.Key == key {
			return impl.MembersResult{Members: []impl.Member{m}}
		}
	}
	return impl.MembersResult{Code: impl.ErrNone}
}

func plainKeysOf(list []impl.Member) impl.IntsResult {
	if code := plainMembersFault(list); code != impl.OK {
		return impl.IntsResult{Code: code}
	}
	var keys []int64
	for _, m := range list {
		keys = append(keys, m.Key)
	}
	return impl.IntsResult{List: keys}
}

// plainTakeMembers finds the place of who joins by trying each key there may be.
func plainTakeMembers(list []impl.Member, tx impl.Tx, id int64) impl.MembersResult {
	fail := func(code int64) impl.MembersResult { return impl.MembersResult{Code: code} }
	for _, code := range []int64{plainMembersFault(list), plainTxFault(tx)} {
		if code != impl.OK {
			return fail(code)
		}
	}
	if id < 1 || id > 60 {
		return fail(impl.ErrRange)
	}
	left := map[int64]impl.Ref{}
	for _, m := range list {
		left[m.Key] = m.Ref
	}
	if tx.Kind == impl.KindLeave {
		if _, found := left[tx.Member]; !found {
			return fail(impl.ErrNone)
		}
		delete(left, tx.Member)
	}
	for _, m := range list {
		for _, ref := range tx.Ins {
			if ref == m.Ref {
				delete(left, m.Key)
			}
		}
	}
	if tx.Kind == impl.KindJoin {
		if _, found := left[tx.Member]; found {
			return fail(impl.ErrTaken)
		}
		for _, ref := range left {
			if ref.Tx == id && ref.At == 0 {
				return fail(impl.ErrTaken)
			}
		}
		if len(left) == 8 {
			return fail(impl.ErrMany)
		}
		left[tx.Member] = impl.Ref{Tx: id, At: 0}
	}
	var answer impl.MembersResult
	for key := int64(1); key <= 999; key++ {
		if ref, found := left[key]; found {
			answer.Members = append(answer.Members, impl.Member{Key: key, Ref: ref})
		}
	}
	return answer
}

func plainSameMembers(a, b []impl.Member) bool {
	if len(a) != len(b) {
		return false
	}
	for i := range a {
		if a[i].Key != b[i].Key || a[i].Ref.Tx != b[i].Ref.Tx || a[i].Ref.At != b[i].Ref.At {
			return false
		}
	}
	return true
}

func sameMembersResults(a, b impl.MembersResult) bool {
	return a.Code == b.Code && plainSameMembers(a.Members, b.Members)
}

func memberOf(key, tx, at int64) impl.Member {
	return impl.Member{Key: key, Ref: impl.Ref{Tx: tx, At: at}}
}

// manyMembers rise from the key 10 on, ten apart, and hold the coins 1:0, 2:0 and so on.
func manyMembers(n int) []impl.Member {
	var list []impl.Member
	for i := range int64(n) {
		list = append(list, memberOf(10*i+10, i+1, 0))
	}
	return list
}

func joinTx(member int64, refs []impl.Ref) impl.Tx {
	return withMember(impl.KindJoin, member, refs, outOf(100, member))
}

func leaveTx(member int64, refs []impl.Ref) impl.Tx {
	return withMember(impl.KindLeave, member, refs, outOf(1, member))
}

func payTx(refs []impl.Ref) impl.Tx {
	return pay(refs, outOf(1, 2))
}

// roomyMembers has marks behind the end that nobody may write to.
func roomyMembers(list []impl.Member) []impl.Member {
	whole := append(slices.Clone(list), memberOf(901, 51, 1), memberOf(902, 52, 2))
	return whole[:len(list)]
}

func holdMembersAgainstPlain(t *testing.T, list []impl.Member) {
	t.Helper()
	was := slices.Clone(list)
	if got, want := impl.MembersFault(list), plainMembersFault(list); got != want {
		t.Fatalf("MembersFault(%v) = %d, want %d", list, got, want)
	}
	if got, want := impl.KeysOf(list), plainKeysOf(list); got.Code != want.Code || !slices.Equal(got.List, want.List) {
		t.Fatalf("KeysOf(%v) = %v, want %v", list, got, want)
	}
	for _, key := range []int64{math.MinInt64, -1, 0, 1, 2, 3, 10, 20, 21, 80, 998, 999, 1000, math.MaxInt64} {
		if got, want := impl.MemberOf(list, key), plainMemberOf(list, key); !sameMembersResults(got, want) {
			t.Fatalf("MemberOf(%v, %d) = %v, want %v", list, key, got, want)
		}
	}
	if !plainSameMembers(list, was) {
		t.Fatalf("an argument was changed: %v, it was %v", list, was)
	}
}

func holdTakeMembersAgainstPlain(t *testing.T, list []impl.Member, tx impl.Tx, id int64) impl.MembersResult {
	t.Helper()
	was, wasTx := slices.Clone(list), copyTx(tx)
	got, want := impl.TakeMembers(list, tx, id), plainTakeMembers(list, tx, id)
	if !sameMembersResults(got, want) {
		t.Fatalf("TakeMembers(%v, %v, %d) = %v, want %v", list, tx, id, got, want)
	}
	if !plainSameMembers(list, was) || !plainSameTxs(tx, wasTx) {
		t.Fatalf("an argument was changed: %v %v", list, tx)
	}
	return got
}

// Promise 7: who joins is there, who leaves is not, and nobody holds what another one does.

func TestOrdinaryMembers(t *testing.T) {
	a := impl.TakeMembers(nil, joinTx(5, refsOf(1, 0)), 3)
	b := impl.TakeMembers(a.Members, joinTx(2, refsOf(1, 1)), 9)
	c := impl.TakeMembers(b.Members, joinTx(999, refsOf(9, 1)), 4)
	want := []impl.Member{memberOf(2, 9, 0), memberOf(5, 3, 0), memberOf(999, 4, 0)}
	if !sameMembersResults(c, impl.MembersResult{Members: want}) || impl.MembersFault(c.Members) != impl.OK {
		t.Fatal("who joined:", c)
	}
	if r := impl.KeysOf(c.Members); r.Code != impl.OK || !slices.Equal(r.List, []int64{2, 5, 999}) {
		t.Error("KeysOf:", r)
	}
	if r := impl.MemberOf(c.Members, 5); !sameMembersResults(r, impl.MembersResult{Members: want[1:2]}) {
		t.Error("MemberOf:", r)
	}
	if r := impl.TakeMembers(c.Members, leaveTx(5, refsOf(7, 0)), 8); !sameMembersResults(r, impl.MembersResult{Members: []impl.Member{want[0], want[2]}}) {
		t.Error("who left:", r)
	}
	if r := impl.TakeMembers(c.Members, payTx(refsOf(4, 0, 7, 1)), 8); !sameMembersResults(r, impl.MembersResult{Members: want[:2]}) {
		t.Error("who spent what it held:", r)
	}
	if r := impl.TakeMembers(c.Members, payTx(refsOf(4, 1, 7, 1)), 8); !sameMembersResults(r, impl.MembersResult{Members: want}) {
		t.Error("who spent another coin of the same number:", r)
	}
}

// Whoever joins and leaves, in whatever order: those are there who joined, did not leave and spent nothing that they held.
func TestWalksOfMembers(t *testing.T) {
	dice := rand.New(rand.NewSource(6))
	for range 300 {
		var list []impl.Member
		for range 40 {
			tx := randomMemberTx(dice, list)
			id := dice.Int63n(13)
			r := holdTakeMembersAgainstPlain(t, list, tx, id)
			if r.Code != impl.OK {
				continue
			}
			if impl.MembersFault(r.Members) != impl.OK {
				t.Fatalf("%v behind %v: a fault in %v", tx, list, r)
			}
			one := impl.MemberOf(r.Members, tx.Member)
			switch tx.Kind {
			case impl.KindJoin:
				if !sameMembersResults(one, impl.MembersResult{Members: []impl.Member{memberOf(tx.Member, id, 0)}}) {
					t.Fatal("who joins is there:", tx, r)
				}
			case impl.KindLeave:
				if one.Code != impl.ErrNone || impl.MemberOf(list, tx.Member).Code != impl.OK {
					t.Fatal("who leaves was there and is not:", tx, r)
				}
			}
			for _, m := range r.Members {
				if slices.Contains(tx.Ins, m.Ref) && !(tx.Kind == impl.KindJoin && m.Key == tx.Member) {
					t.Fatal("who holds what is spent is gone:", tx, r)
				}
			}
			list = r.Members
			holdMembersAgainstPlain(t, list)
		}
	}
}

// randomMemberTx spends what some hold and what nobody does; few keys, so that they meet.
func randomMemberTx(dice *rand.Rand, list []impl.Member) impl.Tx {
	tx := impl.Tx{Kind: impl.KindJoin, Outs: []impl.Out{outOf(100, 1)}}
	if dice.Intn(3) == 0 {
		tx.Kind = dice.Int63n(3)
	}
	if tx.Kind != impl.KindPay {
		tx.Member = dice.Int63n(12) + 1
	}
	for range 1 + dice.Intn(2) {
		ref := impl.Ref{Tx: 30 + dice.Int63n(20)}
		if len(list) > 0 && dice.Intn(5) == 0 {
			ref = list[dice.Intn(len(list))].Ref
		}
		if !slices.Contains(tx.Ins, ref) {
			tx.Ins = append(tx.Ins, ref)
		}
	}
	return tx
}

// The edges that the document names, and wrong inputs.

func TestMembersFault(t *testing.T) {
	two := []impl.Member{memberOf(1, 1, 0), memberOf(999, 60, 3)}
	rows := []struct {
		name string
		list []impl.Member
		code int64
	}{
		{"none", nil, impl.OK},
		{"the least and the most", two, impl.OK},
		{"8", manyMembers(8), impl.OK},
		{"9", manyMembers(9), impl.ErrMany},
		{"9 with all faults", make([]impl.Member, 9), impl.ErrMany},
		{"Key 0", []impl.Member{memberOf(0, 1, 0)}, impl.ErrRange},
		{"Key -1", []impl.Member{memberOf(-1, 1, 0)}, impl.ErrRange},
		{"Key 1", []impl.Member{memberOf(1, 1, 0)}, impl.OK},
		{"Key 999", []impl.Member{memberOf(999, 1, 0)}, impl.OK},
		{"Key 1000", []impl.Member{memberOf(1000, 1, 0)}, impl.ErrRange},
		{"the lowest Key there is", []impl.Member{memberOf(math.MinInt64, 1, 0)}, impl.ErrRange},
		{"the highest Key there is", []impl.Member{memberOf(math.MaxInt64, 1, 0)}, impl.ErrRange},
		{"Tx 0", []impl.Member{memberOf(5, 0, 0)}, impl.ErrRange},
		{"Tx 1", []impl.Member{memberOf(5, 1, 0)}, impl.OK},
		{"Tx 60", []impl.Member{memberOf(5, 60, 0)}, impl.OK},
		{"Tx 61", []impl.Member{memberOf(5, 61, 0)}, impl.ErrRange},
		{"At -1", []impl.Member{memberOf(5, 1, -1)}, impl.ErrRange},
		{"At 0", []impl.Member{memberOf(5, 1, 0)}, impl.OK},
		{"At 3", []impl.Member{memberOf(5, 1, 3)}, impl.OK},
		{"At 4", []impl.Member{memberOf(5, 1, 4)}, impl.ErrRange},
		{"Keys alike", []impl.Member{memberOf(5, 1, 0), memberOf(5, 2, 0)}, impl.ErrForm},
		{"Keys fall", []impl.Member{memberOf(6, 1, 0), memberOf(5, 2, 0)}, impl.ErrForm},
		{"Keys fall at the end", []impl.Member{memberOf(5, 1, 0), memberOf(7, 2, 0), memberOf(6, 3, 0)}, impl.ErrForm},
		{"Keys rise again", []impl.Member{memberOf(5, 1, 0), memberOf(4, 2, 0), memberOf(6, 3, 0)}, impl.ErrForm},
		{"refs may fall", []impl.Member{memberOf(5, 60, 3), memberOf(6, 60, 2), memberOf(7, 1, 0)}, impl.OK},
		{"a Ref twice side by side", []impl.Member{memberOf(5, 1, 0), memberOf(6, 1, 0)}, impl.ErrTaken},
		{"a Ref twice apart", []impl.Member{memberOf(5, 1, 1), memberOf(6, 2, 1), memberOf(7, 1, 1)}, impl.ErrTaken},
		{"a Ref twice at the ends of 8", append([]impl.Member{memberOf(5, 8, 0)}, manyMembers(8)[1:]...), impl.ErrTaken},
		{"the same Tx, not At", []impl.Member{memberOf(5, 1, 0), memberOf(6, 1, 1)}, impl.OK},
		{"the same At, not Tx", []impl.Member{memberOf(5, 1, 3), memberOf(6, 2, 3)}, impl.OK},
		{"a Ref twice, Keys alike", []impl.Member{memberOf(5, 1, 0), memberOf(5, 1, 0)}, impl.ErrForm},
		{"a Ref twice, a Key behind falls", []impl.Member{memberOf(5, 1, 0), memberOf(6, 1, 0), memberOf(4, 2, 0)}, impl.ErrForm},
		{"a Ref twice, a Key behind out of bounds", []impl.Member{memberOf(5, 1, 0), memberOf(6, 1, 0), memberOf(1000, 2, 0)}, impl.ErrRange},
		{"a Key falls ahead of one out of bounds", []impl.Member{memberOf(5, 1, 0), memberOf(4, 2, 0), memberOf(0, 3, 0)}, impl.ErrForm},
		{"a Key out of bounds ahead of one that falls", []impl.Member{memberOf(5, 1, 0), memberOf(1000, 2, 0), memberOf(4, 3, 0)}, impl.ErrRange},
		{"a Key falls and is out of bounds", []impl.Member{memberOf(5, 1, 0), memberOf(0, 2, 0)}, impl.ErrRange},
		{"a Key falls, its Ref out of bounds", []impl.Member{memberOf(5, 1, 0), memberOf(4, 0, 0)}, impl.ErrRange},
	}
	for _, row := range rows {
		if got := impl.MembersFault(row.list); got != row.code {
			t.Errorf("%s: %d, want %d", row.name, got, row.code)
		}
		if got := plainMembersFault(row.list); got != row.code {
			t.Errorf("%s: the plain reading says %d, want %d", row.name, got, row.code)
		}
		holdMembersAgainstPlain(t, row.list)
		if row.code == impl.OK {
			continue
		}
		// The others ask it ahead of all else: a transaction and a number with faults of their own.
		if r := impl.TakeMembers(row.list, impl.Tx{Kind: 9}, 0); r.Code != row.code || len(r.Members) != 0 {
			t.Errorf("%s: TakeMembers %v", row.name, r)
		}
		if r := impl.TakeMembers(row.list, joinTx(5, refsOf(1, 0)), 3); r.Code != row.code || len(r.Members) != 0 {
			t.Errorf("%s: TakeMembers %v", row.name, r)
		}
		for _, key := range []int64{-1, 5, 1000} {
			if r := impl.MemberOf(row.list, key); r.Code != row.code || len(r.Members) != 0 {
				t.Errorf("%s: MemberOf %v", row.name, r)
			}
		}
		if r := impl.KeysOf(row.list); r.Code != row.code || len(r.List) != 0 {
			t.Errorf("%s: KeysOf %v", row.name, r)
		}
	}
}

func TestAllShortListsOfMembers(t *testing.T) {
	elements := []impl.Member{
		memberOf(0, 1, 0), memberOf(1, 1, 0), memberOf(1, 2, 0), memberOf(2, 1, 0), memberOf(2, 1, 1), memberOf(3, 2, 0),
		memberOf(3, 61, 0), memberOf(999, 60, 3), memberOf(1000, 3, 0), memberOf(4, 1, 4), memberOf(4, 0, -1),
	}
	listsOf(elements, 4, func(list []impl.Member) { holdMembersAgainstPlain(t, list) })
}

func TestMemberOfEdges(t *testing.T) {
	list := manyMembers(8)
	for i, m := range list {
		if r := impl.MemberOf(list, m.Key); !sameMembersResults(r, impl.MembersResult{Members: list[i : i+1]}) {
			t.Errorf("%d: %v", m.Key, r)
		}
	}
	for _, key := range []int64{math.MinInt64, -10, -1, 0, 1, 9, 11, 79, 81, 90, 999, 1000, math.MaxInt64} {
		if r := impl.MemberOf(list, key); r.Code != impl.ErrNone || len(r.Members) != 0 {
			t.Errorf("%d: %v", key, r)
		}
		if r := impl.MemberOf(nil, key); r.Code != impl.ErrNone || len(r.Members) != 0 {
			t.Errorf("none, %d: %v", key, r)
		}
	}
}

func TestFaultsOfWhatMembersTake(t *testing.T) {
	list := manyMembers(3)
	for _, row := range wrongTxs() {
		for _, id := range []int64{0, 1, 60, 61} {
			if r := impl.TakeMembers(list, row.tx, id); r.Code != row.code || len(r.Members) != 0 {
				t.Errorf("%s, id %d: %v, want %d", row.name, id, r, row.code)
			}
			holdTakeMembersAgainstPlain(t, list, row.tx, id)
		}
	}
	for _, row := range ordinaryTxs() {
		holdTakeMembersAgainstPlain(t, list, row.tx, 20)
	}
	for id, code := range map[int64]int64{math.MinInt64: impl.ErrRange, -1: impl.ErrRange, 0: impl.ErrRange, 1: impl.OK, 60: impl.OK, 61: impl.ErrRange, math.MaxInt64: impl.ErrRange} {
		// The number is asked ahead of who leaves, who is one already, and how many there are.
		txs := []impl.Tx{payTx(refsOf(9, 0)), leaveTx(10, refsOf(9, 0)), joinTx(5, refsOf(1, 0))}
		if code != impl.OK {
			txs = append(txs, leaveTx(11, refsOf(9, 0)), joinTx(20, refsOf(9, 0)))
			if r := impl.TakeMembers(manyMembers(8), joinTx(5, refsOf(9, 0)), id); r.Code != code || len(r.Members) != 0 {
				t.Errorf("id %d: %v", id, r)
			}
		}
		for _, tx := range txs {
			if r := impl.TakeMembers(list, tx, id); r.Code != code || (len(r.Members) == 0) != (code != impl.OK) {
				t.Errorf("id %d, %v: %v, want %d", id, tx, r, code)
			}
		}
	}
}

func TestWhoLeaves(t *testing.T) {
	list := manyMembers(4)
	rows := []struct {
		name   string
		member int64
		ins    []impl.Ref
		want   impl.MembersResult
	}{
		{"the first", 10, refsOf(50, 0), impl.MembersResult{Members: list[1:]}},
		{"one between", 20, refsOf(50, 0), impl.MembersResult{Members: []impl.Member{list[0], list[2], list[3]}}},
		{"the last", 40, refsOf(50, 0), impl.MembersResult{Members: list[:3]}},
		{"none", 15, refsOf(50, 0), impl.MembersResult{Code: impl.ErrNone}},
		{"none ahead of all", 1, refsOf(50, 0), impl.MembersResult{Code: impl.ErrNone}},
		{"none behind all", 999, refsOf(50, 0), impl.MembersResult{Code: impl.ErrNone}},
		{"none, others spend", 15, refsOf(1, 0, 2, 0), impl.MembersResult{Code: impl.ErrNone}},
		{"and spends what it holds", 20, refsOf(2, 0), impl.MembersResult{Members: []impl.Member{list[0], list[2], list[3]}}},
		{"and another spends", 20, refsOf(3, 0), impl.MembersResult{Members: []impl.Member{list[0], list[3]}}},
		{"and all spend", 20, refsOf(4, 0, 3, 0, 2, 0, 1, 0), impl.MembersResult{}},
	}
	for _, row := range rows {
		if r := holdTakeMembersAgainstPlain(t, list, leaveTx(row.member, row.ins), 30); !sameMembersResults(r, row.want) {
			t.Errorf("%s: %v, want %v", row.name, r, row.want)
		}
	}
	if r := impl.TakeMembers(nil, leaveTx(5, refsOf(1, 0)), 1); !sameMembersResults(r, impl.MembersResult{Code: impl.ErrNone}) {
		t.Error(r)
	}
	// One who left may leave no more.
	gone := impl.TakeMembers(list, leaveTx(20, refsOf(50, 0)), 30).Members
	if r := impl.TakeMembers(gone, leaveTx(20, refsOf(50, 0)), 31); r.Code != impl.ErrNone {
		t.Error(r)
	}
}

func TestWhoHoldsWhatIsSpent(t *testing.T) {
	list := []impl.Member{memberOf(10, 1, 0), memberOf(20, 1, 1), memberOf(30, 2, 0), memberOf(40, 60, 3)}
	rows := []struct {
		name string
		ins  []impl.Ref
		want []impl.Member
	}{
		{"of none", refsOf(2, 1, 3, 0, 1, 2, 60, 0), list},
		{"of the first", refsOf(1, 0), list[1:]},
		{"of the last, behind that of none", refsOf(5, 0, 60, 3), list[:3]},
		{"of one between", refsOf(1, 1, 1, 3), []impl.Member{list[0], list[2], list[3]}},
		{"of two side by side", refsOf(1, 1, 1, 0), list[2:]},
		{"of two apart", refsOf(60, 3, 7, 0, 1, 1), []impl.Member{list[0], list[2]}},
		{"of all", refsOf(60, 3, 2, 0, 1, 1, 1, 0), nil},
	}
	for _, row := range rows {
		if r := holdTakeMembersAgainstPlain(t, list, payTx(row.ins), 30); !sameMembersResults(r, impl.MembersResult{Members: row.want}) {
			t.Errorf("pay %s: %v, want %v", row.name, r, row.want)
		}
		// Whatever the kind: it goes as well where another one leaves or joins.
		var others []impl.Member
		for _, m := range row.want {
			if m.Key != 30 {
				others = append(others, m)
			}
		}
		if r := holdTakeMembersAgainstPlain(t, list, leaveTx(30, row.ins), 30); !sameMembersResults(r, impl.MembersResult{Members: others}) {
			t.Errorf("leave %s: %v, want %v", row.name, r, others)
		}
		joined := append(slices.Clone(row.want), memberOf(50, 30, 0))
		if r := holdTakeMembersAgainstPlain(t, list, joinTx(50, row.ins), 30); !sameMembersResults(r, impl.MembersResult{Members: joined}) {
			t.Errorf("join %s: %v, want %v", row.name, r, joined)
		}
	}
}

func TestWhoJoins(t *testing.T) {
	list := manyMembers(4)
	full := manyMembers(8)
	with := func(list []impl.Member, at int, m impl.Member) impl.MembersResult {
		return impl.MembersResult{Members: slices.Insert(slices.Clone(list), at, m)}
	}
	taken, many := impl.MembersResult{Code: impl.ErrTaken}, impl.MembersResult{Code: impl.ErrMany}
	rows := []struct {
		name   string
		list   []impl.Member
		member int64
		ins    []impl.Ref
		id     int64
		want   impl.MembersResult
	}{
		{"the first of all", nil, 7, refsOf(50, 0), 60, with(nil, 0, memberOf(7, 60, 0))},
		{"ahead of the others", list, 1, refsOf(50, 0), 30, with(list, 0, memberOf(1, 30, 0))},
		{"between the others", list, 21, refsOf(50, 0), 30, with(list, 2, memberOf(21, 30, 0))},
		{"behind the others", list, 999, refsOf(50, 0), 30, with(list, 4, memberOf(999, 30, 0))},
		{"one already", list, 20, refsOf(50, 0), 30, taken},
		{"one already, another spends", list, 20, refsOf(1, 0), 30, taken},
		{"again, where it spends what it holds", list, 20, refsOf(2, 0), 30, impl.MembersResult{Members: []impl.Member{list[0], memberOf(20, 30, 0), list[2], list[3]}}},
		{"again, with the number of what it held", list, 20, refsOf(2, 0), 2, impl.MembersResult{Members: list}},
		{"one already, with the number of what it holds", list, 20, refsOf(50, 0), 2, taken},
		{"another one has the Ref", list, 25, refsOf(50, 0), 3, taken},
		{"the first one has the Ref", list, 25, refsOf(50, 0), 1, taken},
		{"the last one has the Ref", list, 25, refsOf(50, 0), 4, taken},
		{"another one had the Ref and spends it", list, 25, refsOf(3, 0), 3, impl.MembersResult{Members: []impl.Member{list[0], list[1], memberOf(25, 3, 0), list[3]}}},
		{"another one has a coin of id at another place", []impl.Member{memberOf(10, 3, 1)}, 25, refsOf(50, 0), 3, with([]impl.Member{memberOf(10, 3, 1)}, 1, memberOf(25, 3, 0))},
		{"with 7", full[:7], 25, refsOf(50, 0), 30, with(full[:7], 2, memberOf(25, 30, 0))},
		{"with 8", full, 25, refsOf(50, 0), 30, many},
		{"with 8 of whom the first goes", full, 25, refsOf(1, 0), 30, with(full[1:], 1, memberOf(25, 30, 0))},
		{"with 8 of whom the last goes", full, 85, refsOf(8, 0), 30, with(full[:7], 7, memberOf(85, 30, 0))},
		{"with 8, one of them", full, 20, refsOf(50, 0), 30, taken},
		{"with 8, one has the Ref", full, 25, refsOf(50, 0), 5, taken},
		{"with 8, one of them again", full, 80, refsOf(8, 0), 30, with(full[:7], 7, memberOf(80, 30, 0))},
		{"with 8, all but four go", full, 5, refsOf(1, 0, 2, 0, 3, 0, 4, 0), 30, with(full[4:], 0, memberOf(5, 30, 0))},
	}
	for _, row := range rows {
		r := holdTakeMembersAgainstPlain(t, row.list, joinTx(row.member, row.ins), row.id)
		if !sameMembersResults(r, row.want) {
			t.Errorf("%s: %v, want %v", row.name, r, row.want)
		}
		if r.Code == impl.OK && impl.MembersFault(r.Members) != impl.OK {
			t.Errorf("%s: a fault in %v", row.name, r)
		}
	}
	// The coin of the first of Outs is the one held, however many there are.
	tx := withMember(impl.KindJoin, 5, refsOf(50, 0), outOf(100, 5), outOf(900, 5), outOf(900, 5))
	if r := impl.TakeMembers(nil, tx, 30); !sameMembersResults(r, impl.MembersResult{Members: []impl.Member{memberOf(5, 30, 0)}}) {
		t.Error(r)
	}
}

func TestSameMembers(t *testing.T) {
	list := []impl.Member{memberOf(10, 1, 0), memberOf(20, 1, 1), memberOf(30, 2, 0)}
	rows := []struct {
		name string
		a, b []impl.Member
		same bool
	}{
		{"none", nil, []impl.Member{}, true},
		{"alike", list, slices.Clone(list), true},
		{"one less", list, list[:2], false},
		{"one and none", nil, list[:1], false},
		{"another Key", list, []impl.Member{list[0], memberOf(21, 1, 1), list[2]}, false},
		{"another Tx", list, []impl.Member{list[0], memberOf(20, 3, 1), list[2]}, false},
		{"another At", list, []impl.Member{list[0], memberOf(20, 1, 2), list[2]}, false},
		{"the first another one", list, []impl.Member{memberOf(9, 1, 0), list[1], list[2]}, false},
		{"the last another one", list, []impl.Member{list[0], list[1], memberOf(31, 2, 0)}, false},
		{"another order", []impl.Member{list[1], list[0]}, list[:2], false},
		{"alike with faults", []impl.Member{memberOf(0, -1, 9), memberOf(0, -1, 9)}, []impl.Member{memberOf(0, -1, 9), memberOf(0, -1, 9)}, true},
		{"not alike with faults", []impl.Member{memberOf(0, -1, 9), memberOf(0, -1, 9)}, []impl.Member{memberOf(0, -1, 9), memberOf(0, -1, 8)}, false},
		{"too many alike", manyMembers(12), manyMembers(12), true},
		{"too many, one less", manyMembers(12), manyMembers(11), false},
	}
	for _, row := range rows {
		if impl.SameMembers(row.a, row.b) != row.same || impl.SameMembers(row.b, row.a) != row.same {
			t.Errorf("%s: not %v", row.name, row.same)
		}
		if plainSameMembers(row.a, row.b) != row.same {
			t.Errorf("%s: the plain reading says not %v", row.name, row.same)
		}
	}
}

// Promise 1: memory, nil and empty, the same again.

func TestMembersAreNotChanged(t *testing.T) {
	lists := [][]impl.Member{nil, manyMembers(1), manyMembers(4), manyMembers(8), manyMembers(9), {memberOf(5, 1, 0), memberOf(4, 1, 0)}}
	txs := []impl.Tx{payTx(refsOf(2, 0, 1, 0)), leaveTx(10, refsOf(2, 0)), leaveTx(11, refsOf(2, 0)), joinTx(10, refsOf(1, 0)), joinTx(5, refsOf(50, 0)), joinTx(5, refsOf(1, 0, 2, 0)), {}}
	for _, list := range lists {
		for _, tx := range txs {
			shown, other := roomyMembers(list), roomyMembers(list)
			was := slices.Clone(shown[:cap(shown)])
			shownTx, whole := roomyTx(tx)
			wasTx := copyTx(whole)
			impl.MembersFault(shown)
			impl.TakeMembers(shown, shownTx, 30)
			impl.MemberOf(shown, 10)
			impl.KeysOf(shown)
			impl.SameMembers(shown, other)
			if !slices.Equal(shown[:cap(shown)], was) || !slices.Equal(other[:len(list)+2], was[:len(list)+2]) {
				t.Errorf("the members were changed: %v, they were %v", shown[:cap(shown)], was)
			}
			if !plainSameTxs(whole, wasTx) || !plainSameTxs(shownTx, tx) {
				t.Errorf("the transaction was changed: %v", whole)
			}
		}
	}
}

func TestAnswersOfMembersShareNoMemory(t *testing.T) {
	spoilMembers := func(list []impl.Member) {
		for i := range list[:cap(list)] {
			list[:cap(list)][i] = memberOf(-7, -7, -7)
		}
	}
	calls := map[string]func([]impl.Member) impl.MembersResult{
		"pay that spends of none": func(l []impl.Member) impl.MembersResult { return impl.TakeMembers(l, payTx(refsOf(50, 0)), 30) },
		"pay that spends of one":  func(l []impl.Member) impl.MembersResult { return impl.TakeMembers(l, payTx(refsOf(2, 0)), 30) },
		"leave":                   func(l []impl.Member) impl.MembersResult { return impl.TakeMembers(l, leaveTx(10, refsOf(50, 0)), 30) },
		"join":                    func(l []impl.Member) impl.MembersResult { return impl.TakeMembers(l, joinTx(5, refsOf(50, 0)), 30) },
		"join again":              func(l []impl.Member) impl.MembersResult { return impl.TakeMembers(l, joinTx(10, refsOf(1, 0)), 30) },
		"MemberOf":                func(l []impl.Member) impl.MembersResult { return impl.MemberOf(l, 20) },
	}
	for name, call := range calls {
		list := roomyMembers(manyMembers(4))
		was := slices.Clone(list[:cap(list)])
		answer, again := call(list), call(list)
		want := slices.Clone(answer.Members)
		if answer.Code != impl.OK || len(want) == 0 {
			t.Errorf("%s: %v", name, answer)
		}
		spoilMembers(answer.Members)
		if !slices.Equal(list[:cap(list)], was) {
			t.Errorf("%s: who writes to the answer writes to the members", name)
		}
		spoilMembers(list)
		if !slices.Equal(again.Members, want) {
			t.Errorf("%s: who writes to the members or to another answer writes to the answer: %v", name, again)
		}
	}
	list := manyMembers(4)
	keys, again := impl.KeysOf(list), impl.KeysOf(list)
	spoilNumbers(keys.List)
	if !slices.Equal(list, manyMembers(4)) || !slices.Equal(again.List, []int64{10, 20, 30, 40}) {
		t.Error("who writes to the keys writes to the members, or to other keys", list, again)
	}
}

func TestEmptyAndNilOfMembersAreTheSame(t *testing.T) {
	for _, list := range [][]impl.Member{nil, {}} {
		if impl.MembersFault(list) != impl.OK || !impl.SameMembers(list, nil) || !impl.SameMembers([]impl.Member{}, list) {
			t.Error("a fault of none")
		}
		if r := impl.KeysOf(list); r.Code != impl.OK || len(r.List) != 0 {
			t.Error(r)
		}
		if r := impl.TakeMembers(list, payTx(refsOf(1, 0)), 1); r.Code != impl.OK || len(r.Members) != 0 {
			t.Error(r)
		}
		if r := impl.TakeMembers(list, impl.Tx{Ins: []impl.Ref{}, Outs: []impl.Out{}}, 1); r.Code != impl.TxFault(impl.Tx{}) || r.Code == impl.OK {
			t.Error(r)
		}
	}
}

func TestMembersHangOnTheArgumentsAlone(t *testing.T) {
	list := manyMembers(7)
	for range 30 {
		impl.TakeMembers(list, joinTx(999, refsOf(50, 0)), 30)
		impl.TakeMembers(list, leaveTx(10, refsOf(2, 0)), 30)
		if r := impl.TakeMembers(list, joinTx(5, refsOf(1, 0)), 30); !slices.Equal(r.Members, slices.Insert(slices.Clone(list[1:]), 0, memberOf(5, 30, 0))) {
			t.Fatal(r)
		}
		if r := impl.MemberOf(list, 70); r.Code != impl.OK || !slices.Equal(r.Members, list[6:]) {
			t.Fatal(r)
		}
		if r := impl.KeysOf(list); !slices.Equal(r.List, []int64{10, 20, 30, 40, 50, 60, 70}) {
			t.Fatal(r)
		}
	}
}

func TestConstantsOfMembers(t *testing.T) {
	if impl.MaxMembers != 8 {
		t.Error(impl.MaxMembers)
	}
}
