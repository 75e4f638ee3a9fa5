package tests

import (
	"fmt"
	"math"
	"regexp"
	"slices"
	"strings"
	"testing"

	"loop.example/g00304/impl"
)

// The plain reading of chapter 3: what the program is held against.

func plainRefIsSo(r impl.Ref) bool {
	return r.Tx >= 1 && r.Tx <= 60 && r.At >= 0 && r.At <= 3
}

func plainTxFault(t impl.Tx) int64 {
	switch {
	case t.Kind == 0 && t.Member != 0:
		return impl.ErrForm
	case (t.Kind == 1 || t.Kind == 2) && t.Member == 0:
		return impl.ErrForm
	case t.Kind < 0 || t.Kind > 2:
		return impl.ErrForm
	case t.Member < 0 || t.Member > 999:
		return impl.ErrRange
	case len(t.Ins) == 0 || len(t.Ins) > 4 || len(t.Outs) == 0 || len(t.Outs) > 4:
		return impl.ErrMany
	}
	for i, ref := range t.Ins {
		if !plainRefIsSo(ref) {
			return impl.ErrRange
		}
		for _, ahead := range t.Ins[:i] {
			if ahead.Tx == ref.Tx && ahead.At == ref.At {
				return impl.ErrTaken
			}
		}
	}
	for _, out := range t.Outs {
		if out.Value < 1 || out.Value > 1000000 {
			return impl.ErrRange
		}
		if code := plainRuleFault(out.Rule); code != impl.OK {
			return code
		}
	}
	if t.Kind == 1 && t.Outs[0].Value < 100 {
		return impl.ErrValue
	}
	return impl.OK
}

func plainTxText(t impl.Tx) impl.TextResult {
	if code := plainTxFault(t); code != impl.OK {
		return impl.TextResult{Code: code}
	}
	text := "pay "
	if t.Kind == 1 {
		text = fmt.Sprintf("join %d ", t.Member)
	}
	if t.Kind == 2 {
		text = fmt.Sprintf("leave %d ", t.Member)
	}
	for i, ref := range t.Ins {
		if i > 0 {
			text += "+"
		}
		text += fmt.Sprintf("%d:%d", ref.Tx, ref.At)
	}
	for _, out := range t.Outs {
		rule := strings.Join(strings.Split(plainRuleText(out.Rule).Text, " "), "_")
		text += fmt.Sprintf(" %d=%s", out.Value, rule)
	}
	if len(text) > 300 {
		return impl.TextResult{Code: impl.ErrMany}
	}
	return impl.TextResult{Text: text}
}

var txForm = regexp.MustCompile(`^(?:pay|(join|leave) ([1-9][0-9]{0,2})) ([1-9][0-9]?:[0-3](?:\+[1-9][0-9]?:[0-3]){0,3})((?: [1-9][0-9]{0,6}=[0-9a-z_,]+){1,4})\z`)

func plainParseTx(text string) impl.TxResult {
	none := impl.TxResult{Code: impl.ErrText}
	parts := txForm.FindStringSubmatch(text)
	if parts == nil {
		return none
	}
	var t impl.Tx
	switch parts[1] {
	case "join":
		t.Kind, t.Member = 1, plainNumber(parts[2])
	case "leave":
		t.Kind, t.Member = 2, plainNumber(parts[2])
	}
	for _, piece := range strings.Split(parts[3], "+") {
		ref := strings.Split(piece, ":")
		t.Ins = append(t.Ins, impl.Ref{Tx: plainNumber(ref[0]), At: plainNumber(ref[1])})
	}
	for _, word := range strings.Fields(parts[4]) {
		out := strings.Split(word, "=")
		rule := plainParseRule(strings.ReplaceAll(out[1], "_", " "))
		if rule.Code != impl.OK {
			return none
		}
		t.Outs = append(t.Outs, impl.Out{Value: plainNumber(out[0]), Rule: rule.Rule})
	}
	if plainTxFault(t) != impl.OK {
		return none
	}
	return impl.TxResult{Tx: t}
}

func plainOutSum(t impl.Tx) impl.IntResult {
	if code := plainTxFault(t); code != impl.OK {
		return impl.IntResult{Code: code}
	}
	var sum int64
	for _, out := range t.Outs {
		sum += out.Value
	}
	return impl.IntResult{Value: sum}
}

func plainClash(a, b impl.Tx) bool {
	common := false
	for _, x := range a.Ins {
		for _, y := range b.Ins {
			common = common || x.Tx == y.Tx && x.At == y.At
		}
	}
	return common && plainTxFault(a) == impl.OK && plainTxFault(b) == impl.OK
}

func plainSameTxs(a, b impl.Tx) bool {
	if a.Kind != b.Kind || a.Member != b.Member || len(a.Ins) != len(b.Ins) || len(a.Outs) != len(b.Outs) {
		return false
	}
	for i := range a.Ins {
		if a.Ins[i] != b.Ins[i] {
			return false
		}
	}
	for i := range a.Outs {
		x, y := a.Outs[i], b.Outs[i]
		if x.Value != y.Value || !slices.Equal(x.Rule.Keys, y.Rule.Keys) || x.Rule.Need != y.Rule.Need || x.Rule.After != y.Rule.After {
			return false
		}
	}
	return true
}

func sameTxResults(a, b impl.TxResult) bool {
	return a.Code == b.Code && plainSameTxs(a.Tx, b.Tx)
}

func copyTx(t impl.Tx) impl.Tx {
	t.Ins = slices.Clone(t.Ins)
	t.Outs = slices.Clone(t.Outs)
	for i := range t.Outs {
		t.Outs[i].Rule.Keys = slices.Clone(t.Outs[i].Rule.Keys)
	}
	return t
}

func ruleOf(keys ...int64) impl.Rule {
	return impl.Rule{Keys: keys, Need: 1}
}

func outOf(value int64, keys ...int64) impl.Out {
	return impl.Out{Value: value, Rule: ruleOf(keys...)}
}

func refsOf(numbers ...int64) []impl.Ref {
	var refs []impl.Ref
	for i := 0; i+1 < len(numbers); i += 2 {
		refs = append(refs, impl.Ref{Tx: numbers[i], At: numbers[i+1]})
	}
	return refs
}

func pay(refs []impl.Ref, outs ...impl.Out) impl.Tx {
	return impl.Tx{Ins: refs, Outs: outs}
}

func withMember(kind, member int64, refs []impl.Ref, outs ...impl.Out) impl.Tx {
	return impl.Tx{Kind: kind, Member: member, Ins: refs, Outs: outs}
}

// longestTx has the greatest number of bytes that a text can have.
func longestTx() impl.Tx {
	out := impl.Out{Value: 1000000, Rule: impl.Rule{Keys: []int64{997, 998, 999}, Need: 3, After: 999}}
	return copyTx(withMember(impl.KindLeave, 999, refsOf(60, 0, 60, 1, 60, 2, 60, 3), out, out, out, out))
}

type txRow struct {
	tx   impl.Tx
	text string
}

func ordinaryTxs() []txRow {
	return []txRow{
		{pay(refsOf(1, 0), outOf(5, 2)), "pay 1:0 5=1_of_2"},
		{pay(refsOf(60, 3), outOf(1000000, 999)), "pay 60:3 1000000=1_of_999"},
		{pay(refsOf(3, 1, 2, 0, 3, 0), outOf(7, 1, 2), outOf(8, 3)), "pay 3:1+2:0+3:0 7=1_of_1,2 8=1_of_3"},
		{pay(refsOf(1, 0, 1, 1, 1, 2, 1, 3), outOf(1, 1), outOf(1, 1), outOf(1, 1), outOf(1, 1)), "pay 1:0+1:1+1:2+1:3 1=1_of_1 1=1_of_1 1=1_of_1 1=1_of_1"},
		{pay(refsOf(10, 2), impl.Out{Value: 99, Rule: impl.Rule{Keys: []int64{2, 5}, Need: 2, After: 9}}), "pay 10:2 99=2_of_2,5_after_9"},
		{withMember(impl.KindJoin, 3, refsOf(1, 0), outOf(100, 2)), "join 3 1:0 100=1_of_2"},
		{withMember(impl.KindJoin, 999, refsOf(9, 1, 1, 1), outOf(1000000, 1, 2, 3), outOf(99, 4)), "join 999 9:1+1:1 1000000=1_of_1,2,3 99=1_of_4"},
		{withMember(impl.KindLeave, 1, refsOf(59, 0), outOf(1, 2)), "leave 1 59:0 1=1_of_2"},
		{longestTx(), "leave 999 60:0+60:1+60:2+60:3 1000000=3_of_997,998,999_after_999 1000000=3_of_997,998,999_after_999 1000000=3_of_997,998,999_after_999 1000000=3_of_997,998,999_after_999"},
	}
}

// holdTxAgainstPlain asks all functions of the chapter that take one transaction, and its text there and back.
func holdTxAgainstPlain(t *testing.T, tx impl.Tx) {
	t.Helper()
	was := copyTx(tx)
	if got, want := impl.TxFault(tx), plainTxFault(tx); got != want {
		t.Fatalf("TxFault(%v) = %d, want %d", tx, got, want)
	}
	if got, want := impl.OutSum(tx), plainOutSum(tx); got != want {
		t.Fatalf("OutSum(%v) = %v, want %v", tx, got, want)
	}
	text := impl.TxText(tx)
	if want := plainTxText(tx); text != want {
		t.Fatalf("TxText(%v) = %v, want %v", tx, text, want)
	}
	if text.Code == impl.OK {
		if back := impl.ParseTx(text.Text); !sameTxResults(back, impl.TxResult{Tx: tx}) {
			t.Fatalf("ParseTx(%q) = %v, want %v", text.Text, back, tx)
		}
	}
	if !plainSameTxs(tx, was) {
		t.Fatalf("an argument was changed: %v, it was %v", tx, was)
	}
}

// holdTextAgainstPlain asks what is read from a text, and that a text that is read is just that of its transaction.
func holdTextAgainstPlain(t *testing.T, text string) {
	t.Helper()
	got := impl.ParseTx(text)
	if want := plainParseTx(text); !sameTxResults(got, want) {
		t.Fatalf("ParseTx(%q) = %v, want %v", text, got, want)
	}
	if got.Code == impl.OK && impl.TxText(got.Tx) != (impl.TextResult{Text: text}) {
		t.Fatalf("ParseTx(%q) is read, but its text is %v", text, impl.TxText(got.Tx))
	}
}

// Promise 4: ordinary transactions of each kind, there and back.

func TestTxTexts(t *testing.T) {
	for _, row := range ordinaryTxs() {
		if code := impl.TxFault(row.tx); code != impl.OK {
			t.Errorf("TxFault %v: %d", row.tx, code)
		}
		if r := impl.TxText(row.tx); r != (impl.TextResult{Text: row.text}) {
			t.Errorf("TxText %v: %v", row.tx, r)
		}
		if r := impl.ParseTx(row.text); !sameTxResults(r, impl.TxResult{Tx: row.tx}) {
			t.Errorf("ParseTx %q: %v", row.text, r)
		}
		holdTxAgainstPlain(t, row.tx)
	}
}

func TestTheLongestTextIsTold(t *testing.T) {
	r := impl.TxText(longestTx())
	if r.Code != impl.OK || len(r.Text) != 169 {
		t.Fatal(len(r.Text), r)
	}
	for _, text := range []string{r.Text + " 1000000=3_of_997,998,999_after_999", r.Text + "0", r.Text + strings.Repeat(" ", 131), r.Text + strings.Repeat(" ", 132)} {
		if r := impl.ParseTx(text); !sameTxResults(r, impl.TxResult{Code: impl.ErrText}) {
			t.Errorf("%d bytes: %v", len(text), r)
		}
	}
}

func TestEveryNumberOfATransactionIsReadBack(t *testing.T) {
	for n := int64(1); n <= 999; n++ {
		holdTxAgainstPlain(t, withMember(impl.KindJoin, n, refsOf(1, 0), outOf(n, n)))
		holdTxAgainstPlain(t, withMember(impl.KindLeave, n, refsOf(1, 0), outOf(n*1001, n)))
	}
	for tx := int64(-1); tx <= 62; tx++ {
		for at := int64(-2); at <= 5; at++ {
			holdTxAgainstPlain(t, pay(refsOf(tx, at), outOf(1, 1)))
			holdTextAgainstPlain(t, fmt.Sprintf("pay %d:%d 1=1_of_1", tx, at))
			holdTextAgainstPlain(t, fmt.Sprintf("pay 7:1+%d:%d 1=1_of_1", tx, at))
		}
	}
}

// The edges that the document names, and wrong transactions.

func TestKindsAndMembersByThePlainReading(t *testing.T) {
	odd := []int64{math.MinInt64, -1, 0, 1, 2, 3, 998, 999, 1000, 1 << 32, 1<<32 + 1, math.MaxInt64}
	outs := []impl.Out{outOf(99, 1), outOf(100, 1), outOf(0, 1)}
	for _, kind := range odd {
		for _, member := range odd {
			for _, out := range outs {
				holdTxAgainstPlain(t, withMember(kind, member, refsOf(1, 0), out))
				holdTxAgainstPlain(t, withMember(kind, member, refsOf(1, 0, 1, 0), out))
				holdTxAgainstPlain(t, withMember(kind, member, nil, out))
			}
		}
	}
}

func TestKindsAndMembers(t *testing.T) {
	rows := []struct{ kind, member, code int64 }{
		{-1, 0, impl.ErrForm}, {3, 0, impl.ErrForm}, {-1, 1, impl.ErrForm}, {3, 1, impl.ErrForm}, {3, 1000, impl.ErrForm},
		{impl.KindPay, 0, impl.OK}, {impl.KindPay, 1, impl.ErrForm}, {impl.KindPay, 999, impl.ErrForm}, {impl.KindPay, 1000, impl.ErrForm}, {impl.KindPay, -1, impl.ErrForm},
		{impl.KindJoin, 0, impl.ErrForm}, {impl.KindJoin, 1, impl.OK}, {impl.KindJoin, 999, impl.OK}, {impl.KindJoin, 1000, impl.ErrRange}, {impl.KindJoin, -1, impl.ErrRange},
		{impl.KindLeave, 0, impl.ErrForm}, {impl.KindLeave, 1, impl.OK}, {impl.KindLeave, 999, impl.OK}, {impl.KindLeave, 1000, impl.ErrRange}, {impl.KindLeave, -1, impl.ErrRange},
		{impl.KindJoin, math.MinInt64, impl.ErrRange}, {impl.KindLeave, math.MaxInt64, impl.ErrRange}, {math.MinInt64, 1, impl.ErrForm}, {1 << 32, 0, impl.ErrForm},
	}
	for _, row := range rows {
		if code := impl.TxFault(withMember(row.kind, row.member, refsOf(1, 0), outOf(100, 1))); code != row.code {
			t.Errorf("kind %d, member %d: %d, want %d", row.kind, row.member, code, row.code)
		}
	}
}

func TestHowManyPieces(t *testing.T) {
	for ins := range 7 {
		for outs := range 7 {
			tx := impl.Tx{}
			for i := range ins {
				tx.Ins = append(tx.Ins, impl.Ref{Tx: int64(i + 1)})
			}
			for i := range outs {
				tx.Outs = append(tx.Outs, outOf(int64(i+1), 1))
			}
			want := int64(impl.OK)
			if ins < 1 || ins > 4 || outs < 1 || outs > 4 {
				want = impl.ErrMany
			}
			if code := impl.TxFault(tx); code != want {
				t.Errorf("%d ins, %d outs: %d, want %d", ins, outs, code, want)
			}
			holdTxAgainstPlain(t, tx)
		}
	}
	many := make([]impl.Out, 100000)
	if code := impl.TxFault(pay(make([]impl.Ref, 100000), many...)); code != impl.ErrMany {
		t.Error("very many pieces:", code)
	}
}

func TestRefsByThePlainReading(t *testing.T) {
	var refs []impl.Ref
	for _, tx := range []int64{0, 1, 60, 61} {
		for _, at := range []int64{-1, 0, 3, 4} {
			refs = append(refs, impl.Ref{Tx: tx, At: at})
		}
	}
	listsOf(refs, 3, func(ins []impl.Ref) {
		holdTxAgainstPlain(t, pay(ins, outOf(5, 2)))
	})
	few := []impl.Ref{{Tx: 1}, {Tx: 2}, {Tx: 1, At: 1}, {Tx: 0}}
	listsOf(few, 5, func(ins []impl.Ref) {
		holdTxAgainstPlain(t, withMember(impl.KindJoin, 7, ins, outOf(99, 2)))
		holdTxAgainstPlain(t, withMember(impl.KindLeave, 7, ins, outOf(0, 2)))
	})
	for _, odd := range []int64{math.MinInt64, math.MaxInt64, 1<<32 + 1} {
		holdTxAgainstPlain(t, pay(refsOf(odd, 0), outOf(5, 2)))
		holdTxAgainstPlain(t, pay(refsOf(1, odd), outOf(5, 2)))
	}
}

// ruleOfEachKind has a right rule and one with each fault.
func ruleOfEachKind() []impl.Rule {
	return []impl.Rule{ruleOf(2), {}, ruleOf(1, 2, 3, 4), ruleOf(0), {Keys: []int64{1}, Need: 2}, {Keys: []int64{1}, Need: 1, After: 1000}, ruleOf(2, 1)}
}

func TestOutsByThePlainReading(t *testing.T) {
	var outs []impl.Out
	for _, value := range []int64{0, 1, 99, 100, 1000000, 1000001} {
		for _, rule := range ruleOfEachKind() {
			outs = append(outs, impl.Out{Value: value, Rule: rule})
		}
	}
	for kind := range int64(3) {
		member := min(kind, 1)
		listsOf(outs, 2, func(list []impl.Out) {
			holdTxAgainstPlain(t, withMember(kind, member, refsOf(1, 0), list...))
		})
		listsOf([]impl.Out{outOf(99, 1), outOf(100, 2), outOf(0, 1), outOf(5, 2, 1)}, 5, func(list []impl.Out) {
			holdTxAgainstPlain(t, withMember(kind, member, refsOf(1, 0), list...))
		})
	}
	for _, odd := range []int64{math.MinInt64, -1, math.MaxInt64, 1<<32 + 1} {
		holdTxAgainstPlain(t, pay(refsOf(1, 0), outOf(odd, 2)))
		holdTxAgainstPlain(t, pay(refsOf(1, 0), outOf(5, 2), outOf(odd, 2)))
	}
}

func TestWhatWhoJoinsHolds(t *testing.T) {
	rows := []struct {
		kind   int64
		values []int64
		code   int64
	}{
		{impl.KindJoin, []int64{99}, impl.ErrValue}, {impl.KindJoin, []int64{100}, impl.OK}, {impl.KindJoin, []int64{1}, impl.ErrValue}, {impl.KindJoin, []int64{0}, impl.ErrRange},
		{impl.KindJoin, []int64{100, 99}, impl.OK}, {impl.KindJoin, []int64{99, 100}, impl.ErrValue}, {impl.KindJoin, []int64{100, 1, 1, 1}, impl.OK}, {impl.KindJoin, []int64{50, 50}, impl.ErrValue},
		{impl.KindPay, []int64{99}, impl.OK}, {impl.KindLeave, []int64{99}, impl.OK}, {impl.KindJoin, []int64{1000000}, impl.OK}, {impl.KindJoin, []int64{1000001}, impl.ErrRange},
	}
	for _, row := range rows {
		tx := withMember(row.kind, min(row.kind, 1), refsOf(1, 0))
		for _, value := range row.values {
			tx.Outs = append(tx.Outs, outOf(value, 2))
		}
		if code := impl.TxFault(tx); code != row.code {
			t.Errorf("kind %d, values %v: %d, want %d", row.kind, row.values, code, row.code)
		}
	}
}

// wrongTxs names the code that comes first where several are so.
func wrongTxs() []struct {
	name string
	tx   impl.Tx
	code int64
} {
	many := refsOf(1, 0, 2, 0, 3, 0, 4, 0, 5, 0)
	twice, off := refsOf(1, 0, 1, 0), refsOf(0, 0)
	ok := refsOf(1, 0)
	return []struct {
		name string
		tx   impl.Tx
		code int64
	}{
		{"the zero value", impl.Tx{}, impl.ErrMany},
		{"kind ahead of all else", withMember(3, 1000, nil), impl.ErrForm},
		{"no member ahead of no ins", withMember(impl.KindJoin, 0, nil), impl.ErrForm},
		{"a member where there is none, out of bounds", withMember(impl.KindPay, 1000, ok, outOf(1, 1)), impl.ErrForm},
		{"member out of bounds ahead of no ins", withMember(impl.KindLeave, 1000, nil), impl.ErrRange},
		{"member out of bounds ahead of a low value", withMember(impl.KindJoin, -1, ok, outOf(1, 1)), impl.ErrRange},
		{"no outs ahead of a ref out of bounds", pay(off), impl.ErrMany},
		{"no outs ahead of a ref twice", pay(twice), impl.ErrMany},
		{"5 ins ahead of a value", pay(many, outOf(0, 1)), impl.ErrMany},
		{"5 outs ahead of their rules", pay(ok, impl.Out{}, impl.Out{}, impl.Out{}, impl.Out{}, impl.Out{}), impl.ErrMany},
		{"a ref twice ahead of one out of bounds", pay(refsOf(1, 0, 1, 0, 61, 0), outOf(1, 1)), impl.ErrTaken},
		{"a ref out of bounds ahead of one twice", pay(refsOf(61, 0, 1, 0, 1, 0), outOf(1, 1)), impl.ErrRange},
		{"a ref out of bounds twice", pay(refsOf(1, 4, 1, 4), outOf(1, 1)), impl.ErrRange},
		{"a ref twice, apart", pay(refsOf(1, 0, 2, 0, 1, 0), outOf(1, 1)), impl.ErrTaken},
		{"a ref twice ahead of a value", pay(twice, outOf(0, 1)), impl.ErrTaken},
		{"a ref twice ahead of a rule", pay(twice, outOf(1, 2, 1)), impl.ErrTaken},
		{"a ref twice ahead of a low value", withMember(impl.KindJoin, 1, twice, outOf(99, 1)), impl.ErrTaken},
		{"a value ahead of its rule", pay(ok, outOf(0, 2, 1)), impl.ErrRange},
		{"a rule ahead of a later value", pay(ok, outOf(1, 2, 1), outOf(0, 1)), impl.ErrForm},
		{"a rule without keys ahead of a later value", pay(ok, outOf(1), outOf(0, 1)), impl.ErrMany},
		{"a value ahead of a later rule", pay(ok, outOf(1000001, 1), outOf(1)), impl.ErrRange},
		{"a later value ahead of a low first one", withMember(impl.KindJoin, 1, ok, outOf(99, 1), outOf(0, 1)), impl.ErrRange},
		{"a rule ahead of a low value", withMember(impl.KindJoin, 1, ok, outOf(99, 2, 1)), impl.ErrForm},
		{"a later rule ahead of a low first value", withMember(impl.KindJoin, 1, ok, outOf(99, 1), outOf(1)), impl.ErrMany},
	}
}

func TestTxFaultTellsTheFirstCode(t *testing.T) {
	for _, row := range wrongTxs() {
		if code := impl.TxFault(row.tx); code != row.code {
			t.Errorf("%s: %d, want %d", row.name, code, row.code)
		}
		if r := impl.TxText(row.tx); r != (impl.TextResult{Code: row.code}) {
			t.Errorf("%s: TxText: %v, want code %d alone", row.name, r, row.code)
		}
		if r := impl.OutSum(row.tx); r != (impl.IntResult{Code: row.code}) {
			t.Errorf("%s: OutSum: %v, want code %d alone", row.name, r, row.code)
		}
	}
}

func TestOutSums(t *testing.T) {
	rows := []struct {
		outs []impl.Out
		sum  int64
	}{
		{[]impl.Out{outOf(1, 1)}, 1},
		{[]impl.Out{outOf(5, 1), outOf(5, 1)}, 10},
		{[]impl.Out{outOf(1, 1), outOf(20, 2), outOf(300, 3)}, 321},
		{[]impl.Out{outOf(1000000, 1), outOf(1000000, 1), outOf(1000000, 1), outOf(1000000, 1)}, 4000000},
	}
	for _, row := range rows {
		if r := impl.OutSum(pay(refsOf(1, 0), row.outs...)); r != (impl.IntResult{Value: row.sum}) {
			t.Errorf("%v: %v, want %d", row.outs, r, row.sum)
		}
	}
}

// Promise 4: texts that nearly are one.

func TestTextsThatNearlyAreTransactions(t *testing.T) {
	digits, zeros := strings.Repeat("1", 100000), strings.Repeat("0", 100000)
	texts := []string{
		"", " ", "  ", "_", "pay", "pay ", "pay 1:0", "pay 1:0 ", "pay 5=1_of_2", "pay  5=1_of_2", "1:0 5=1_of_2", " 1:0 5=1_of_2", "pay 5=1_of_2 1:0",
		"pay 1:0 5=1 of 2", "pay 1:0 5=1_of 2", "pay 1:0 5=1 of_2", "pay_1:0_5=1_of_2", "pay_1:0 5=1_of_2", "pay 1:0_5=1_of_2", "pay 1:0 5=1_of_2_6=1_of_2",
		"pay 1:0 5=1_of_2 after_9", "pay 1:0 5=1_of_2_after 9", "pay 1:0 5=1__of_2", "pay 1:0 5=1_of__2", "pay 1:0 5=_1_of_2", "pay 1:0 5=1_of_2_", "pay 1:0 5_=1_of_2",
		"pay  1:0 5=1_of_2", "pay 1:0  5=1_of_2", " pay 1:0 5=1_of_2", "pay 1:0 5=1_of_2 ", "pay 1:0 5=1_of_2  6=1_of_2", "pay 1:0 5=1_of_2\n", "pay\t1:0 5=1_of_2", "pay 1:0\n5=1_of_2",
		"pay 0 1:0 5=1_of_2", "pay 3 1:0 5=1_of_2", "pay 1 1:0 5=1_of_2", "pay - 1:0 5=1_of_2",
		"join 1:0 100=1_of_2", "join  1:0 100=1_of_2", "join 0 1:0 100=1_of_2", "join 1000 1:0 100=1_of_2", "join -1 1:0 100=1_of_2", "join 03 1:0 100=1_of_2", "join +3 1:0 100=1_of_2", "join 3", "join 3 1:0", "join", "join 3 100=1_of_2", "join 3 3 1:0 100=1_of_2", "join 3,4 1:0 100=1_of_2",
		"leave 1:0 5=1_of_2", "leave 0 1:0 5=1_of_2", "leave 1000 1:0 5=1_of_2", "leave -1 1:0 5=1_of_2", "leave 01 1:0 5=1_of_2", "leave", "leave 1", "leave 1 1:0",
		"join 3 1:0 99=1_of_2", "join 3 1:0 99=1_of_2 100=1_of_2", "pay 1:0 0=1_of_2", "pay 1:0 1000001=1_of_2", "pay 1:0 -5=1_of_2", "pay 1:0 +5=1_of_2", "pay 1:0 05=1_of_2", "pay 1:0 5.0=1_of_2", "pay 1:0 5e0=1_of_2", "pay 1:0 0x5=1_of_2", "pay 1:0 1_000=1_of_2",
		"pay 0:0 5=1_of_2", "pay 61:0 5=1_of_2", "pay 1:4 5=1_of_2", "pay 1:-1 5=1_of_2", "pay -1:0 5=1_of_2", "pay 01:0 5=1_of_2", "pay 1:00 5=1_of_2", "pay 1:+0 5=1_of_2", "pay 1:-0 5=1_of_2", "pay +1:0 5=1_of_2", "pay 1:x 5=1_of_2", "pay x:0 5=1_of_2",
		"pay 10 5=1_of_2", "pay 1::0 5=1_of_2", "pay :1:0 5=1_of_2", "pay 1:0: 5=1_of_2", "pay 1: 5=1_of_2", "pay :0 5=1_of_2", "pay : 5=1_of_2", "pay 1:0:0 5=1_of_2", "pay 1;0 5=1_of_2",
		"pay 1:02:0 5=1_of_2", "pay 1:0++2:0 5=1_of_2", "pay +1:0 5=1_of_2", "pay 1:0+ 5=1_of_2", "pay + 5=1_of_2", "pay 1:0+2 5=1_of_2", "pay 1:0,2:0 5=1_of_2", "pay 1:0 2:0 5=1_of_2", "pay 1:0 + 2:0 5=1_of_2",
		"pay 1:0+1:0 5=1_of_2", "pay 1:0+2:0+1:0 5=1_of_2", "pay 1:0+2:0+3:0+4:0+5:0 5=1_of_2",
		"pay 1:0 51_of_2", "pay 1:0 5==1_of_2", "pay 1:0 =5=1_of_2", "pay 1:0 5=1_of_2=", "pay 1:0 =1_of_2", "pay 1:0 5=", "pay 1:0 =", "pay 1:0 5", "pay 1:0 5:1_of_2", "pay 1:0 5=1_of_2=1_of_2", "pay 1:0 5=1_of_2+6=1_of_2",
		"pay 1:0 1=1_of_1 1=1_of_1 1=1_of_1 1=1_of_1 1=1_of_1",
		"pay 1:0 5=0_of_2", "pay 1:0 5=2_of_2", "pay 1:0 5=1_of_0", "pay 1:0 5=1_of_1000", "pay 1:0 5=1_of_2,1", "pay 1:0 5=1_of_2,2", "pay 1:0 5=1_of_1,2,3,4", "pay 1:0 5=1_of_2_after_0", "pay 1:0 5=1_of_2_after_1000", "pay 1:0 5=1_of_2_after", "pay 1:0 5=1_of_02", "pay 1:0 5=1of2", "pay 1:0 5=1-of-2",
		"Pay 1:0 5=1_of_2", "PAY 1:0 5=1_of_2", "pays 1:0 5=1_of_2", "pa 1:0 5=1_of_2", "0 1:0 5=1_of_2", "mine 1:0 5=1_of_2", "Join 3 1:0 100=1_of_2", "joins 3 1:0 100=1_of_2", "leaves 3 1:0 100=1_of_2", "paypay 1:0 5=1_of_2", "pay pay 1:0 5=1_of_2", "pay join 3 1:0 100=1_of_2", "block 0 1 3 -", "1 of 2", "1_of_2",
		"pay 1:0 5=1_of_2\x00", "\x00pay 1:0 5=1_of_2", "pay 1:0 5=1_of_2\xff", "pay\u00a01:0 5=1_of_2", "pay 1:0 ５=1_of_2", "pay ١:0 5=1_of_2", "pay 1:0 5=1_of_2\r",
		"pay 4294967297:0 5=1_of_2", "pay 18446744073709551617:0 5=1_of_2", "pay 1:18446744073709551616 5=1_of_2", "pay 1:0 18446744073709551621=1_of_2", "join 18446744073709551619 1:0 100=1_of_2", "pay 9223372036854775807:0 5=1_of_2", "pay -9223372036854775808:0 5=1_of_2",
		digits, "pay " + digits + ":0 5=1_of_2", "pay 1:" + digits + " 5=1_of_2", "pay 1:0 " + digits + "=1_of_2", "join " + digits + " 1:0 100=1_of_2", "pay 1:0 5=1_of_" + digits, "pay 1:0 5=1_of_2_after_" + digits,
		"pay " + zeros + "1:0 5=1_of_2", "pay 1:" + zeros + " 5=1_of_2", "pay 1:0 " + zeros + "5=1_of_2", "pay 1:0 5" + zeros + "=1_of_2",
		"pay " + digits[:200] + ":0 5=1_of_2", "pay 1:" + zeros[:200] + " 5=1_of_2", "pay 1:0 " + digits[:200] + "=1_of_2", "join " + digits[:200] + " 1:0 100=1_of_2",
		strings.Repeat(" ", 100000), strings.Repeat("pay ", 100000), "pay " + strings.Repeat("1:0+", 100000), "pay 1:0" + strings.Repeat(" 5=1_of_2", 100000),
	}
	for _, text := range texts {
		if r := impl.ParseTx(text); !sameTxResults(r, impl.TxResult{Code: impl.ErrText}) {
			t.Errorf("ParseTx of %.60q (%d bytes): %v", text, len(text), r)
		}
	}
}

func TestChangedTxTextsByThePlainReading(t *testing.T) {
	const letters = "0123456789 _:+=,-ofaterpyjinlvx\n\x00\xff"
	for _, row := range ordinaryTxs() {
		text := row.text
		holdTextAgainstPlain(t, text)
		for at := range len(text) {
			holdTextAgainstPlain(t, text[:at])
			holdTextAgainstPlain(t, text[at:])
			holdTextAgainstPlain(t, text[:at]+text[at+1:])
			for _, x := range []byte(letters) {
				holdTextAgainstPlain(t, text[:at]+string([]byte{x})+text[at:])
				holdTextAgainstPlain(t, text[:at]+string([]byte{x})+text[at+1:])
			}
		}
		for _, x := range []byte(letters) {
			holdTextAgainstPlain(t, text+string([]byte{x}))
		}
	}
}

func TestPiecedTxTextsByThePlainReading(t *testing.T) {
	words := []string{"pay", "join", "leave", "3", "0", "1:0", "1:0+2:3", "1:0+1:0", "5=1_of_2", "100=1_of_2_after_9", "=", ""}
	listsOf(words, 5, func(list []string) {
		holdTextAgainstPlain(t, strings.Join(list, " "))
	})
}

// A blank and its other form are not the same, wherever one stands for the other.
func TestBlanksAndTheirOtherForm(t *testing.T) {
	for _, row := range ordinaryTxs() {
		var places []int
		for at, x := range []byte(row.text) {
			if x == ' ' || x == '_' {
				places = append(places, at)
			}
		}
		for set := 1; set < 1<<min(len(places), 12); set++ {
			text := []byte(row.text)
			for i, at := range places[:min(len(places), 12)] {
				if set>>i&1 == 1 {
					text[at] ^= ' ' ^ '_'
				}
			}
			if r := impl.ParseTx(string(text)); !sameTxResults(r, impl.TxResult{Code: impl.ErrText}) {
				t.Fatalf("ParseTx(%q) = %v", text, r)
			}
		}
	}
}

// ClashTx and SameTxs.

func TestClashes(t *testing.T) {
	out := outOf(100, 1)
	rows := []struct {
		a, b  []impl.Ref
		clash bool
	}{
		{refsOf(1, 0), refsOf(1, 0), true},
		{refsOf(1, 0), refsOf(1, 1), false},
		{refsOf(1, 0), refsOf(2, 0), false},
		{refsOf(1, 2), refsOf(2, 1), false},
		{refsOf(1, 0, 2, 1), refsOf(1, 1, 2, 0), false},
		{refsOf(1, 0, 2, 1), refsOf(3, 0, 2, 1), true},
		{refsOf(1, 0, 2, 1), refsOf(2, 1, 3, 0), true},
		{refsOf(1, 0, 1, 1, 1, 2, 1, 3), refsOf(2, 0, 2, 1, 2, 2, 1, 3), true},
		{refsOf(1, 0, 1, 1, 1, 2, 1, 3), refsOf(2, 0, 2, 1, 2, 2, 2, 3), false},
		{refsOf(1, 0, 1, 0), refsOf(1, 0), false},
		{refsOf(0, 0), refsOf(0, 0), false},
		{refsOf(1, 0, 61, 0), refsOf(1, 0), false},
		{nil, nil, false},
		{nil, refsOf(1, 0), false},
	}
	for _, row := range rows {
		for kind := range int64(3) {
			a, b := pay(row.a, out), withMember(kind, min(kind, 1), row.b, outOf(200, 2))
			if impl.ClashTx(a, b) != row.clash || impl.ClashTx(b, a) != row.clash {
				t.Errorf("%v and %v: want %v", a, b, row.clash)
			}
		}
	}
}

func TestWhatHasAFaultDoesNotClash(t *testing.T) {
	good := pay(refsOf(1, 0, 2, 0, 3, 0, 4, 0), outOf(5, 2))
	for _, row := range wrongTxs() {
		if impl.ClashTx(row.tx, good) || impl.ClashTx(good, row.tx) || impl.ClashTx(row.tx, row.tx) {
			t.Error(row.name)
		}
	}
	for _, wrong := range []impl.Tx{pay(refsOf(1, 0), outOf(0, 2)), pay(refsOf(1, 0), outOf(5, 2, 1)), pay(refsOf(1, 0)), withMember(impl.KindJoin, 1, refsOf(1, 0), outOf(99, 1)), withMember(impl.KindPay, 1, refsOf(1, 0), outOf(99, 1)), withMember(3, 0, refsOf(1, 0), outOf(99, 1))} {
		if impl.ClashTx(wrong, good) || impl.ClashTx(good, wrong) || impl.ClashTx(wrong, wrong) {
			t.Error(wrong)
		}
	}
}

func TestClashesByThePlainReading(t *testing.T) {
	var txs []impl.Tx
	listsOf([]impl.Ref{{Tx: 1}, {Tx: 2}, {Tx: 1, At: 1}, {Tx: 61}}, 3, func(ins []impl.Ref) {
		txs = append(txs, pay(ins, outOf(5, 2)), withMember(impl.KindJoin, 1, ins, outOf(int64(98+len(ins)), 2)))
	})
	for _, a := range txs {
		for _, b := range txs {
			if got, want := impl.ClashTx(a, b), plainClash(a, b); got != want {
				t.Fatalf("ClashTx(%v, %v) = %v", a, b, got)
			}
		}
	}
}

func TestSameTxs(t *testing.T) {
	txs := []impl.Tx{{}, {Kind: 1}, {Kind: -1}, {Member: 1}, {Ins: refsOf(0, 0)}, {Outs: []impl.Out{{}}}, {Outs: []impl.Out{{}, {}}}, {Ins: refsOf(0, 0), Outs: []impl.Out{{}}},
		{Kind: math.MaxInt64, Member: math.MinInt64}, pay(refsOf(1, 0), outOf(5, 2), outOf(6, 2)), pay(refsOf(1, 0), outOf(6, 2), outOf(5, 2)),
		pay(refsOf(1, 0, 2, 0), outOf(5, 2)), pay(refsOf(2, 0, 1, 0), outOf(5, 2)), pay(refsOf(1, 1), outOf(5, 2)), pay(refsOf(2, 0), outOf(5, 2)),
		pay(refsOf(1, 0), outOf(6, 2)), pay(refsOf(1, 0), outOf(5, 3)), pay(refsOf(1, 0), outOf(5, 2, 3)), pay(refsOf(1, 0), outOf(5)),
		pay(refsOf(1, 0), impl.Out{Value: 5, Rule: impl.Rule{Keys: []int64{2}, Need: 2}}), pay(refsOf(1, 0), impl.Out{Value: 5, Rule: impl.Rule{Keys: []int64{2}, Need: 1, After: 1}}),
		withMember(impl.KindJoin, 1, refsOf(1, 0), outOf(100, 2)), withMember(impl.KindLeave, 1, refsOf(1, 0), outOf(100, 2)), withMember(impl.KindJoin, 2, refsOf(1, 0), outOf(100, 2)),
	}
	for _, row := range ordinaryTxs() {
		if row.text != "join 3 1:0 100=1_of_2" {
			txs = append(txs, row.tx)
		}
	}
	for i, a := range txs {
		for j, b := range txs {
			if impl.SameTxs(a, copyTx(b)) != (i == j) {
				t.Errorf("SameTxs(%v, %v) = %v", a, b, i != j)
			}
		}
	}
}

// Promise 1: memory, nil and empty, the same again.

func TestEmptyAndNilTransactionsAreTheSame(t *testing.T) {
	empty := impl.Tx{Ins: []impl.Ref{}, Outs: []impl.Out{}}
	if !impl.SameTxs(empty, impl.Tx{}) || !impl.SameTxs(impl.Tx{}, empty) {
		t.Error("no pieces are the same, empty or nil")
	}
	a, b := pay(refsOf(1, 0), impl.Out{Value: 5}), pay(refsOf(1, 0), impl.Out{Value: 5, Rule: impl.Rule{Keys: []int64{}}})
	if !impl.SameTxs(a, b) || impl.TxFault(a) != impl.TxFault(b) || impl.TxFault(empty) != impl.TxFault(impl.Tx{}) || impl.TxText(a) != impl.TxText(b) {
		t.Error("no keys are the same, empty or nil")
	}
}

// roomyTx has space behind its lists, with marks in it: who appends to a list that was handed in writes there.
func roomyTx(t impl.Tx) (impl.Tx, impl.Tx) {
	whole := copyTx(t)
	for i := range whole.Outs {
		keys := append(whole.Outs[i].Rule.Keys, 77, 78)
		whole.Outs[i].Rule.Keys = keys
	}
	whole.Ins = append(whole.Ins, refsOf(77, 78, 79, 80)...)
	whole.Outs = append(whole.Outs, outOf(77, 78), outOf(79, 80))
	shown := whole
	shown.Ins = whole.Ins[:len(t.Ins)]
	shown.Outs = slices.Clone(whole.Outs)
	for i := range t.Outs {
		shown.Outs[i].Rule.Keys = whole.Outs[i].Rule.Keys[:len(t.Outs[i].Rule.Keys)]
	}
	shown.Outs = shown.Outs[:len(t.Outs)]
	return shown, whole
}

func TestTransactionsAreNotChanged(t *testing.T) {
	var txs []impl.Tx
	for _, row := range ordinaryTxs() {
		txs = append(txs, row.tx)
	}
	for _, row := range wrongTxs() {
		txs = append(txs, row.tx)
	}
	for _, tx := range txs {
		shown, whole := roomyTx(tx)
		wasShown, wasWhole := copyTx(shown), copyTx(whole)
		behind := slices.Clone(shown.Outs[:cap(shown.Outs)])
		impl.TxFault(shown)
		impl.TxText(shown)
		impl.OutSum(shown)
		impl.ClashTx(shown, shown)
		impl.SameTxs(shown, shown)
		if !plainSameTxs(shown, wasShown) || !plainSameTxs(whole, wasWhole) {
			t.Errorf("an argument was changed: %v, it was %v", whole, wasWhole)
		}
		if !plainSameTxs(pay(nil, behind...), pay(nil, shown.Outs[:cap(shown.Outs)]...)) {
			t.Errorf("what stands behind an argument was changed: %v", shown)
		}
	}
}

func spoilNumbers(list []int64) {
	list = list[:cap(list)]
	for i := range list {
		list[i] = -9
	}
}

func spoilRefs(list []impl.Ref) {
	list = list[:cap(list)]
	for i := range list {
		list[i] = impl.Ref{Tx: -9, At: -9}
	}
}

func TestParsedTransactionsShareNoMemory(t *testing.T) {
	for _, row := range ordinaryTxs() {
		a, b := impl.ParseTx(row.text).Tx, impl.ParseTx(row.text).Tx
		for i := range a.Outs {
			spoilNumbers(a.Outs[i].Rule.Keys)
			for j := i + 1; j < len(a.Outs); j++ {
				if !slices.Equal(a.Outs[j].Rule.Keys, row.tx.Outs[j].Rule.Keys) {
					t.Errorf("%q: the rules %d and %d share memory", row.text, i, j)
				}
			}
		}
		spoilRefs(a.Ins)
		clear(a.Outs[:cap(a.Outs)])
		if !plainSameTxs(b, row.tx) || !plainSameTxs(impl.ParseTx(row.text).Tx, row.tx) {
			t.Errorf("%q: who writes to one answer writes to another: %v", row.text, b)
		}
	}
}

// What was asked in between, and what could not be read, leaves no trace.
func TestTransactionsHangOnTheArgumentsAlone(t *testing.T) {
	rows := ordinaryTxs()
	for range 3 {
		for _, row := range rows {
			for _, wrong := range []string{"", "pay", "join 3", row.text + " ", "x" + row.text} {
				if r := impl.ParseTx(wrong); !sameTxResults(r, impl.TxResult{Code: impl.ErrText}) {
					t.Errorf("ParseTx %q: %v", wrong, r)
				}
			}
			if r := impl.ParseTx(row.text); !sameTxResults(r, impl.TxResult{Tx: row.tx}) {
				t.Errorf("ParseTx %q: %v", row.text, r)
			}
			if r := impl.TxText(row.tx); r != (impl.TextResult{Text: row.text}) {
				t.Errorf("TxText %v: %v", row.tx, r)
			}
		}
		slices.Reverse(rows)
	}
}

func TestConstantsOfTransactions(t *testing.T) {
	if impl.KindPay != 0 || impl.KindJoin != 1 || impl.KindLeave != 2 || impl.MaxValue != 1000000 || impl.MaxPieces != 4 {
		t.Error(impl.KindPay, impl.KindJoin, impl.KindLeave, impl.MaxValue, impl.MaxPieces)
	}
}
