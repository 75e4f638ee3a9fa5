package tests

import (
	"math"
	"slices"
	"strconv"
	"strings"
	"testing"

	"loop.example/g00304/impl"
)

// sameLedgers holds an empty list and nil for the same value, as the document does.
func sameLedgers(a, b impl.Ledger) bool {
	return slices.Equal(a.Texts, b.Texts) && slices.Equal(a.Signs, b.Signs)
}

func sameLedgerResults(a, b impl.LedgerResult) bool {
	return a.Code == b.Code && a.Id == b.Id && sameLedgers(a.Ledger, b.Ledger)
}

func sameInts(a, b impl.IntsResult) bool {
	return a.Code == b.Code && slices.Equal(a.List, b.List)
}

func copyLedger(l impl.Ledger) impl.Ledger {
	return impl.Ledger{Texts: slices.Clone(l.Texts), Signs: slices.Clone(l.Signs)}
}

func manyTexts(n int) []string {
	var list []string
	for i := range n {
		list = append(list, "text "+strconv.Itoa(i))
	}
	return list
}

// manySigns has n signatures, no two alike, of ids 1 to last.
func manySigns(n int, last int) []impl.Sign {
	var list []impl.Sign
	for i := range n {
		list = append(list, impl.Sign{Key: int64(i/last + 1), Id: int64(i%last + 1)})
	}
	return list
}

func ordinaryLedger() impl.Ledger {
	return impl.Ledger{
		Texts: []string{"x", "y", "a longer text", "\x00\xff", "ä\n"},
		Signs: []impl.Sign{{Key: 7, Id: 2}, {Key: 3, Id: 2}, {Key: 7, Id: 1}, {Key: 999, Id: 5}, {Key: 1, Id: 2}},
	}
}

// The plain reading of chapter 1, list by list and without tables: what the program is held against.

func plainFault(l impl.Ledger) int64 {
	if len(l.Texts) > 60 || len(l.Signs) > 120 {
		return impl.ErrMany
	}
	for i, text := range l.Texts {
		if len(text) == 0 || len(text) > 300 {
			return impl.ErrMany
		}
		if slices.Contains(l.Texts[:i], text) {
			return impl.ErrTaken
		}
	}
	for i, sign := range l.Signs {
		if sign.Key < 1 || sign.Key > 999 || sign.Id < 1 || sign.Id > int64(len(l.Texts)) {
			return impl.ErrRange
		}
		if slices.Contains(l.Signs[:i], sign) {
			return impl.ErrTaken
		}
	}
	return impl.OK
}

func plainIdOf(l impl.Ledger, text string) impl.IntResult {
	if code := plainFault(l); code != impl.OK {
		return impl.IntResult{Code: code}
	}
	if at := slices.Index(l.Texts, text); at >= 0 {
		return impl.IntResult{Value: int64(at + 1)}
	}
	return impl.IntResult{Code: impl.ErrNone}
}

func plainNote(l impl.Ledger, text string) impl.LedgerResult {
	if code := plainFault(l); code != impl.OK {
		return impl.LedgerResult{Code: code}
	}
	if len(text) < 1 || len(text) > 300 {
		return impl.LedgerResult{Code: impl.ErrMany}
	}
	if at := slices.Index(l.Texts, text); at >= 0 {
		return impl.LedgerResult{Id: int64(at + 1), Ledger: l}
	}
	if len(l.Texts) == 60 {
		return impl.LedgerResult{Code: impl.ErrMany}
	}
	out := copyLedger(l)
	out.Texts = append(out.Texts, text)
	return impl.LedgerResult{Id: int64(len(out.Texts)), Ledger: out}
}

func plainTextOf(l impl.Ledger, id int64) impl.TextResult {
	if code := plainFault(l); code != impl.OK {
		return impl.TextResult{Code: code}
	}
	if id < 1 || id > int64(len(l.Texts)) {
		return impl.TextResult{Code: impl.ErrRange}
	}
	return impl.TextResult{Text: l.Texts[id-1]}
}

func plainSign(l impl.Ledger, key, id int64) impl.LedgerResult {
	if code := plainFault(l); code != impl.OK {
		return impl.LedgerResult{Code: code}
	}
	if key < 1 || key > 999 || id < 1 || id > int64(len(l.Texts)) {
		return impl.LedgerResult{Code: impl.ErrRange}
	}
	if slices.Contains(l.Signs, impl.Sign{Key: key, Id: id}) {
		return impl.LedgerResult{Id: id, Ledger: l}
	}
	if len(l.Signs) == 120 {
		return impl.LedgerResult{Code: impl.ErrMany}
	}
	out := copyLedger(l)
	out.Signs = append(out.Signs, impl.Sign{Key: key, Id: id})
	return impl.LedgerResult{Id: id, Ledger: out}
}

func plainHas(l impl.Ledger, key, id int64) bool {
	return plainFault(l) == impl.OK && slices.Contains(l.Signs, impl.Sign{Key: key, Id: id})
}

func plainSignsOf(l impl.Ledger, id int64) impl.IntsResult {
	if code := plainFault(l); code != impl.OK {
		return impl.IntsResult{Code: code}
	}
	if id < 1 || id > int64(len(l.Texts)) {
		return impl.IntsResult{Code: impl.ErrRange}
	}
	var list []int64
	for _, sign := range l.Signs {
		if sign.Id == id {
			list = append(list, sign.Key)
		}
	}
	return impl.IntsResult{List: list}
}

// holdAgainstPlain asks all functions of the chapter, and that none of them touched the ledger.
func holdAgainstPlain(t *testing.T, l impl.Ledger, texts []string, keys, ids []int64) {
	t.Helper()
	was := copyLedger(l)
	if got, want := impl.LedgerFault(l), plainFault(l); got != want {
		t.Fatalf("LedgerFault(%v) = %d, want %d", l, got, want)
	}
	for _, text := range texts {
		if got, want := impl.IdOf(l, text), plainIdOf(l, text); got != want {
			t.Fatalf("IdOf(%v, %q) = %v, want %v", l, text, got, want)
		}
		if got, want := impl.NoteText(l, text), plainNote(l, text); !sameLedgerResults(got, want) {
			t.Fatalf("NoteText(%v, %q) = %v, want %v", l, text, got, want)
		}
	}
	for _, id := range ids {
		if got, want := impl.TextOf(l, id), plainTextOf(l, id); got != want {
			t.Fatalf("TextOf(%v, %d) = %v, want %v", l, id, got, want)
		}
		if got, want := impl.SignsOf(l, id), plainSignsOf(l, id); !sameInts(got, want) {
			t.Fatalf("SignsOf(%v, %d) = %v, want %v", l, id, got, want)
		}
		for _, key := range keys {
			if got, want := impl.SignId(l, key, id), plainSign(l, key, id); !sameLedgerResults(got, want) {
				t.Fatalf("SignId(%v, %d, %d) = %v, want %v", l, key, id, got, want)
			}
			if got, want := impl.HasSign(l, key, id), plainHas(l, key, id); got != want {
				t.Fatalf("HasSign(%v, %d, %d) = %v, want %v", l, key, id, got, want)
			}
		}
	}
	if !sameLedgers(l, was) {
		t.Fatalf("an argument was changed: %v, it was %v", l, was)
	}
}

// Promise 2, ordinary ledgers.

func TestNotedTextHasItsOwnNumber(t *testing.T) {
	l := impl.Ledger{}
	for i, text := range ordinaryLedger().Texts {
		r := impl.NoteText(l, text)
		if r.Code != impl.OK || r.Id != int64(i+1) || len(r.Ledger.Texts) != i+1 || r.Ledger.Texts[i] != text {
			t.Fatalf("NoteText %q: %v", text, r)
		}
		l = r.Ledger
	}
	for i, text := range ordinaryLedger().Texts {
		id := int64(i + 1)
		if r := impl.NoteText(l, text); r.Code != impl.OK || r.Id != id || !sameLedgers(r.Ledger, l) {
			t.Errorf("NoteText %q again: %v", text, r)
		}
		if r := impl.IdOf(l, text); r.Code != impl.OK || r.Value != id {
			t.Errorf("IdOf %q: %v", text, r)
		}
		if r := impl.TextOf(l, id); r.Code != impl.OK || r.Text != text {
			t.Errorf("TextOf %d: %v", id, r)
		}
	}
}

func TestTextsAreHeldAgainstEachOtherByteForByte(t *testing.T) {
	l := impl.Ledger{Texts: []string{"x"}}
	for _, text := range []string{"X", "x ", " x", "xx", "x\x00", "\xff"} {
		if r := impl.IdOf(l, text); r != (impl.IntResult{Code: impl.ErrNone}) {
			t.Errorf("IdOf %q: %v", text, r)
		}
		if r := impl.NoteText(l, text); r.Code != impl.OK || r.Id != 2 {
			t.Errorf("NoteText %q: %v", text, r)
		}
	}
}

func TestNotingLeavesSignaturesAndSigningLeavesTexts(t *testing.T) {
	l := ordinaryLedger()
	if r := impl.NoteText(l, "new"); !slices.Equal(r.Ledger.Signs, l.Signs) || !slices.Equal(r.Ledger.Texts, append(slices.Clone(l.Texts), "new")) {
		t.Error(r)
	}
	if r := impl.SignId(l, 4, 3); !slices.Equal(r.Ledger.Texts, l.Texts) || !slices.Equal(r.Ledger.Signs, append(slices.Clone(l.Signs), impl.Sign{Key: 4, Id: 3})) {
		t.Error(r)
	}
}

func TestJustWhoSignedHasSigned(t *testing.T) {
	l := impl.Ledger{Texts: manyTexts(4)}
	signed := map[impl.Sign]int{}
	for _, sign := range []impl.Sign{{Key: 9, Id: 2}, {Key: 2, Id: 2}, {Key: 9, Id: 4}, {Key: 999, Id: 2}, {Key: 1, Id: 1}} {
		r := impl.SignId(l, sign.Key, sign.Id)
		if r.Code != impl.OK || r.Id != sign.Id {
			t.Fatalf("SignId %v: %v", sign, r)
		}
		l = r.Ledger
		signed[sign] = 1
		for _, key := range []int64{0, 1, 2, 3, 8, 9, 10, 998, 999, 1000} {
			for id := int64(-1); id <= 6; id++ {
				if impl.HasSign(l, key, id) != (signed[impl.Sign{Key: key, Id: id}] == 1) {
					t.Errorf("HasSign %d, %d behind %v", key, id, l.Signs)
				}
			}
		}
	}
	if r := impl.SignsOf(l, 2); r.Code != impl.OK || !slices.Equal(r.List, []int64{9, 2, 999}) {
		t.Errorf("SignsOf 2, in the order of Signs: %v", r)
	}
	if r := impl.SignsOf(l, 3); r.Code != impl.OK || len(r.List) != 0 {
		t.Errorf("SignsOf what nobody signed: %v", r)
	}
}

func TestSigningAgainChangesNothing(t *testing.T) {
	l := ordinaryLedger()
	for _, sign := range l.Signs {
		if r := impl.SignId(l, sign.Key, sign.Id); r.Code != impl.OK || r.Id != sign.Id || !sameLedgers(r.Ledger, l) {
			t.Errorf("SignId %v again: %v", sign, r)
		}
	}
}

// Promise 2, the edges that the document names.

func TestTextLengths(t *testing.T) {
	rows := []struct {
		text string
		code int64
	}{
		{"", impl.ErrMany},
		{"a", impl.OK},
		{strings.Repeat("a", 299), impl.OK},
		{strings.Repeat("a", 300), impl.OK},
		{strings.Repeat("a", 301), impl.ErrMany},
		{strings.Repeat("€", 100), impl.OK},
		{strings.Repeat("€", 101), impl.ErrMany},
		{strings.Repeat("a", 100000), impl.ErrMany},
	}
	for _, row := range rows {
		r := impl.NoteText(impl.Ledger{}, row.text)
		want := impl.LedgerResult{Code: row.code}
		if row.code == impl.OK {
			want = impl.LedgerResult{Id: 1, Ledger: impl.Ledger{Texts: []string{row.text}}}
		}
		if !sameLedgerResults(r, want) {
			t.Errorf("NoteText of %d bytes: code %d, id %d", len(row.text), r.Code, r.Id)
		}
		if code := impl.LedgerFault(impl.Ledger{Texts: []string{row.text}}); code != row.code {
			t.Errorf("LedgerFault with a text of %d bytes: %d", len(row.text), code)
		}
		if r := impl.IdOf(impl.Ledger{}, row.text); r != (impl.IntResult{Code: impl.ErrNone}) {
			t.Errorf("IdOf of %d bytes that nobody noted: %v", len(row.text), r)
		}
	}
}

func TestFullOfTexts(t *testing.T) {
	l := impl.Ledger{Texts: manyTexts(59), Signs: []impl.Sign{{Key: 1, Id: 59}}}
	r := impl.NoteText(l, "the last one")
	if r.Code != impl.OK || r.Id != 60 || impl.LedgerFault(r.Ledger) != impl.OK {
		t.Fatal(r)
	}
	full := r.Ledger
	for id, text := range full.Texts {
		if r := impl.NoteText(full, text); r.Code != impl.OK || r.Id != int64(id+1) || !sameLedgers(r.Ledger, full) {
			t.Errorf("NoteText %q again: %v", text, r)
		}
	}
	for _, text := range []string{"one more", "", strings.Repeat("a", 301)} {
		if r := impl.NoteText(full, text); !sameLedgerResults(r, impl.LedgerResult{Code: impl.ErrMany}) {
			t.Errorf("NoteText %q: %v", text, r)
		}
	}
	if r := impl.TextOf(full, 60); r.Text != "the last one" {
		t.Error(r)
	}
	if r := impl.TextOf(full, 61); r != (impl.TextResult{Code: impl.ErrRange}) {
		t.Error(r)
	}
	if r := impl.SignId(full, 1, 60); r.Code != impl.OK {
		t.Error(r)
	}
	if code := impl.LedgerFault(impl.Ledger{Texts: manyTexts(61)}); code != impl.ErrMany {
		t.Error(code)
	}
}

func TestFullOfSignatures(t *testing.T) {
	l := impl.Ledger{Texts: manyTexts(7), Signs: manySigns(119, 7)}
	r := impl.SignId(l, 999, 7)
	if r.Code != impl.OK || r.Id != 7 || len(r.Ledger.Signs) != 120 || impl.LedgerFault(r.Ledger) != impl.OK {
		t.Fatal(r)
	}
	full := r.Ledger
	for _, sign := range full.Signs {
		if r := impl.SignId(full, sign.Key, sign.Id); r.Code != impl.OK || r.Id != sign.Id || !sameLedgers(r.Ledger, full) {
			t.Errorf("SignId %v again: %v", sign, r)
		}
	}
	if r := impl.SignId(full, 998, 7); !sameLedgerResults(r, impl.LedgerResult{Code: impl.ErrMany}) {
		t.Error(r)
	}
	if r := impl.SignId(full, 1000, 7); !sameLedgerResults(r, impl.LedgerResult{Code: impl.ErrRange}) {
		t.Error(r)
	}
	if r := impl.SignId(full, 998, 8); !sameLedgerResults(r, impl.LedgerResult{Code: impl.ErrRange}) {
		t.Error(r)
	}
	if r := impl.NoteText(full, "new"); r.Code != impl.OK || r.Id != 8 {
		t.Error(r)
	}
	if code := impl.LedgerFault(impl.Ledger{Texts: manyTexts(7), Signs: manySigns(121, 7)}); code != impl.ErrMany {
		t.Error(code)
	}
}

func TestKeysAtTheirBounds(t *testing.T) {
	l := impl.Ledger{Texts: []string{"x"}}
	rows := []struct{ key, code int64 }{
		{0, impl.ErrRange}, {1, impl.OK}, {2, impl.OK}, {998, impl.OK}, {999, impl.OK}, {1000, impl.ErrRange},
		{-1, impl.ErrRange}, {math.MinInt64, impl.ErrRange}, {math.MaxInt64, impl.ErrRange}, {1<<32 + 1, impl.ErrRange},
	}
	for _, row := range rows {
		signed := impl.Ledger{Texts: l.Texts, Signs: []impl.Sign{{Key: row.key, Id: 1}}}
		want := impl.LedgerResult{Code: row.code}
		if row.code == impl.OK {
			want = impl.LedgerResult{Id: 1, Ledger: signed}
		}
		if r := impl.SignId(l, row.key, 1); !sameLedgerResults(r, want) {
			t.Errorf("SignId of key %d: %v", row.key, r)
		}
		if code := impl.LedgerFault(signed); code != row.code {
			t.Errorf("LedgerFault with key %d: %d", row.key, code)
		}
		if impl.HasSign(signed, row.key, 1) != (row.code == impl.OK) {
			t.Errorf("HasSign of key %d", row.key)
		}
		if impl.HasSign(l, row.key, 1) {
			t.Errorf("HasSign of key %d that did not sign", row.key)
		}
	}
}

func TestNumbersAtTheirBounds(t *testing.T) {
	l := ordinaryLedger()
	for _, id := range []int64{0, 6, 7, -1, math.MinInt64, math.MaxInt64, 1<<32 + 1} {
		if r := impl.TextOf(l, id); r != (impl.TextResult{Code: impl.ErrRange}) {
			t.Errorf("TextOf %d: %v", id, r)
		}
		if r := impl.SignId(l, 1, id); !sameLedgerResults(r, impl.LedgerResult{Code: impl.ErrRange}) {
			t.Errorf("SignId %d: %v", id, r)
		}
		if r := impl.SignsOf(l, id); !sameInts(r, impl.IntsResult{Code: impl.ErrRange}) {
			t.Errorf("SignsOf %d: %v", id, r)
		}
		if impl.HasSign(l, 1, id) {
			t.Errorf("HasSign %d", id)
		}
		bad := impl.Ledger{Texts: l.Texts, Signs: []impl.Sign{{Key: 1, Id: id}}}
		if code := impl.LedgerFault(bad); code != impl.ErrRange {
			t.Errorf("LedgerFault with a signed %d: %d", id, code)
		}
	}
	if r := impl.TextOf(l, 1); r.Text != "x" {
		t.Error(r)
	}
	if r := impl.TextOf(l, 5); r.Text != "ä\n" {
		t.Error(r)
	}
	if r := impl.SignsOf(l, 5); !slices.Equal(r.List, []int64{999}) {
		t.Error(r)
	}
	if r := impl.TextOf(impl.Ledger{}, 1); r.Code != impl.ErrRange {
		t.Error(r)
	}
}

// Promises 1 and 2, wrong inputs.

type faultRow struct {
	name   string
	ledger impl.Ledger
	code   int64
}

func faultRows() []faultRow {
	long := strings.Repeat("a", 301)
	texts := manyTexts(2)
	return []faultRow{
		{"61 texts", impl.Ledger{Texts: manyTexts(61)}, impl.ErrMany},
		{"121 signs", impl.Ledger{Texts: texts, Signs: manySigns(121, 2)}, impl.ErrMany},
		{"empty text", impl.Ledger{Texts: []string{"a", ""}}, impl.ErrMany},
		{"long text", impl.Ledger{Texts: []string{"a", long}}, impl.ErrMany},
		{"text twice", impl.Ledger{Texts: []string{"a", "b", "a"}}, impl.ErrTaken},
		{"key 0", impl.Ledger{Texts: texts, Signs: []impl.Sign{{Key: 0, Id: 1}}}, impl.ErrRange},
		{"key 1000", impl.Ledger{Texts: texts, Signs: []impl.Sign{{Key: 1000, Id: 1}}}, impl.ErrRange},
		{"id 0", impl.Ledger{Texts: texts, Signs: []impl.Sign{{Key: 1, Id: 0}}}, impl.ErrRange},
		{"id behind the last", impl.Ledger{Texts: texts, Signs: []impl.Sign{{Key: 1, Id: 3}}}, impl.ErrRange},
		{"no texts at all", impl.Ledger{Signs: []impl.Sign{{Key: 1, Id: 1}}}, impl.ErrRange},
		{"sign twice", impl.Ledger{Texts: texts, Signs: []impl.Sign{{Key: 1, Id: 1}, {Key: 1, Id: 2}, {Key: 1, Id: 1}}}, impl.ErrTaken},

		{"121 signs ahead of a text twice", impl.Ledger{Texts: []string{"a", "a"}, Signs: manySigns(121, 2)}, impl.ErrMany},
		{"121 signs, one of them out of bounds", impl.Ledger{Texts: texts, Signs: manySigns(121, 3)}, impl.ErrMany},
		{"61 texts ahead of a text twice", impl.Ledger{Texts: append([]string{"a", "a"}, manyTexts(59)...)}, impl.ErrMany},
		{"text twice ahead of an empty one", impl.Ledger{Texts: []string{"a", "a", ""}}, impl.ErrTaken},
		{"empty text ahead of a text twice", impl.Ledger{Texts: []string{"", "a", "a"}}, impl.ErrMany},
		{"empty text twice", impl.Ledger{Texts: []string{"", ""}}, impl.ErrMany},
		{"long text twice", impl.Ledger{Texts: []string{long, long}}, impl.ErrMany},
		{"text twice ahead of a sign out of bounds", impl.Ledger{Texts: []string{"a", "a"}, Signs: []impl.Sign{{Key: 0, Id: 0}}}, impl.ErrTaken},
		{"long text ahead of a sign out of bounds", impl.Ledger{Texts: []string{long}, Signs: []impl.Sign{{Key: 0, Id: 0}}}, impl.ErrMany},
		{"long text ahead of a sign twice", impl.Ledger{Texts: []string{"a", long}, Signs: []impl.Sign{{Key: 1, Id: 1}, {Key: 1, Id: 1}}}, impl.ErrMany},
		{"sign twice ahead of one out of bounds", impl.Ledger{Texts: texts, Signs: []impl.Sign{{Key: 1, Id: 1}, {Key: 1, Id: 1}, {Key: 0, Id: 1}}}, impl.ErrTaken},
		{"sign out of bounds ahead of a sign twice", impl.Ledger{Texts: texts, Signs: []impl.Sign{{Key: 1, Id: 3}, {Key: 1, Id: 1}, {Key: 1, Id: 1}}}, impl.ErrRange},
		{"sign out of bounds twice", impl.Ledger{Texts: texts, Signs: []impl.Sign{{Key: 0, Id: 1}, {Key: 0, Id: 1}}}, impl.ErrRange},
	}
}

func TestLedgerFaultTellsTheFirstCode(t *testing.T) {
	for _, row := range faultRows() {
		if code := impl.LedgerFault(row.ledger); code != row.code {
			t.Errorf("%s: %d, want %d", row.name, code, row.code)
		}
	}
	for _, l := range []impl.Ledger{{}, {Texts: []string{}, Signs: []impl.Sign{}}, ordinaryLedger(), {Texts: manyTexts(60), Signs: manySigns(120, 60)}} {
		if code := impl.LedgerFault(l); code != impl.OK {
			t.Errorf("%v: %d", l, code)
		}
	}
}

// A fault of the ledger comes ahead of what is wrong with the other arguments, and all beside it is zero.
func TestEveryFunctionAsksTheFaultFirst(t *testing.T) {
	for _, row := range faultRows() {
		for _, text := range []string{"a", "new", "", strings.Repeat("b", 301)} {
			if r := impl.IdOf(row.ledger, text); r != (impl.IntResult{Code: row.code}) {
				t.Errorf("%s: IdOf: %v", row.name, r)
			}
			if r := impl.NoteText(row.ledger, text); !sameLedgerResults(r, impl.LedgerResult{Code: row.code}) {
				t.Errorf("%s: NoteText: %v", row.name, r)
			}
		}
		for _, id := range []int64{0, 1, 2, 3, 1000} {
			if r := impl.TextOf(row.ledger, id); r != (impl.TextResult{Code: row.code}) {
				t.Errorf("%s: TextOf: %v", row.name, r)
			}
			if r := impl.SignsOf(row.ledger, id); !sameInts(r, impl.IntsResult{Code: row.code}) {
				t.Errorf("%s: SignsOf: %v", row.name, r)
			}
			for _, key := range []int64{0, 1, 1000} {
				if r := impl.SignId(row.ledger, key, id); !sameLedgerResults(r, impl.LedgerResult{Code: row.code}) {
					t.Errorf("%s: SignId: %v", row.name, r)
				}
				if impl.HasSign(row.ledger, key, id) {
					t.Errorf("%s: HasSign %d, %d", row.name, key, id)
				}
			}
		}
	}
}

// listsOf tells each list of at most most of the given elements.
func listsOf[T any](elements []T, most int, tell func([]T)) {
	var grow func(list []T)
	grow = func(list []T) {
		tell(slices.Clone(list))
		if len(list) == most {
			return
		}
		for _, x := range elements {
			grow(append(slices.Clone(list), x))
		}
	}
	grow(nil)
}

func TestSmallLedgersByThePlainReading(t *testing.T) {
	var signs []impl.Sign
	for _, key := range []int64{0, 1, 999, 1000} {
		for id := int64(0); id <= 3; id++ {
			signs = append(signs, impl.Sign{Key: key, Id: id})
		}
	}
	listsOf([]string{"", "a", "b"}, 3, func(texts []string) {
		listsOf(signs, 2, func(list []impl.Sign) {
			holdAgainstPlain(t, impl.Ledger{Texts: texts, Signs: list}, []string{"", "a", "b", "c"}, []int64{0, 1, 2, 999, 1000}, []int64{0, 1, 2, 3, 4})
		})
	})
}

func TestGreatLedgersByThePlainReading(t *testing.T) {
	long := strings.Repeat("a", 301)
	texts := []string{"", "text 0", "text 58", "text 59", "text 60", "new", long[:300], long}
	keys := []int64{math.MinInt64, 0, 1, 2, 3, 60, 999, 1000, math.MaxInt64}
	ids := []int64{math.MinInt64, 0, 1, 58, 59, 60, 61, math.MaxInt64}
	for _, n := range []int{58, 59, 60, 61} {
		for _, m := range []int{0, 1, 118, 119, 120, 121} {
			holdAgainstPlain(t, impl.Ledger{Texts: manyTexts(n), Signs: manySigns(m, n)}, texts, keys, ids)
		}
	}
}

// Promise 1: memory, nil and empty, the same again.

// roomy has space behind its lists: who appends to a list that was handed in writes there.
func roomy(l impl.Ledger) (impl.Ledger, []string, []impl.Sign) {
	texts := append(slices.Clone(l.Texts), "untouched", "untouched")
	signs := append(slices.Clone(l.Signs), impl.Sign{Key: -1, Id: -1}, impl.Sign{Key: -1, Id: -1})
	return impl.Ledger{Texts: texts[:len(l.Texts)], Signs: signs[:len(l.Signs)]}, texts, signs
}

func TestNoArgumentIsChanged(t *testing.T) {
	l, texts, signs := roomy(ordinaryLedger())
	wasTexts, wasSigns := slices.Clone(texts), slices.Clone(signs)
	impl.LedgerFault(l)
	impl.IdOf(l, "x")
	impl.IdOf(l, "new")
	impl.NoteText(l, "x")
	impl.NoteText(l, "new")
	impl.TextOf(l, 1)
	impl.SignId(l, 7, 2)
	impl.SignId(l, 8, 2)
	impl.HasSign(l, 7, 2)
	impl.SignsOf(l, 2)
	if !slices.Equal(texts, wasTexts) || !slices.Equal(signs, wasSigns) {
		t.Error(texts, signs)
	}
}

func spoil(l impl.Ledger) {
	for i := range l.Texts[:cap(l.Texts)] {
		l.Texts[:cap(l.Texts)][i] = "spoilt"
	}
	for i := range l.Signs[:cap(l.Signs)] {
		l.Signs[:cap(l.Signs)][i] = impl.Sign{Key: -9, Id: -9}
	}
}

func TestAnAnswerSharesNoMemoryWithAnArgument(t *testing.T) {
	calls := []struct {
		name string
		call func(impl.Ledger) impl.Ledger
	}{
		{"NoteText, new", func(l impl.Ledger) impl.Ledger { return impl.NoteText(l, "new").Ledger }},
		{"NoteText, again", func(l impl.Ledger) impl.Ledger { return impl.NoteText(l, "x").Ledger }},
		{"SignId, new", func(l impl.Ledger) impl.Ledger { return impl.SignId(l, 8, 2).Ledger }},
		{"SignId, again", func(l impl.Ledger) impl.Ledger { return impl.SignId(l, 7, 2).Ledger }},
	}
	for _, c := range calls {
		l, texts, signs := roomy(ordinaryLedger())
		wasTexts, wasSigns := slices.Clone(texts), slices.Clone(signs)
		spoil(c.call(l))
		if !slices.Equal(texts, wasTexts) || !slices.Equal(signs, wasSigns) {
			t.Errorf("%s: who writes to the answer writes to the argument", c.name)
		}
		answer := c.call(l)
		was := copyLedger(answer)
		spoil(l)
		if !sameLedgers(answer, was) {
			t.Errorf("%s: who writes to the argument writes to the answer", c.name)
		}
	}
}

func TestTwoAnswersShareNoMemory(t *testing.T) {
	l := ordinaryLedger()
	a, b := impl.NoteText(l, "new").Ledger, impl.NoteText(l, "new").Ledger
	was := copyLedger(b)
	spoil(a)
	if !sameLedgers(b, was) {
		t.Error(b)
	}
	c, d := impl.SignsOf(l, 2).List, impl.SignsOf(l, 2).List
	c[0] = -1
	if d[0] != 7 || impl.SignsOf(l, 2).List[0] != 7 {
		t.Error(d)
	}
}

func TestEmptyAndNilAreTheSame(t *testing.T) {
	l := impl.Ledger{Texts: []string{}, Signs: []impl.Sign{}}
	if a, b := impl.NoteText(impl.Ledger{}, "x"), impl.NoteText(l, "x"); !sameLedgerResults(a, b) {
		t.Error(a, b)
	}
	if a, b := impl.TextOf(impl.Ledger{}, 1), impl.TextOf(l, 1); a != b {
		t.Error(a, b)
	}
	if a, b := impl.SignsOf(impl.Ledger{}, 1), impl.SignsOf(l, 1); !sameInts(a, b) {
		t.Error(a, b)
	}
	some := impl.Ledger{Texts: []string{"x"}}
	someEmpty := impl.Ledger{Texts: []string{"x"}, Signs: []impl.Sign{}}
	if a, b := impl.SignId(some, 1, 1), impl.SignId(someEmpty, 1, 1); !sameLedgerResults(a, b) {
		t.Error(a, b)
	}
}

// What other ledgers were asked in between leaves no trace.
func TestAnswersHangOnTheArgumentsAlone(t *testing.T) {
	l := ordinaryLedger()
	note, sign, keys := impl.NoteText(l, "new"), impl.SignId(l, 8, 2), impl.SignsOf(l, 2)
	for _, row := range faultRows() {
		impl.NoteText(row.ledger, "new")
	}
	impl.NoteText(impl.Ledger{Texts: manyTexts(30)}, "new")
	impl.SignId(impl.Ledger{Texts: manyTexts(30), Signs: manySigns(30, 30)}, 8, 2)
	if r := impl.NoteText(l, "new"); !sameLedgerResults(r, note) {
		t.Error(r)
	}
	if r := impl.SignId(l, 8, 2); !sameLedgerResults(r, sign) {
		t.Error(r)
	}
	if r := impl.SignsOf(l, 2); !sameInts(r, keys) {
		t.Error(r)
	}
	if r := impl.IdOf(impl.Ledger{}, "new"); r.Code != impl.ErrNone {
		t.Error(r)
	}
}

func TestConstants(t *testing.T) {
	codes := []int64{impl.OK, impl.ErrForm, impl.ErrMany, impl.ErrRange, impl.ErrNone, impl.ErrText, impl.ErrSign, impl.ErrTaken, impl.ErrValue, impl.ErrEarly, impl.ErrState}
	for i, code := range codes {
		if code != int64(i) {
			t.Errorf("code %d is %d", i, code)
		}
	}
	if impl.MaxTexts != 60 || impl.MaxSigns != 120 || impl.MaxText != 300 {
		t.Error(impl.MaxTexts, impl.MaxSigns, impl.MaxText)
	}
}
