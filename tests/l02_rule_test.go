package tests

import (
	"fmt"
	"math"
	"regexp"
	"slices"
	"strconv"
	"strings"
	"testing"

	"loop.example/g00304/impl"
)

// The plain reading of chapter 2: what the program is held against.

func plainRuleFault(r impl.Rule) int64 {
	n := int64(len(r.Keys))
	if n < 1 || n > 3 {
		return impl.ErrMany
	}
	for _, key := range r.Keys {
		if key < 1 || key > 999 {
			return impl.ErrRange
		}
	}
	if r.Need < 1 || r.Need > n || r.After < 0 || r.After > 999 {
		return impl.ErrRange
	}
	for i := 1; i < len(r.Keys); i++ {
		if r.Keys[i-1] >= r.Keys[i] {
			return impl.ErrForm
		}
	}
	return impl.OK
}

func plainRuleMet(l impl.Ledger, r impl.Rule, id, height int64) int64 {
	if code := plainFault(l); code != impl.OK {
		return code
	}
	if code := plainRuleFault(r); code != impl.OK {
		return code
	}
	if id < 1 || id > int64(len(l.Texts)) || height < 0 || height > 999 {
		return impl.ErrRange
	}
	if height < r.After {
		return impl.ErrEarly
	}
	var signed int64
	for _, sign := range l.Signs {
		if sign.Id == id && slices.Contains(r.Keys, sign.Key) {
			signed++
		}
	}
	if signed < r.Need {
		return impl.ErrSign
	}
	return impl.OK
}

func plainRuleText(r impl.Rule) impl.TextResult {
	if code := plainRuleFault(r); code != impl.OK {
		return impl.TextResult{Code: code}
	}
	var keys []string
	for _, key := range r.Keys {
		keys = append(keys, fmt.Sprint(key))
	}
	text := fmt.Sprint(r.Need) + " of " + strings.Join(keys, ",")
	if r.After > 0 {
		text += fmt.Sprint(" after ", r.After)
	}
	return impl.TextResult{Text: text}
}

var ruleForm = regexp.MustCompile(`^([1-3]) of ([1-9][0-9]{0,2}(?:,[1-9][0-9]{0,2}){0,2})(?: after ([1-9][0-9]{0,2}))?\z`)

func plainParseRule(text string) impl.RuleResult {
	parts := ruleForm.FindStringSubmatch(text)
	if parts == nil {
		return impl.RuleResult{Code: impl.ErrText}
	}
	var r impl.Rule
	for _, key := range strings.Split(parts[2], ",") {
		r.Keys = append(r.Keys, plainNumber(key))
	}
	r.Need = plainNumber(parts[1])
	if parts[3] != "" {
		r.After = plainNumber(parts[3])
	}
	if plainRuleFault(r) != impl.OK {
		return impl.RuleResult{Code: impl.ErrText}
	}
	return impl.RuleResult{Rule: r}
}

func plainNumber(digits string) int64 {
	number, err := strconv.ParseInt(digits, 10, 64)
	if err != nil {
		panic(err)
	}
	return number
}

func sameRuleResults(a, b impl.RuleResult) bool {
	return a.Code == b.Code && slices.Equal(a.Rule.Keys, b.Rule.Keys) && a.Rule.Need == b.Rule.Need && a.Rule.After == b.Rule.After
}

func ordinaryRules() []impl.Rule {
	return []impl.Rule{
		{Keys: []int64{1}, Need: 1},
		{Keys: []int64{999}, Need: 1, After: 999},
		{Keys: []int64{2, 5}, Need: 1, After: 9},
		{Keys: []int64{2, 5}, Need: 2},
		{Keys: []int64{7, 10, 100}, Need: 3, After: 1},
		{Keys: []int64{1, 2, 3}, Need: 2, After: 40},
		{Keys: []int64{997, 998, 999}, Need: 1, After: 100},
	}
}

// wrongRules names the code that comes first where several are so.
func wrongRules() []struct {
	rule impl.Rule
	code int64
} {
	return []struct {
		rule impl.Rule
		code int64
	}{
		{impl.Rule{}, impl.ErrMany},
		{impl.Rule{Keys: []int64{}, Need: 1}, impl.ErrMany},
		{impl.Rule{Keys: []int64{1, 2, 3, 4}, Need: 1}, impl.ErrMany},
		{impl.Rule{Keys: []int64{0}, Need: 1}, impl.ErrRange},
		{impl.Rule{Keys: []int64{1000}, Need: 1}, impl.ErrRange},
		{impl.Rule{Keys: []int64{1, 1000}, Need: 1}, impl.ErrRange},
		{impl.Rule{Keys: []int64{1, 2, 1000}, Need: 1}, impl.ErrRange},
		{impl.Rule{Keys: []int64{math.MinInt64}, Need: 1}, impl.ErrRange},
		{impl.Rule{Keys: []int64{math.MaxInt64}, Need: 1}, impl.ErrRange},
		{impl.Rule{Keys: []int64{1<<32 + 1}, Need: 1}, impl.ErrRange},
		{impl.Rule{Keys: []int64{1}, Need: 0}, impl.ErrRange},
		{impl.Rule{Keys: []int64{1}, Need: -1}, impl.ErrRange},
		{impl.Rule{Keys: []int64{1}, Need: 2}, impl.ErrRange},
		{impl.Rule{Keys: []int64{1, 2}, Need: 3}, impl.ErrRange},
		{impl.Rule{Keys: []int64{1, 2, 3}, Need: 4}, impl.ErrRange},
		{impl.Rule{Keys: []int64{1}, Need: math.MaxInt64}, impl.ErrRange},
		{impl.Rule{Keys: []int64{1}, Need: math.MinInt64}, impl.ErrRange},
		{impl.Rule{Keys: []int64{1}, Need: 1, After: -1}, impl.ErrRange},
		{impl.Rule{Keys: []int64{1}, Need: 1, After: 1000}, impl.ErrRange},
		{impl.Rule{Keys: []int64{1}, Need: 1, After: math.MaxInt64}, impl.ErrRange},
		{impl.Rule{Keys: []int64{1}, Need: 1, After: math.MinInt64}, impl.ErrRange},
		{impl.Rule{Keys: []int64{4, 4}, Need: 1}, impl.ErrForm},
		{impl.Rule{Keys: []int64{5, 4}, Need: 1}, impl.ErrForm},
		{impl.Rule{Keys: []int64{1, 3, 3}, Need: 1}, impl.ErrForm},
		{impl.Rule{Keys: []int64{1, 3, 2}, Need: 1}, impl.ErrForm},
		{impl.Rule{Keys: []int64{2, 1, 3}, Need: 1}, impl.ErrForm},

		{impl.Rule{Keys: []int64{1000, 0, 0, 0}, Need: 9, After: -1}, impl.ErrMany},
		{impl.Rule{Need: -1, After: 1000}, impl.ErrMany},
		{impl.Rule{Keys: []int64{5, 4, 0}, Need: 1}, impl.ErrRange},
		{impl.Rule{Keys: []int64{5, 4}, Need: 3}, impl.ErrRange},
		{impl.Rule{Keys: []int64{5, 4}, Need: 1, After: 1000}, impl.ErrRange},
		{impl.Rule{Keys: []int64{1000, 1000}, Need: 1}, impl.ErrRange},
	}
}

func TestRuleFaultTellsTheFirstCode(t *testing.T) {
	for _, row := range wrongRules() {
		if code := impl.RuleFault(row.rule); code != row.code {
			t.Errorf("%v: %d, want %d", row.rule, code, row.code)
		}
		if r := impl.RuleText(row.rule); r != (impl.TextResult{Code: row.code}) {
			t.Errorf("RuleText %v: %v, want code %d alone", row.rule, r, row.code)
		}
	}
	for _, r := range ordinaryRules() {
		if code := impl.RuleFault(r); code != impl.OK {
			t.Errorf("%v: %d", r, code)
		}
	}
}

// eachSmallRule tells rules of 0 to 4 keys at all bounds that the document names.
func eachSmallRule(tell func(impl.Rule)) {
	listsOf([]int64{0, 1, 2, 3, 999, 1000}, 4, func(keys []int64) {
		for need := int64(-1); need <= 5; need++ {
			for _, after := range []int64{-1, 0, 1, 998, 999, 1000} {
				tell(impl.Rule{Keys: keys, Need: need, After: after})
			}
		}
	})
}

func TestSmallRulesByThePlainReading(t *testing.T) {
	eachSmallRule(func(r impl.Rule) {
		if got, want := impl.RuleFault(r), plainRuleFault(r); got != want {
			t.Fatalf("RuleFault(%v) = %d, want %d", r, got, want)
		}
		text := impl.RuleText(r)
		if want := plainRuleText(r); text != want {
			t.Fatalf("RuleText(%v) = %v, want %v", r, text, want)
		}
		if text.Code != impl.OK {
			return
		}
		if back := impl.ParseRule(text.Text); !sameRuleResults(back, impl.RuleResult{Rule: r}) {
			t.Fatalf("ParseRule(%q) = %v, want %v", text.Text, back, r)
		}
	})
}

// Promise 3: a rule is read back from its text.

func TestRuleTexts(t *testing.T) {
	rows := []struct {
		rule impl.Rule
		text string
	}{
		{impl.Rule{Keys: []int64{1}, Need: 1}, "1 of 1"},
		{impl.Rule{Keys: []int64{999}, Need: 1}, "1 of 999"},
		{impl.Rule{Keys: []int64{2, 5}, Need: 1, After: 9}, "1 of 2,5 after 9"},
		{impl.Rule{Keys: []int64{2, 5}, Need: 2}, "2 of 2,5"},
		{impl.Rule{Keys: []int64{1, 2, 3}, Need: 3, After: 1}, "3 of 1,2,3 after 1"},
		{impl.Rule{Keys: []int64{10, 100, 999}, Need: 2, After: 999}, "2 of 10,100,999 after 999"},
	}
	for _, row := range rows {
		if r := impl.RuleText(row.rule); r != (impl.TextResult{Text: row.text}) {
			t.Errorf("RuleText %v: %v", row.rule, r)
		}
		if r := impl.ParseRule(row.text); !sameRuleResults(r, impl.RuleResult{Rule: row.rule}) {
			t.Errorf("ParseRule %q: %v", row.text, r)
		}
	}
}

func TestEveryNumberIsReadBack(t *testing.T) {
	for n := int64(1); n <= 999; n++ {
		r := impl.Rule{Keys: []int64{n}, Need: 1, After: n}
		text := impl.RuleText(r)
		if want := fmt.Sprintf("1 of %d after %d", n, n); text.Code != impl.OK || text.Text != want {
			t.Fatalf("%v, want %q", text, want)
		}
		if back := impl.ParseRule(text.Text); !sameRuleResults(back, impl.RuleResult{Rule: r}) {
			t.Fatalf("ParseRule(%q) = %v", text.Text, back)
		}
	}
}

func TestTextsThatNearlyAreRules(t *testing.T) {
	digits := strings.Repeat("1", 100000)
	texts := []string{
		"", " ", "of", " of ", "1", "1 of", "1 of ", "of 1", " of 1", "after", " after ", " after 1", "1 after 1",
		"1  of 1", "1 of  1", "1 of 1  after 9", "1 of 1 after  9", " 1 of 1", "1 of 1 ", " 1 of 1 after 9", "1 of 1 after 9 ",
		"1 of 1 after 0", "1 of 1 after", "1 of 1 after ", "1 of 1 after 00", "1 of 1 after 09", "1 of 1 after +9", "1 of 1 after -9",
		"1 of 1 after 1000", "1 of 1 after -1", "1 of 1 after x", "1 of 1 after 9 after 9", "1 of 1 after 9,10", "1 of 1 after 0 after 9",
		"1 of 1after 9", "1 of 1 after9", "1of 1", "1 of1", "1of1", "1 of 1 After 9", "1 OF 1", "1 of 1 9", "1 of 1 9 after",
		"0 of 1", "2 of 1", "3 of 1,2", "4 of 1,2,3", "01 of 1", "+1 of 1", "-1 of 1", "1.0 of 1", "1e0 of 1", "0x1 of 1", "1_0 of 1",
		"x of 1", "1 of x", "1,2 of 3", "1 of 2 of 3", "1 of 1 of 1", " 1", "1 of of 1", "1 of 1 of ",
		"1 of 0", "1 of 1000", "1 of 01", "1 of +1", "1 of -1", "1 of 1,02", "1 of 1_0", "1 of 0x1",
		"1 of 1,1", "1 of 2,1", "1 of 1,2,2", "1 of 1,3,2", "1 of 1,2,3,4", "1 of 5,2",
		"1 of ,", "1 of 1,", "1 of ,1", "1 of 1,,2", "1 of ,,", "1 of 1, 2", "1 of 1 ,2", "1 of 1 2", "1 of 1;2", "1 of 1,2,",
		"1 of 1\n", "\n1 of 1", "1 of\n1", "1\tof 1", "1 of 1\x00", "1 of 1\xff", "1 of ١", "１ of 1", "1\u00a0of 1",
		digits + " of 1", "1 of " + digits, "1 of 1," + digits, "1 of 1 after " + digits, digits,
		"1 of 1" + strings.Repeat("0", 100000), strings.Repeat("0", 100000) + "1 of 1", "1 of " + strings.Repeat("1,", 100000) + "1",
		"1 of 9223372036854775808", "1 of 9223372036854775807", "1 of 18446744073709551617", "18446744073709551617 of 1", "1 of 1 after 18446744073709551625",
		"1 of 4294967297", "1 of 1 after 4294967305",
	}
	for _, text := range texts {
		if r := impl.ParseRule(text); !sameRuleResults(r, impl.RuleResult{Code: impl.ErrText}) {
			t.Errorf("ParseRule of %.40q (%d bytes): %v", text, len(text), r)
		}
	}
}

func TestParsedTextsByThePlainReading(t *testing.T) {
	const letters = "0123456789 ,ofaterx+-_\n\x00\xff"
	ask := func(text string) {
		t.Helper()
		if got, want := impl.ParseRule(text), plainParseRule(text); !sameRuleResults(got, want) {
			t.Fatalf("ParseRule(%q) = %v, want %v", text, got, want)
		}
	}
	for _, r := range ordinaryRules() {
		text := plainRuleText(r).Text
		ask(text)
		for at := range len(text) {
			ask(text[:at])
			ask(text[at:])
			ask(text[:at] + text[at+1:])
			for _, x := range []byte(letters) {
				ask(text[:at] + string([]byte{x}) + text[at:])
				ask(text[:at] + string([]byte{x}) + text[at+1:])
			}
		}
		for _, x := range []byte(letters) {
			ask(text + string([]byte{x}))
		}
	}
}

func TestPiecedTextsByThePlainReading(t *testing.T) {
	listsOf([]string{"1", "2", "0", "999", "of", "after", "1,2", "1,2,3", "2,1", ",", ""}, 5, func(words []string) {
		text := strings.Join(words, " ")
		if got, want := impl.ParseRule(text), plainParseRule(text); !sameRuleResults(got, want) {
			t.Fatalf("ParseRule(%q) = %v, want %v", text, got, want)
		}
	})
}

// Promise 3: a rule that is met stays met.

func TestRuleMetByThePlainReading(t *testing.T) {
	rules := []impl.Rule{
		{Keys: []int64{1}, Need: 1},
		{Keys: []int64{2}, Need: 1, After: 9},
		{Keys: []int64{1, 2}, Need: 1, After: 999},
		{Keys: []int64{1, 2}, Need: 2, After: 1},
		{Keys: []int64{1, 2, 999}, Need: 1},
		{Keys: []int64{1, 2, 999}, Need: 2, After: 9},
		{Keys: []int64{1, 2, 999}, Need: 3},
		{Keys: []int64{1, 2, 999}, Need: 4},
		{Keys: []int64{2, 1}, Need: 1},
		{},
	}
	signs := []impl.Sign{{Key: 1, Id: 1}, {Key: 2, Id: 1}, {Key: 999, Id: 1}, {Key: 1, Id: 2}, {Key: 3, Id: 1}, {Key: 0, Id: 1}}
	heights := []int64{math.MinInt64, -1, 0, 1, 8, 9, 10, 998, 999, 1000, math.MaxInt64}
	listsOf(signs, 4, func(list []impl.Sign) {
		l := impl.Ledger{Texts: []string{"x", "y"}, Signs: list}
		for _, r := range rules {
			for id := int64(-1); id <= 3; id++ {
				for _, height := range heights {
					if got, want := impl.RuleMet(l, r, id, height), plainRuleMet(l, r, id, height); got != want {
						t.Fatalf("RuleMet(%v, %v, %d, %d) = %d, want %d", l, r, id, height, got, want)
					}
				}
			}
		}
	})
}

func TestRuleMetStaysMet(t *testing.T) {
	signs := []impl.Sign{{Key: 1, Id: 1}, {Key: 3, Id: 1}, {Key: 2, Id: 2}, {Key: 2, Id: 1}, {Key: 4, Id: 1}}
	for _, r := range []impl.Rule{{Keys: []int64{1, 2, 3}, Need: 1, After: 5}, {Keys: []int64{1, 2, 3}, Need: 2, After: 5}, {Keys: []int64{1, 2, 3}, Need: 3, After: 5}, {Keys: []int64{2}, Need: 1}} {
		l := impl.Ledger{Texts: []string{"x", "y"}}
		wasMet := false
		for _, sign := range signs {
			l = impl.SignId(l, sign.Key, sign.Id).Ledger
			met := impl.RuleMet(l, r, 1, 7) == impl.OK
			if wasMet && !met {
				t.Errorf("%v: no longer met behind %v", r, sign)
			}
			wasMet = met
			if !met {
				continue
			}
			for height := int64(7); height <= 999; height++ {
				if code := impl.RuleMet(l, r, 1, height); code != impl.OK {
					t.Fatalf("%v: no longer met at %d: %d", r, height, code)
				}
			}
		}
		if !wasMet {
			t.Errorf("%v: never met", r)
		}
	}
}

func TestHowManyOfWhichSigned(t *testing.T) {
	texts := []string{"x", "y"}
	of := func(keys ...int64) []impl.Sign {
		var list []impl.Sign
		for _, key := range keys {
			list = append(list, impl.Sign{Key: key, Id: 1})
		}
		return list
	}
	rows := []struct {
		need  int64
		signs []impl.Sign
		code  int64
	}{
		{1, nil, impl.ErrSign},
		{1, of(2), impl.OK},
		{1, of(5), impl.OK},
		{1, of(9), impl.OK},
		{1, of(1, 3, 4, 6, 10), impl.ErrSign},
		{1, []impl.Sign{{Key: 2, Id: 2}, {Key: 5, Id: 2}}, impl.ErrSign},
		{2, of(5), impl.ErrSign},
		{2, of(5, 4), impl.ErrSign},
		{2, []impl.Sign{{Key: 5, Id: 1}, {Key: 5, Id: 2}}, impl.ErrSign},
		{2, of(9, 2), impl.OK},
		{2, of(9, 5, 2), impl.OK},
		{3, of(9, 2), impl.ErrSign},
		{3, of(9, 5, 2), impl.OK},
		{3, of(9, 7, 2, 1, 5), impl.OK},
	}
	for _, row := range rows {
		r := impl.Rule{Keys: []int64{2, 5, 9}, Need: row.need}
		if code := impl.RuleMet(impl.Ledger{Texts: texts, Signs: row.signs}, r, 1, 0); code != row.code {
			t.Errorf("need %d, signed %v: %d, want %d", row.need, row.signs, code, row.code)
		}
	}
}

func TestHeightsOfARule(t *testing.T) {
	l := impl.Ledger{Texts: []string{"x"}, Signs: []impl.Sign{{Key: 1, Id: 1}}}
	rows := []struct{ after, height, code int64 }{
		{0, -1, impl.ErrRange}, {0, 0, impl.OK}, {0, 999, impl.OK}, {0, 1000, impl.ErrRange},
		{9, 0, impl.ErrEarly}, {9, 8, impl.ErrEarly}, {9, 9, impl.OK}, {9, 10, impl.OK}, {9, 1000, impl.ErrRange}, {9, -1, impl.ErrRange},
		{999, 998, impl.ErrEarly}, {999, 999, impl.OK}, {999, 1000, impl.ErrRange},
		{0, math.MinInt64, impl.ErrRange}, {0, math.MaxInt64, impl.ErrRange}, {9, 1<<32 + 9, impl.ErrRange},
	}
	for _, row := range rows {
		if code := impl.RuleMet(l, impl.Rule{Keys: []int64{1}, Need: 1, After: row.after}, 1, row.height); code != row.code {
			t.Errorf("after %d at %d: %d, want %d", row.after, row.height, code, row.code)
		}
	}
}

func TestRuleMetTellsTheFirstCode(t *testing.T) {
	good := impl.Ledger{Texts: []string{"x"}}
	wrong := impl.Rule{Keys: []int64{2, 1}, Need: 1}
	for _, row := range faultRows() {
		if code := impl.RuleMet(row.ledger, impl.Rule{}, 0, -1); code != row.code {
			t.Errorf("%s: %d, want %d", row.name, code, row.code)
		}
	}
	for _, row := range wrongRules() {
		if code := impl.RuleMet(good, row.rule, 0, -1); code != row.code {
			t.Errorf("%v: %d, want %d", row.rule, code, row.code)
		}
	}
	late := impl.Rule{Keys: []int64{1}, Need: 1, After: 9}
	rows := []struct {
		rule             impl.Rule
		id, height, code int64
	}{
		{wrong, 2, 1000, impl.ErrForm},
		{late, 2, 8, impl.ErrRange},
		{late, 0, 8, impl.ErrRange},
		{late, -1, 8, impl.ErrRange},
		{late, math.MaxInt64, 9, impl.ErrRange},
		{late, 1, -1, impl.ErrRange},
		{late, 1, 8, impl.ErrEarly},
		{late, 1, 9, impl.ErrSign},
	}
	for _, row := range rows {
		if code := impl.RuleMet(good, row.rule, row.id, row.height); code != row.code {
			t.Errorf("%v of %d at %d: %d, want %d", row.rule, row.id, row.height, code, row.code)
		}
	}
	if code := impl.RuleMet(impl.Ledger{}, late, 1, 9); code != impl.ErrRange {
		t.Errorf("a ledger without texts: %d", code)
	}
}

func TestSameRules(t *testing.T) {
	rules := append(ordinaryRules(), impl.Rule{}, impl.Rule{Need: 1}, impl.Rule{After: 1},
		impl.Rule{Keys: []int64{5, 2}, Need: 1, After: 9}, impl.Rule{Keys: []int64{2, 5, 5}, Need: 1, After: 9}, impl.Rule{Keys: []int64{2}, Need: 1, After: 9},
		impl.Rule{Keys: []int64{2, 5}, Need: 2, After: 9}, impl.Rule{Keys: []int64{2, 5}, Need: 1, After: 8}, impl.Rule{Keys: []int64{2, 6}, Need: 1, After: 9},
		impl.Rule{Keys: []int64{2, 5}, Need: math.MaxInt64, After: math.MinInt64}, impl.Rule{Keys: []int64{1, 2, 3, 4}})
	for i, a := range rules {
		for j, b := range rules {
			again := impl.Rule{Keys: slices.Clone(b.Keys), Need: b.Need, After: b.After}
			if impl.SameRules(a, again) != (i == j) {
				t.Errorf("SameRules(%v, %v) = %v", a, again, i != j)
			}
		}
	}
	if !impl.SameRules(impl.Rule{Keys: []int64{}}, impl.Rule{}) || !impl.SameRules(impl.Rule{}, impl.Rule{Keys: []int64{}}) {
		t.Error("no keys are the same, empty or nil")
	}
}

// Promise 1: memory, nil and empty, the same again.

func TestRulesAreNotChanged(t *testing.T) {
	for _, given := range [][]int64{{2, 5}, {5, 2}, {2, 2}, {0, 1000}, {9, 8, 7, 6}, {}} {
		keys := append(slices.Clone(given), 77, 78)
		r := impl.Rule{Keys: keys[:len(given)], Need: 1, After: 9}
		was := slices.Clone(keys)
		l, texts, signs := roomy(ordinaryLedger())
		wasTexts, wasSigns := slices.Clone(texts), slices.Clone(signs)
		impl.RuleFault(r)
		impl.RuleMet(l, r, 1, 9)
		impl.RuleText(r)
		impl.SameRules(r, r)
		if !slices.Equal(keys, was) || !slices.Equal(texts, wasTexts) || !slices.Equal(signs, wasSigns) {
			t.Errorf("an argument was changed: %v, it was %v", keys, was)
		}
	}
}

func TestParsedRulesShareNoMemory(t *testing.T) {
	for _, text := range []string{"1 of 2,5 after 9", "1 of 2", "3 of 1,2,3"} {
		a, b := impl.ParseRule(text).Rule, impl.ParseRule(text).Rule
		want := slices.Clone(b.Keys)
		for i := range a.Keys[:cap(a.Keys)] {
			a.Keys[:cap(a.Keys)][i] = -9
		}
		if !slices.Equal(b.Keys, want) || !slices.Equal(impl.ParseRule(text).Rule.Keys, want) {
			t.Errorf("%q: who writes to one answer writes to another: %v", text, b)
		}
	}
}

func TestRulesHangOnTheArgumentsAlone(t *testing.T) {
	r := impl.Rule{Keys: []int64{2, 5}, Need: 1, After: 9}
	l := impl.Ledger{Texts: []string{"x"}, Signs: []impl.Sign{{Key: 5, Id: 1}}}
	for range 3 {
		if impl.RuleMet(l, r, 1, 9) != impl.OK || impl.RuleMet(impl.Ledger{Texts: l.Texts}, r, 1, 9) != impl.ErrSign {
			t.Error("RuleMet")
		}
		if impl.RuleText(r).Text != "1 of 2,5 after 9" || impl.RuleText(impl.Rule{Keys: []int64{5}, Need: 1}).Text != "1 of 5" {
			t.Error("RuleText")
		}
		if !impl.SameRules(impl.ParseRule("1 of 2,5 after 9").Rule, r) || impl.ParseRule("1 of 5,2").Code != impl.ErrText {
			t.Error("ParseRule")
		}
	}
	if a, b := impl.RuleFault(impl.Rule{Need: 1}), impl.RuleFault(impl.Rule{Keys: []int64{}, Need: 1}); a != b {
		t.Error("no keys, nil and empty", a, b)
	}
}
