package tests

import (
	"fmt"
	"math/rand"
	"regexp"
	"slices"
	"strconv"
	"strings"
	"testing"

	"loop.example/g00304/impl"
)

// The plain reading of chapter 16: what the program is held against. Lines are known by their form, and each call is that of the plain reading of its own chapter.

// plainSplit goes byte by byte.
func plainSplit(line string) []string {
	var words []string
	word := ""
	for i := range len(line) {
		if line[i] != 32 {
			word += line[i : i+1]
		} else if word != "" {
			words, word = append(words, word), ""
		}
	}
	if word != "" {
		words = append(words, word)
	}
	return words
}

const numberForm = ` +(0|[1-9][0-9]{0,2})`

// lineForms has the form of each line but a note: blanks may stand ahead and behind, and several between.
var lineForms = map[string]*regexp.Regexp{
	"sign":  regexp.MustCompile(`^ *sign` + numberForm + numberForm + ` *$`),
	"take":  regexp.MustCompile(`^ *take` + numberForm + ` *$`),
	"lock":  regexp.MustCompile(`^ *lock` + numberForm + ` *$`),
	"add":   regexp.MustCompile(`^ *add` + numberForm + ` *$`),
	"favor": regexp.MustCompile(`^ *favor` + numberForm + ` *$`),
	"mine":  regexp.MustCompile(`^ *mine` + numberForm + ` *$`),
	"show":  regexp.MustCompile(`^ *show *$`),
	"":      regexp.MustCompile(`^ *$`),
}

// plainAsked tells the word of a line, and its numbers.
func plainAsked(line string) (string, []int64, bool) {
	for word, form := range lineForms {
		found := form.FindStringSubmatch(line)
		if found == nil {
			continue
		}
		var numbers []int64
		for _, digits := range found[1:] {
			number, _ := strconv.ParseInt(digits, 10, 64)
			numbers = append(numbers, number)
		}
		return word, numbers, true
	}
	return "", nil, false
}

func plainCoinsText(list []impl.Coin) impl.TextResult {
	if code := plainCoinsFault(list); code != impl.OK {
		return impl.TextResult{Code: code}
	}
	text := ""
	for _, coin := range list {
		text += fmt.Sprintf("coin %d:%d %d %s\n", coin.Ref.Tx, coin.Ref.At, coin.Out.Value, plainRuleText(coin.Out.Rule).Text)
	}
	return impl.TextResult{Text: text}
}

func plainChainText(c impl.Chain) impl.TextResult {
	if code := plainChainFault(c); code != impl.OK {
		return impl.TextResult{Code: code}
	}
	text := fmt.Sprintf("tip %d %d\ntree %d\nlocks", c.State.Tip, c.State.Height, len(c.Tree))
	for _, id := range c.Locks {
		text += fmt.Sprintf(" %d", id)
	}
	text += "\nmembers"
	for _, m := range c.State.Members {
		text += fmt.Sprintf(" %d", m.Key)
	}
	return impl.TextResult{Text: text + "\n" + plainCoinsText(c.State.Coins).Text}
}

func plainFollow(r impl.ChainResult, pool []int64, said string) impl.ScriptResult {
	if r.Code != impl.OK {
		return impl.ScriptResult{Code: r.Code}
	}
	return impl.ScriptResult{Chain: r.Chain, Pool: plainTrimPool(r.Chain.Ledger, r.Chain.State, pool).Pool, Said: said}
}

func plainKeepPool(c impl.Chain, r impl.PoolResult) impl.ScriptResult {
	if r.Code != impl.OK {
		return impl.ScriptResult{Code: r.Code}
	}
	said := "pool"
	for _, id := range r.Pool {
		said += fmt.Sprintf(" %d", id)
	}
	return impl.ScriptResult{Chain: c, Pool: r.Pool, Said: said}
}

func plainTurn(c impl.Chain, pool []int64, r impl.LedgerResult, said string) impl.ScriptResult {
	if r.Code != impl.OK {
		return impl.ScriptResult{Code: r.Code}
	}
	c.Ledger = r.Ledger
	return impl.ScriptResult{Chain: c, Pool: pool, Said: said}
}

func plainMine(c impl.Chain, pool []int64, miner int64) impl.ScriptResult {
	mined := plainMineBlock(c.Ledger, c.State, pool, miner)
	if mined.Code != impl.OK {
		return impl.ScriptResult{Code: mined.Code}
	}
	noted := plainNote(c.Ledger, plainBlockText(mined.Block).Text)
	if noted.Code != impl.OK {
		return impl.ScriptResult{Code: noted.Code}
	}
	c.Ledger = noted.Ledger
	return plainFollow(plainTakeBlock(c, noted.Id), pool, fmt.Sprintf("block %d", noted.Id))
}

// plainLine asks no fault.
func plainLine(c impl.Chain, pool []int64, line string) impl.ScriptResult {
	if strings.IndexByte(line, 10) >= 0 {
		return impl.ScriptResult{Code: impl.ErrText}
	}
	if len(line) >= 6 && line[:5] == "note " {
		noted := plainNote(c.Ledger, line[5:])
		return plainTurn(c, pool, noted, fmt.Sprint(noted.Id))
	}
	word, numbers, found := plainAsked(line)
	if !found {
		return impl.ScriptResult{Code: impl.ErrText}
	}
	switch word {
	case "sign":
		return plainTurn(c, pool, plainSign(c.Ledger, numbers[0], numbers[1]), "ok")
	case "take":
		r := plainTakeBlock(c, numbers[0])
		return plainFollow(r, pool, fmt.Sprintf("moved %d", r.Moved))
	case "lock":
		r := plainLockBlock(c, numbers[0])
		return plainFollow(r, pool, fmt.Sprintf("moved %d", r.Moved))
	case "add":
		return plainKeepPool(c, plainAddPool(c.Ledger, c.State, pool, numbers[0]))
	case "favor":
		return plainKeepPool(c, plainFavorPool(c.Ledger, c.State, pool, numbers[0]))
	case "mine":
		return plainMine(c, pool, numbers[0])
	case "show":
		return impl.ScriptResult{Chain: c, Pool: pool, Said: plainChainText(c).Text}
	}
	return impl.ScriptResult{Chain: c, Pool: pool}
}

func plainStep(c impl.Chain, pool []int64, line string) impl.ScriptResult {
	if code := plainChainFault(c); code != impl.OK {
		return impl.ScriptResult{Code: code}
	}
	if code := plainPoolFault(c.Ledger, c.State, pool); code != impl.OK {
		return impl.ScriptResult{Code: code}
	}
	return plainLine(c, pool, line)
}

// plainLines goes byte by byte.
func plainLines(text string) []string {
	var lines []string
	line := ""
	for i := range len(text) {
		if text[i] != 10 {
			line += text[i : i+1]
		} else {
			lines, line = append(lines, line), ""
		}
	}
	if line != "" {
		lines = append(lines, line)
	}
	return lines
}

func plainRun(c impl.Chain, text string) impl.ScriptResult {
	if code := plainChainFault(c); code != impl.OK {
		return impl.ScriptResult{Code: code}
	}
	if len(text) > 1200 || len(plainLines(text)) > 40 {
		return impl.ScriptResult{Code: impl.ErrMany}
	}
	r := impl.ScriptResult{Chain: c}
	said := ""
	for _, line := range plainLines(text) {
		step := plainLine(r.Chain, r.Pool, line)
		if step.Code != impl.OK {
			said += fmt.Sprintf("! %d\n", step.Code)
			continue
		}
		r = step
		said += step.Said
		if step.Said != "" && step.Said[len(step.Said)-1] != 10 {
			said += "\n"
		}
	}
	r.Said = said
	return r
}

func sameScripts(a, b impl.ScriptResult) bool {
	return a.Code == b.Code && isSameChain(a.Chain, b.Chain) && slices.Equal(a.Pool, b.Pool) && a.Said == b.Said
}

// holdLine holds a step against the plain reading, and what it leaves against the promise.
func holdLine(t *testing.T, name string, c impl.Chain, pool []int64, line string) impl.ScriptResult {
	t.Helper()
	was, wasPool := copyChain(c), slices.Clone(pool)
	r, want := impl.StepScript(c, pool, line), plainStep(c, pool, line)
	if !sameScripts(r, want) {
		t.Fatalf("%s: %v, %q = %v, want %v", name, pool, line, r, want)
	}
	if !isSameChain(c, was) || !slices.Equal(pool, wasPool) {
		t.Fatalf("%s: %q changed an argument: %v %v", name, line, c, pool)
	}
	holdLeft(t, name, r)
	return r
}

func holdScript(t *testing.T, name string, c impl.Chain, text string) impl.ScriptResult {
	t.Helper()
	was := copyChain(c)
	r, want := impl.RunScript(c, text), plainRun(c, text)
	if !sameScripts(r, want) {
		t.Fatalf("%s: %q = %v, want %v", name, text, r, want)
	}
	if !isSameChain(c, was) {
		t.Fatalf("%s: %q changed an argument: %v", name, text, c)
	}
	holdLeft(t, name, r)
	if r.Code == impl.OK {
		holdLineByLine(t, name, c, text, r)
	}
	return r
}

// Promise 17, in its own words: what is held here asks no plain reading.

// holdLeft: what a line or a script leaves has no fault; beside a code there is nothing.
func holdLeft(t *testing.T, name string, r impl.ScriptResult) {
	t.Helper()
	if r.Code != impl.OK {
		if !sameScripts(r, impl.ScriptResult{Code: r.Code}) {
			t.Fatalf("%s: beside the code %d there is %v", name, r.Code, r)
		}
		return
	}
	if code := impl.ChainFault(r.Chain); code != impl.OK {
		t.Fatalf("%s: the chain %v is left with the fault %d", name, r.Chain, code)
	}
	if code := impl.PoolFault(r.Chain.Ledger, r.Chain.State, r.Pool); code != impl.OK {
		t.Fatalf("%s: the pool %v is left with the fault %d", name, r.Pool, code)
	}
}

// holdLineByLine: a script does line by line what its steps do.
func holdLineByLine(t *testing.T, name string, c impl.Chain, text string, r impl.ScriptResult) {
	t.Helper()
	at, said := impl.ScriptResult{Chain: c}, ""
	for text != "" {
		line, rest, _ := strings.Cut(text, "\n")
		text = rest
		step := impl.StepScript(at.Chain, at.Pool, line)
		if step.Code != impl.OK {
			said += "! " + strconv.FormatInt(step.Code, 10) + "\n"
			continue
		}
		at = step
		if step.Said != "" {
			said += strings.TrimSuffix(step.Said, "\n") + "\n"
		}
	}
	at.Said = said
	if !sameScripts(r, at) {
		t.Fatalf("%s: the script leads to %v, its steps lead to %v", name, r, at)
	}
}

// holdTold: of each coin a line is told, by which it is known again.
func holdTold(t *testing.T, name string, text string, coins []impl.Coin) {
	t.Helper()
	lines := strings.SplitAfter(text, "\n")
	if len(lines) != len(coins)+1 || lines[len(coins)] != "" {
		t.Fatalf("%s: of %d coins there is %q", name, len(coins), text)
	}
	for i, coin := range coins {
		var ref impl.Ref
		var value int64
		line := strings.TrimSuffix(lines[i], "\n")
		if _, err := fmt.Sscanf(line, "coin %d:%d %d", &ref.Tx, &ref.At, &value); err != nil {
			t.Fatalf("%s: %q: %v", name, line, err)
		}
		words := strings.SplitN(line, " ", 4)
		rule := impl.ParseRule(words[3])
		if ref != coin.Ref || value != coin.Out.Value || rule.Code != impl.OK || !impl.SameRules(rule.Rule, coin.Out.Rule) {
			t.Fatalf("%s: of %v there is %q", name, coin, line)
		}
	}
}

// WordsOf.

func TestWordsOf(t *testing.T) {
	for _, row := range []struct {
		line  string
		words []string
	}{
		{"", nil},
		{" ", nil},
		{"      ", nil},
		{"a", []string{"a"}},
		{"take", []string{"take"}},
		{"take 4", []string{"take", "4"}},
		{" take 4", []string{"take", "4"}},
		{"take 4 ", []string{"take", "4"}},
		{"   take   4   ", []string{"take", "4"}},
		{"a b c d e", []string{"a", "b", "c", "d", "e"}},
		{" a  b ", []string{"a", "b"}},
		{"a a a", []string{"a", "a", "a"}},
		{"a\tb", []string{"a\tb"}},
		{"\t", []string{"\t"}},
		{"\t \t", []string{"\t", "\t"}},
		{"a\nb c\n", []string{"a\nb", "c\n"}},
		{"\n", []string{"\n"}},
		{"a\rb\vc\fd", []string{"a\rb\vc\fd"}},
		{"\x00 \x01", []string{"\x00", "\x01"}},
		{"\x1f \x21", []string{"\x1f", "!"}},
		{"a\u00a0b", []string{"a\u00a0b"}},
		{"a\u2003b\u3000c\u0085d", []string{"a\u2003b\u3000c\u0085d"}},
		{"\xff \x80 \xa0", []string{"\xff", "\x80", "\xa0"}},
		{"\xe2\x80 \x83", []string{"\xe2\x80", "\x83"}},
		{"grün ä", []string{"grün", "ä"}},
		{strings.Repeat("x", 5000), []string{strings.Repeat("x", 5000)}},
	} {
		r := impl.WordsOf(row.line)
		if r.Code != impl.OK || !slices.Equal(r.Words, row.words) || !slices.Equal(plainSplit(row.line), row.words) {
			t.Errorf("%q: %v", row.line, r)
		}
	}
	if r := impl.WordsOf(strings.Repeat(" a", 3000)); r.Code != impl.OK || len(r.Words) != 3000 || r.Words[2999] != "a" {
		t.Error(len(r.Words))
	}
}

// Each line of up to six of some bytes: in order its words are all that is no blank, and ahead and behind of each of them there is a blank or none more.
func TestWordsOfEachShortLine(t *testing.T) {
	listsOf([]byte{' ', 'a', '\t', '\n', 0xff, '0'}, 6, func(list []byte) {
		line := string(list)
		r := impl.WordsOf(line)
		if r.Code != impl.OK || !slices.Equal(r.Words, plainSplit(line)) {
			t.Fatalf("%q: %v", line, r)
		}
		if strings.Join(r.Words, "") != strings.ReplaceAll(line, " ", "") {
			t.Fatalf("%q: %v", line, r)
		}
		rest := line
		for _, word := range r.Words {
			at := strings.Index(rest, word)
			if word == "" || strings.Contains(word, " ") || at < 0 || strings.Trim(rest[:at], " ") != "" {
				t.Fatalf("%q: %v", line, r)
			}
			rest = rest[at+len(word):]
			if rest != "" && rest[0] != ' ' {
				t.Fatalf("%q: %q is not the longest piece", line, word)
			}
		}
	})
}

func TestWordsOfEachByte(t *testing.T) {
	for b := range 256 {
		one := string([]byte{byte(b)})
		r := impl.WordsOf("a" + one + "b" + one)
		want := []string{"a" + one + "b" + one}
		if b == 32 {
			want = []string{"a", "b"}
		}
		if r.Code != impl.OK || !slices.Equal(r.Words, want) {
			t.Errorf("the byte %d: %v", b, r)
		}
	}
}

// CoinsText.

func TestCoinsText(t *testing.T) {
	for _, row := range []struct {
		name  string
		coins []impl.Coin
		text  string
	}{
		{"none", nil, ""},
		{"an empty list", []impl.Coin{}, ""},
		{"one", []impl.Coin{coinOf(1, 0, 5, 2)}, "coin 1:0 5 1 of 2\n"},
		{"the last one that there may be", []impl.Coin{coinWith(60, 3, 1000000, 999, true, ruleWith(3, 999, 997, 998, 999))}, "coin 60:3 1000000 3 of 997,998,999 after 999\n"},
		{"After", []impl.Coin{coinWith(7, 1, 30, 2, false, ruleWith(1, 9, 4))}, "coin 7:1 30 1 of 4 after 9\n"},
		{"mined, at another height", []impl.Coin{minedCoin(3, 1000, 4, 8)}, "coin 3:0 1000 1 of 8\n"},
		{"several", []impl.Coin{coinOf(1, 0, 5, 2), coinOf(1, 3, 6, 2, 7), coinWith(2, 0, 1, 0, false, ruleWith(2, 1, 1, 2, 3)), minedCoin(10, 12, 3, 4)},
			"coin 1:0 5 1 of 2\ncoin 1:3 6 1 of 2,7\ncoin 2:0 1 2 of 1,2,3 after 1\ncoin 10:0 12 1 of 4\n"},
	} {
		if r := impl.CoinsText(row.coins); r != (impl.TextResult{Text: row.text}) || r != plainCoinsText(row.coins) {
			t.Errorf("%s: %v", row.name, r)
		}
		holdTold(t, row.name, row.text, row.coins)
	}
	codes := map[int64]int{}
	for _, row := range wrongCoins() {
		codes[row.code]++
		if r := impl.CoinsText(row.coins); r != (impl.TextResult{Code: row.code}) {
			t.Errorf("%s: %v", row.name, r)
		}
	}
	for _, code := range []int64{impl.ErrMany, impl.ErrRange, impl.ErrForm} {
		if codes[code] == 0 {
			t.Errorf("no coins with the code %d", code)
		}
	}
}

func TestCoinsTextOfMany(t *testing.T) {
	dice := rand.New(rand.NewSource(16))
	lists := [][]impl.Coin{manyCoins(impl.MaxCoins), ordinaryCoins(), purseOf(), richState().Coins, spentCoins()}
	for range 300 {
		var list []impl.Coin
		for tx := int64(1); tx <= 60 && len(list) < impl.MaxCoins; tx += 1 + dice.Int63n(9) {
			for at := dice.Int63n(4); at < 4 && len(list) < impl.MaxCoins; at += 1 + dice.Int63n(4) {
				rule := ruleWith(1, dice.Int63n(3)*dice.Int63n(500), 1+dice.Int63n(300))
				for len(rule.Keys) < 3 && dice.Intn(2) == 0 {
					rule.Keys = append(rule.Keys, rule.Keys[len(rule.Keys)-1]+1+dice.Int63n(300))
					rule.Need = 1 + dice.Int63n(int64(len(rule.Keys)))
				}
				list = append(list, coinWith(tx, at, 1+dice.Int63n(1000000), dice.Int63n(1000), dice.Intn(2) == 0, rule))
			}
		}
		lists = append(lists, list)
	}
	for _, list := range lists {
		was := copyCoins(list)
		r := impl.CoinsText(list)
		if r.Code != impl.OK || r != plainCoinsText(list) || !plainSameCoins(list, was) {
			t.Fatalf("%v: %v", list, r)
		}
		holdTold(t, "many", r.Text, list)
	}
}

// ChainText.

func TestChainText(t *testing.T) {
	l, ids := story()
	for _, row := range []struct {
		name  string
		chain impl.Chain
		text  string
	}{
		{"nothing at all", impl.Chain{}, "tip 0 0\ntree 0\nlocks\nmembers\n"},
		{"a ledger alone", impl.Chain{Ledger: l}, "tip 0 0\ntree 0\nlocks\nmembers\n"},
		{"one block", chainOf(l, nil, 1), "tip 1 1\ntree 1\nlocks\nmembers\ncoin 1:0 1000 1 of 2\n"},
		{"a lock", chainOf(l, []int64{1}, 1), "tip 1 1\ntree 1\nlocks 1\nmembers\ncoin 1:0 1000 1 of 2\n"},
		{"locks in their own order, one twice", chainOf(l, []int64{2, 1, 2}, 1, 2), "tip 2 2\ntree 2\nlocks 2 1 2\nmembers\ncoin 1:0 1000 1 of 2\ncoin 2:0 1000 1 of 2\n"},
		{"a member", chainOf(l, nil, ids[:3]...), "tip 6 3\ntree 3\nlocks\nmembers 3\ncoin 2:0 1000 1 of 2\ncoin 4:0 200 1 of 3\ncoin 4:1 390 1 of 3\ncoin 5:0 300 1 of 5 after 5\ncoin 6:0 1110 1 of 7\n"},
		{"two members and a lock", chainOf(l, []int64{6}, ids[:4]...), "tip 8 4\ntree 4\nlocks 6\nmembers 3 4\ncoin 2:0 1000 1 of 2\ncoin 4:0 200 1 of 3\ncoin 5:0 300 1 of 5 after 5\ncoin 6:0 1110 1 of 7\ncoin 7:0 150 1 of 4\ncoin 7:1 240 1 of 4\ncoin 8:0 1000 1 of 7\n"},
		{"a branch that is not so high", chainOf(orchard(), nil, 1, 2, 17, 6, 22), "tip 6 3\ntree 5\nlocks\nmembers 3\ncoin 2:0 1000 1 of 2\ncoin 4:0 200 1 of 3\ncoin 4:1 390 1 of 3\ncoin 5:0 300 1 of 5 after 5\ncoin 6:0 1110 1 of 7\n"},
		{"a lock on a branch", chainOf(orchard(), []int64{17}, 1, 2, 17, 6), "tip 17 2\ntree 4\nlocks 17\nmembers\ncoin 1:0 1000 1 of 2\ncoin 17:0 1000 1 of 9\n"},
	} {
		if r := impl.ChainText(row.chain); r != (impl.TextResult{Text: row.text}) || r != plainChainText(row.chain) {
			t.Errorf("%s: %v", row.name, r)
		}
	}
}

func TestChainTextOfManyChains(t *testing.T) {
	rows := append(rightChains(), wrongChains()...)
	rows = append(rows, faultyChain{"a tree of sixty", chainOf(lineOf(40, manyTxs(20)...), nil, manyTxs(60)...), impl.OK})
	codes := map[int64]int{}
	for _, row := range rows {
		was := copyChain(row.chain)
		r := impl.ChainText(row.chain)
		if r.Code != row.code || r != plainChainText(row.chain) || !isSameChain(row.chain, was) {
			t.Fatalf("%s: %v", row.name, r)
		}
		if codes[r.Code]++; r.Code != impl.OK {
			continue
		}
		head := strings.SplitAfterN(r.Text, "\n", 5)
		if len(head) != 5 {
			t.Fatalf("%s: %v", row.name, r)
		}
		holdTold(t, row.name, head[4], row.chain.State.Coins)
	}
	for _, row := range faultRows() {
		if r := impl.ChainText(impl.Chain{Ledger: row.ledger}); r != (impl.TextResult{Code: row.code}) {
			t.Errorf("%s: %v", row.name, r)
		}
	}
	if len(codes) < 9 {
		t.Errorf("but these codes were seen: %v", codes)
	}
}

// The ledger of the scripts: two blocks behind each other, from which two branches part, and transactions that go with one of them or with both. 5 has the key 5 join, 11 spends what it holds, 10 has it leave.
func booth() impl.Ledger {
	return ledgerBy(
		by("block 0 1 2 -"),
		by("block 1 2 2 -"),
		by("pay 1:0 900=1_of_3", 2),
		by("pay 1:0 950=1_of_3", 2),
		by("join 5 2:0 500=1_of_5 490=1_of_2", 2),
		by("block 2 3 7 -"),
		by("block 2 3 8 3"),
		by("block 7 4 8 -"),
		by("block 6 4 7 5"),
		by("leave 5 5:1 490=1_of_2", 2, 5),
		by("pay 5:0 500=1_of_5", 5),
		by("pay 3:0 900=1_of_2_after_6", 3),
		by("block 9 5 7 -"),
		by("a text"),
		by("pay 1:0 2000=1_of_3", 2),
		by("block 6 4 9 15"),
		by("pay 1:0 1=1_of_3"),
		by("block 6 4 9 17"),
		by("block 13 6 9 10"),
		by("pay 2:0 1000=1_of_3", 2),
	)
}

// fair stands behind 6; 7 is as high, but came later.
func fair() impl.Chain {
	return chainOf(booth(), []int64{2}, 1, 2, 6, 7)
}

// joined stands behind 13, where the key 5 is a member.
func joined() impl.Chain {
	return chainOf(booth(), nil, 1, 2, 6, 7, 9, 13)
}

const fairText = "tip 6 3\ntree 4\nlocks 2\nmembers\ncoin 1:0 1000 1 of 2\ncoin 2:0 1000 1 of 2\ncoin 6:0 1000 1 of 7\n"

// stepRow: what is said, where the chain stands, how many texts, signatures, nodes and locks there are, and the pool.
type stepRow struct {
	line   string
	code   int64
	said   string
	tip    int64
	counts []int
	pool   []int64
}

func countsOf(c impl.Chain) []int {
	return []int{len(c.Ledger.Texts), len(c.Ledger.Signs), len(c.Tree), len(c.Locks)}
}

func holdStepRows(t *testing.T, name string, c impl.Chain, pool []int64, rows []stepRow) {
	t.Helper()
	if code := impl.ChainFault(c); code != impl.OK {
		t.Fatalf("%s: it begins with the fault %d", name, code)
	}
	for _, row := range rows {
		r := holdLine(t, name, c, pool, row.line)
		if row.code != impl.OK {
			if r.Code != row.code {
				t.Errorf("%s: %q: the code %d, want %d", name, row.line, r.Code, row.code)
			}
			continue
		}
		if r.Code != impl.OK || r.Said != row.said || r.Chain.State.Tip != row.tip || !slices.Equal(countsOf(r.Chain), row.counts) || !slices.Equal(r.Pool, row.pool) {
			t.Errorf("%s: %q: the code %d, %q, the tip %d, %v, the pool %v, want %v", name, row.line, r.Code, r.Said, r.Chain.State.Tip, countsOf(r.Chain), r.Pool, row)
		}
	}
}

// codeRow is a line that has a code.
func codeRow(line string, code int64) stepRow {
	return stepRow{line: line, code: code}
}

func TestStepsAtAFair(t *testing.T) {
	same := []int{20, 9, 4, 1}
	full := []int64{3, 5}
	holdStepRows(t, "a fair", fair(), full, []stepRow{
		{"", 0, "", 6, same, full},
		{" ", 0, "", 6, same, full},
		{"        ", 0, "", 6, same, full},
		{"show", 0, fairText, 6, same, full},
		{"  show   ", 0, fairText, 6, same, full},

		{"note new", 0, "21", 6, []int{21, 9, 4, 1}, full},
		{"note a text", 0, "14", 6, same, full},
		{"note block 0 1 2 -", 0, "1", 6, same, full},
		{"note block 2 3 7 -", 0, "6", 6, same, full},

		{"sign 9 14", 0, "ok", 6, []int{20, 10, 4, 1}, full},
		{"sign 2 3", 0, "ok", 6, same, full},
		{"sign 2 17", 0, "ok", 6, []int{20, 10, 4, 1}, full},

		{"take 8", 0, "moved 3", 8, []int{20, 9, 5, 1}, []int64{5}},
		{"take 9", 0, "moved 1", 9, []int{20, 9, 5, 1}, []int64{3}},
		codeRow("take 13", impl.ErrNone),

		{"lock 7", 0, "moved 2", 7, []int{20, 9, 4, 2}, []int64{5}},
		{"lock 6", 0, "moved 0", 6, []int{20, 9, 4, 2}, full},
		{"lock 1", 0, "moved 0", 6, []int{20, 9, 4, 2}, full},
		{"lock 2", 0, "moved 0", 6, same, full},
		codeRow("lock 8", impl.ErrNone),

		codeRow("add 3", impl.ErrTaken),
		codeRow("add 4", impl.ErrTaken),
		codeRow("add 20", impl.ErrTaken),
		codeRow("add 12", impl.ErrNone),
		{"favor 3", 0, "pool 5 3", 6, same, []int64{5, 3}},
		{"favor 4", 0, "pool 5 4", 6, same, []int64{5, 4}},
		{"favor 20", 0, "pool 3 20", 6, same, []int64{3, 20}},
		codeRow("favor 15", impl.ErrValue),

		{"mine 9", 0, "block 21", 21, []int{21, 9, 5, 1}, nil},
		codeRow("mine 0", impl.ErrRange),
	})
	r := holdLine(t, "what is mined", fair(), full, "mine 9")
	if read := impl.BlockIn(r.Chain.Ledger, 21); !sameBlockResults(read, impl.BlockResult{Block: blockOf(6, 4, 9, 3, 5)}) || !slices.Equal(impl.KeysOf(r.Chain.State.Members).List, []int64{5}) {
		t.Error(read)
	}
}

func TestStepsOfANewChain(t *testing.T) {
	same := []int{20, 9, 0, 0}
	holdStepRows(t, "a new chain", impl.Chain{Ledger: booth()}, nil, []stepRow{
		{"", 0, "", 0, same, nil},
		{"show", 0, "tip 0 0\ntree 0\nlocks\nmembers\n", 0, same, nil},
		{"take 1", 0, "moved 1", 1, []int{20, 9, 1, 0}, nil},
		{"mine 2", 0, "block 1", 1, []int{20, 9, 1, 0}, nil},
		{"mine 3", 0, "block 21", 21, []int{21, 9, 1, 0}, nil},
		codeRow("take 2", impl.ErrNone),
		codeRow("lock 1", impl.ErrNone),
		codeRow("lock 0", impl.ErrNone),
		codeRow("add 3", impl.ErrNone),
		codeRow("favor 3", impl.ErrNone),
	})
	holdStepRows(t, "nothing at all", impl.Chain{}, nil, []stepRow{
		{"", 0, "", 0, []int{0, 0, 0, 0}, nil},
		{"show", 0, "tip 0 0\ntree 0\nlocks\nmembers\n", 0, []int{0, 0, 0, 0}, nil},
		{"note x", 0, "1", 0, []int{1, 0, 0, 0}, nil},
		{"mine 999", 0, "block 1", 1, []int{1, 0, 1, 0}, nil},
		codeRow("take 1", impl.ErrRange),
		codeRow("add 1", impl.ErrRange),
		codeRow("favor 1", impl.ErrRange),
		codeRow("lock 1", impl.ErrNone),
		codeRow("sign 1 1", impl.ErrRange),
	})
}

// What a line may look like.
func TestLinesThatAreNone(t *testing.T) {
	for _, line := range []string{
		"\n", "show\n", "\nshow", "sh\now", "\n\n", " \n ", "note a\n", "note \n", "note a\nb", "\nnote a", "take 8\n", "take\n8", "take 8\nshow",
		"wink", "a", "?", "0", "8", "8 take", "note", "notes", "note\ta", "note\u00a0a", "Note a", "NOTE a", "notea", " note a", "  note  ", "note ", "not e", "\tnote a",
		"Show", "SHOW", "show show", "show 1", "show 0", "sho", "shows", "show\t", "\tshow", "show\r", "show\x00", "show\u00a0", "\u00a0",
		"take", "take ", "take 8 8", "take 8 show", "takes 8", "take8", "take\t8", "Take 8", "take take", "take x", "take 8,", "take: 8",
		"lock", "lock 2 2", "lock2", "lock two", "locks 2", "Lock 2",
		"add", "add 3 5", "add3", "add three", "adds 3", "ADD 3",
		"favor", "favor 3 5", "favor3", "favour 3", "favor x",
		"mine", "mine 9 9", "mine9", "mine nine", "mines 9", "mined 9",
		"sign", "sign 9", "sign 9 14 1", "sign 9 x", "sign x 14", "sign914", "sign 9,14", "sign 9\t14", "signs 9 14", "sign 9 14 show",
		"pool", "pool 3", "moved 0", "block 1", "ok", "tip 6 3", "tree 4", "! 6", "\x00", "\xff", "take \xff", "t\xffake 8",
		strings.Repeat("x", 100000), "take " + strings.Repeat("8", 100000), strings.Repeat("take ", 20000), "take 8" + strings.Repeat(" 8", 20000),
	} {
		if r := holdLine(t, "no line", fair(), []int64{3, 5}, line); r.Code != impl.ErrText {
			t.Errorf("%q: %v", line, r)
		}
	}
	for _, line := range []string{"take 8", " take 8", "take 8 ", "take  8", "    take      8    ", strings.Repeat(" ", 100000) + "take 8"} {
		if r := holdLine(t, "a line", fair(), []int64{3, 5}, line); r.Code != impl.OK || r.Said != "moved 3" {
			t.Errorf("%q: %v", line, r)
		}
	}
	for _, line := range []string{"sign 9 14", "   sign   9   14   "} {
		if r := holdLine(t, "a line", fair(), []int64{3, 5}, line); r.Code != impl.OK || r.Said != "ok" {
			t.Errorf("%q: %v", line, r)
		}
	}
}

// What a number may look like. Where it is one, the call has the word: 8 can be taken, and of the others each is no number of a text, or that of a block which is there.
func TestNumbersOfLines(t *testing.T) {
	for _, row := range []struct {
		number string
		code   int64
	}{
		{"8", impl.OK}, {"1", impl.ErrTaken}, {"6", impl.ErrTaken}, {"0", impl.ErrRange}, {"21", impl.ErrRange}, {"60", impl.ErrRange}, {"61", impl.ErrRange},
		{"99", impl.ErrRange}, {"100", impl.ErrRange}, {"800", impl.ErrRange}, {"999", impl.ErrRange},
		{"08", impl.ErrText}, {"008", impl.ErrText}, {"0008", impl.ErrText}, {"00", impl.ErrText}, {"000", impl.ErrText}, {"01", impl.ErrText}, {"099", impl.ErrText},
		{"1000", impl.ErrText}, {"8000", impl.ErrText}, {"9999", impl.ErrText}, {"18446744073709551624", impl.ErrText}, {"9223372036854775807", impl.ErrText},
		{"+8", impl.ErrText}, {"-8", impl.ErrText}, {"-0", impl.ErrText}, {"+0", impl.ErrText}, {"--8", impl.ErrText}, {"8-", impl.ErrText}, {"-", impl.ErrText},
		{"8a", impl.ErrText}, {"a8", impl.ErrText}, {"8.", impl.ErrText}, {"8.0", impl.ErrText}, {"8e0", impl.ErrText}, {"0x8", impl.ErrText}, {"0b1", impl.ErrText}, {"1_0", impl.ErrText},
		{"8\t", impl.ErrText}, {"8\r", impl.ErrText}, {"8\x00", impl.ErrText}, {"8/", impl.ErrText}, {"8:", impl.ErrText}, {"\uff18", impl.ErrText}, {"\u0668", impl.ErrText}, {"8\xff", impl.ErrText},
	} {
		if r := holdLine(t, "a number", fair(), nil, "take "+row.number); r.Code != row.code {
			t.Errorf("%q: %v", row.number, r)
		}
		code := row.code
		if code == impl.OK || code == impl.ErrTaken {
			code = impl.OK
		}
		if r := holdLine(t, "a number", fair(), nil, "sign 9 "+row.number); r.Code != code {
			t.Errorf("to be signed, %q: %v", row.number, r)
		}
		isKey := row.code != impl.ErrText && row.number != "0"
		if r := holdLine(t, "a number", fair(), nil, "sign "+row.number+" 14"); (r.Code == impl.OK) != isKey || row.code == impl.ErrText && r.Code != impl.ErrText || row.number == "0" && r.Code != impl.ErrRange {
			t.Errorf("a key, %q: %v", row.number, r)
		}
		if r := holdLine(t, "a number", fair(), nil, "mine "+row.number); (r.Code == impl.OK) != isKey {
			t.Errorf("a miner, %q: %v", row.number, r)
		}
	}
	for number := int64(0); number <= 1100; number++ {
		want := impl.ErrText
		switch {
		case number == 0:
			want = impl.ErrRange
		case number <= 999:
			want = impl.OK
		}
		if r := impl.StepScript(impl.Chain{}, nil, fmt.Sprint("mine ", number)); r.Code != int64(want) {
			t.Errorf("%d: %v", number, r)
		}
	}
}

// note.

func TestNotes(t *testing.T) {
	same := []int{20, 9, 4, 1}
	more := []int{21, 9, 4, 1}
	pool := []int64{3, 5}
	holdStepRows(t, "notes", fair(), pool, []stepRow{
		{"note  ", 0, "21", 6, more, pool},
		{"note      ", 0, "21", 6, more, pool},
		{"note  a text", 0, "21", 6, more, pool},
		{"note a text ", 0, "21", 6, more, pool},
		{"note a  text", 0, "21", 6, more, pool},
		{"note a text", 0, "14", 6, same, pool},
		{"note x", 0, "21", 6, more, pool},
		{"note 0", 0, "21", 6, more, pool},
		{"note \t", 0, "21", 6, more, pool},
		{"note \r", 0, "21", 6, more, pool},
		{"note \x00", 0, "21", 6, more, pool},
		{"note \xff\xfe", 0, "21", 6, more, pool},
		{"note note x", 0, "21", 6, more, pool},
		{"note take 8", 0, "21", 6, more, pool},
		{"note show", 0, "21", 6, more, pool},
		{"note pay 1:0 1=1_of_3", 0, "17", 6, same, pool},
		{"note " + strings.Repeat("x", 299), 0, "21", 6, more, pool},
		{"note " + strings.Repeat("x", 300), 0, "21", 6, more, pool},
		{"note " + strings.Repeat(" ", 300), 0, "21", 6, more, pool},
		{"note " + strings.Repeat("ä", 150), 0, "21", 6, more, pool},
		codeRow("note "+strings.Repeat("x", 301), impl.ErrMany),
		codeRow("note "+strings.Repeat(" ", 301), impl.ErrMany),
		codeRow("note "+strings.Repeat("ä", 151), impl.ErrMany),
		codeRow("note "+strings.Repeat("x", 100000), impl.ErrMany),
		codeRow("note "+strings.Repeat("x", 400)+"\n", impl.ErrText),
		codeRow("note", impl.ErrText),
		codeRow("note ", impl.ErrText),
		codeRow(" note x", impl.ErrText),
		codeRow("  note", impl.ErrText),
		codeRow("   note    ", impl.ErrText),
	})
	for _, text := range []string{" ", "   ", " a text", "a text ", "note x", "\t", "\xff\xfe", strings.Repeat("x", 300)} {
		r := holdLine(t, "what is noted", fair(), pool, "note "+text)
		if told := impl.TextOf(r.Chain.Ledger, 21); told != (impl.TextResult{Text: text}) {
			t.Errorf("%q: %v", text, told)
		}
	}
}

// fullFair has 60 texts, of which the last one is the block that is mined behind 6 by the key 9 with an empty pool.
func fullFair() impl.Chain {
	return chainWith(fair(), func(c *impl.Chain) {
		for len(c.Ledger.Texts) < 59 {
			c.Ledger.Texts = append(c.Ledger.Texts, fmt.Sprint("more ", len(c.Ledger.Texts)))
		}
		c.Ledger.Texts = append(c.Ledger.Texts, "block 6 4 9 -")
	})
}

func TestStepsOfAFullLedger(t *testing.T) {
	same := []int{60, 9, 4, 1}
	holdStepRows(t, "a full ledger", fullFair(), nil, []stepRow{
		codeRow("note new", impl.ErrMany),
		{"note a text", 0, "14", 6, same, nil},
		{"note block 6 4 9 -", 0, "60", 6, same, nil},
		{"sign 9 60", 0, "ok", 6, []int{60, 10, 4, 1}, nil},
		codeRow("sign 9 61", impl.ErrRange),
		codeRow("mine 8", impl.ErrMany),
		codeRow("mine 0", impl.ErrRange),
		{"mine 9", 0, "block 60", 60, []int{60, 9, 5, 1}, nil},
		{"take 60", 0, "moved 1", 60, []int{60, 9, 5, 1}, nil},
		{"add 3", 0, "pool 3", 6, same, []int64{3}},
	})
	// With something in the pool it is another block, for which there is no room.
	holdStepRows(t, "a full ledger, and a pool", fullFair(), []int64{3}, []stepRow{
		codeRow("mine 9", impl.ErrMany),
		{"take 60", 0, "moved 1", 60, []int{60, 9, 5, 1}, []int64{3}},
	})
	almost := chainWith(fullFair(), func(c *impl.Chain) { c.Ledger.Texts = c.Ledger.Texts[:59] })
	holdStepRows(t, "room for one", almost, []int64{3}, []stepRow{
		{"note new", 0, "60", 6, same, []int64{3}},
		{"mine 9", 0, "block 60", 60, []int{60, 9, 5, 1}, nil},
	})
}

// sign.

func TestSignsOfLines(t *testing.T) {
	pool := []int64{3, 5}
	more := []int{20, 10, 4, 1}
	holdStepRows(t, "signs", fair(), pool, []stepRow{
		codeRow("sign 0 1", impl.ErrRange), codeRow("sign 1 0", impl.ErrRange), codeRow("sign 0 0", impl.ErrRange),
		codeRow("sign 1 21", impl.ErrRange), codeRow("sign 999 999", impl.ErrRange), codeRow("sign 1000 1", impl.ErrText), codeRow("sign 1 1000", impl.ErrText),
		{"sign 1 1", 0, "ok", 6, more, pool}, {"sign 999 1", 0, "ok", 6, more, pool}, {"sign 1 20", 0, "ok", 6, more, pool},
		{"sign 2 5", 0, "ok", 6, []int{20, 9, 4, 1}, pool}, {"sign 5 2", 0, "ok", 6, more, pool},
	})
	// The key comes first, then the number.
	r := holdLine(t, "a key and a number", fair(), pool, "sign 19 4")
	if !impl.HasSign(r.Chain.Ledger, 19, 4) || impl.HasSign(r.Chain.Ledger, 4, 19) {
		t.Error(r.Chain.Ledger)
	}
	full := chainWith(fair(), func(c *impl.Chain) {
		for len(c.Ledger.Signs) < 120 {
			c.Ledger.Signs = append(c.Ledger.Signs, impl.Sign{Key: int64(100 + len(c.Ledger.Signs)), Id: 14})
		}
	})
	same := []int{20, 120, 4, 1}
	holdStepRows(t, "120 signs", full, pool, []stepRow{
		codeRow("sign 9 14", impl.ErrMany),
		{"sign 2 3", 0, "ok", 6, same, pool},
		{"sign 219 14", 0, "ok", 6, same, pool},
		codeRow("sign 0 14", impl.ErrRange),
	})
	// What was not right in the pool for want of a signature may stand there then.
	signed := holdLine(t, "signed", fair(), nil, "sign 2 17")
	holdStepRows(t, "not signed", fair(), nil, []stepRow{codeRow("add 17", impl.ErrSign), codeRow("favor 17", impl.ErrSign)})
	holdStepRows(t, "signed", signed.Chain, signed.Pool, []stepRow{{"add 17", 0, "pool 17", 6, more, []int64{17}}})
}

// take and lock.

func TestTakeAndLockOfLines(t *testing.T) {
	pool := []int64{3, 5}
	holdStepRows(t, "take", fair(), pool, []stepRow{
		codeRow("take 0", impl.ErrRange), codeRow("take 21", impl.ErrRange), codeRow("take 999", impl.ErrRange),
		codeRow("take 3", impl.ErrText), codeRow("take 14", impl.ErrText),
		codeRow("take 1", impl.ErrTaken), codeRow("take 6", impl.ErrTaken), codeRow("take 7", impl.ErrTaken),
		codeRow("take 13", impl.ErrNone), codeRow("take 19", impl.ErrNone), codeRow("take 16", impl.ErrValue), codeRow("take 18", impl.ErrSign),
	})
	// 3 is in the branch of 7, 5 in that of 6: what goes hangs on where the chain stands, not on what is taken.
	aside := chainOf(booth(), nil, 1, 2, 6)
	holdStepRows(t, "take, aside", aside, pool, []stepRow{{"take 7", 0, "moved 0", 6, []int{20, 9, 4, 0}, pool}, {"take 9", 0, "moved 1", 9, []int{20, 9, 4, 0}, []int64{3}}})
	holdStepRows(t, "take, the last one of three", chainOf(booth(), nil, 1, 2, 7, 6), []int64{5}, []stepRow{{"take 9", 0, "moved 3", 9, []int{20, 9, 5, 0}, nil}, {"take 8", 0, "moved 1", 8, []int{20, 9, 5, 0}, []int64{5}}})
	back := chainOf(booth(), []int64{7}, 1, 2, 6, 7)
	holdStepRows(t, "take, barred by a lock", back, []int64{5}, []stepRow{{"take 9", 0, "moved 0", 7, []int{20, 9, 5, 1}, []int64{5}}, codeRow("lock 6", impl.ErrState), codeRow("lock 9", impl.ErrNone)})
	holdStepRows(t, "a member", joined(), []int64{3, 10, 11}, []stepRow{
		{"take 19", 0, "moved 1", 19, []int{20, 9, 7, 0}, []int64{3, 11}},
		{"take 8", 0, "moved 0", 13, []int{20, 9, 7, 0}, []int64{3, 10, 11}},
		{"lock 9", 0, "moved 0", 13, []int{20, 9, 6, 1}, []int64{3, 10, 11}},
		{"lock 7", 0, "moved 4", 7, []int{20, 9, 6, 1}, nil},
	})
	twenty := chainOf(lineOf(22), manyTxs(20), manyTxs(22)...)
	holdStepRows(t, "20 locks", twenty, nil, []stepRow{
		codeRow("lock 21", impl.ErrMany), codeRow("lock 23", impl.ErrNone),
		{"lock 20", 0, "moved 0", 22, []int{22, 0, 22, 20}, nil},
	})
}

// Each number of the orchard is taken and locked, with pools that may stand there.
func TestTakeAndLockOfAnOrchard(t *testing.T) {
	codes := map[string]int{}
	for _, c := range []impl.Chain{base(), chainOf(orchard(), nil, 1, 2), chainOf(orchard(), nil, 1, 2, 6, 8, 19, 20), chainOf(orchard(), []int64{17}, rightBlocks()...)} {
		for _, pool := range [][]int64{nil, impl.TrimPool(c.Ledger, c.State, []int64{3, 4, 5, 7, 9, 10, 12, 13}).Pool} {
			for _, id := range orchardIds() {
				for _, word := range []string{"take", "lock", "add", "favor"} {
					r := holdLine(t, "the orchard", c, pool, fmt.Sprint(word, " ", id))
					codes[fmt.Sprint(word, " ", r.Code)]++
				}
			}
		}
	}
	for _, told := range []string{
		"take 0", "take 3", "take 4", "take 5", "take 6", "take 7", "take 8", "take 9", "take 1",
		"lock 0", "lock 4", "lock 5", "lock 10", "add 0", "add 3", "add 4", "add 5", "add 6", "add 8", "favor 0", "favor 6",
	} {
		if codes[told] == 0 {
			t.Errorf("never was there %s: %v", told, codes)
		}
	}
}

// add and favor.

func TestAddAndFavorOfLines(t *testing.T) {
	same := []int{20, 9, 4, 1}
	holdStepRows(t, "an empty pool", fair(), nil, []stepRow{
		{"add 3", 0, "pool 3", 6, same, []int64{3}}, {"add 5", 0, "pool 5", 6, same, []int64{5}}, {"favor 4", 0, "pool 4", 6, same, []int64{4}},
		codeRow("add 0", impl.ErrRange), codeRow("add 21", impl.ErrRange), codeRow("add 1", impl.ErrText), codeRow("add 14", impl.ErrText),
		codeRow("add 12", impl.ErrNone), codeRow("add 15", impl.ErrValue), codeRow("add 17", impl.ErrSign),
		codeRow("favor 0", impl.ErrRange), codeRow("favor 21", impl.ErrRange), codeRow("favor 1", impl.ErrText), codeRow("favor 14", impl.ErrText),
		codeRow("favor 12", impl.ErrNone), codeRow("favor 15", impl.ErrValue), codeRow("favor 17", impl.ErrSign),
	})
	holdStepRows(t, "one", fair(), []int64{4}, []stepRow{
		codeRow("add 3", impl.ErrTaken), codeRow("add 4", impl.ErrTaken), {"add 5", 0, "pool 4 5", 6, same, []int64{4, 5}},
		{"favor 3", 0, "pool 3", 6, same, []int64{3}}, {"favor 4", 0, "pool 4", 6, same, []int64{4}}, {"favor 20", 0, "pool 4 20", 6, same, []int64{4, 20}},
		codeRow("favor 15", impl.ErrValue), codeRow("favor 17", impl.ErrSign),
	})
	holdStepRows(t, "too early", chainOf(booth(), nil, 1, 2), nil, []stepRow{codeRow("add 5", impl.ErrEarly), codeRow("favor 5", impl.ErrEarly), {"add 3", 0, "pool 3", 2, []int{20, 9, 2, 0}, []int64{3}}})
	state := []int{20, 9, 6, 0}
	holdStepRows(t, "who leaves", joined(), []int64{11}, []stepRow{codeRow("add 10", impl.ErrState), codeRow("favor 10", impl.ErrState), {"add 3", 0, "pool 11 3", 13, state, []int64{11, 3}}})
	holdStepRows(t, "who leaves, ahead", joined(), []int64{10}, []stepRow{{"add 11", 0, "pool 10 11", 13, state, []int64{10, 11}}, codeRow("add 10", impl.ErrTaken)})
	eight := crowd(9)
	holdStepRows(t, "8 of them", eight, manyTxs(19)[11:], []stepRow{
		codeRow("add 20", impl.ErrMany),
		codeRow("favor 20", impl.ErrMany),
		{"favor 12", 0, "pool 13 14 15 16 17 18 19 12", 11, []int{20, 9, 11, 0}, []int64{13, 14, 15, 16, 17, 18, 19, 12}},
	})
	holdStepRows(t, "7 of them", eight, manyTxs(18)[11:], []stepRow{
		{"add 20", 0, "pool 12 13 14 15 16 17 18 20", 11, []int{20, 9, 11, 0}, []int64{12, 13, 14, 15, 16, 17, 18, 20}},
	})
}

// crowd is a chain of 11 blocks, and n transactions behind them, each of which spends the coin of one of these, from the first one on.
func crowd(n int) impl.Chain {
	l := lineOf(11)
	for i := range n {
		l.Texts = append(l.Texts, fmt.Sprintf("pay %d:0 %d=1_of_2", i+1, 400+i))
		l.Signs = append(l.Signs, impl.Sign{Key: 1, Id: int64(12 + i)})
	}
	return chainOf(l, nil, manyTxs(11)...)
}

// mine.

func TestMineOfLines(t *testing.T) {
	same := []int{21, 9, 5, 1}
	for _, miner := range []int64{1, 2, 500, 999} {
		holdStepRows(t, "a miner", fair(), nil, []stepRow{{fmt.Sprint("mine ", miner), 0, "block 21", 21, same, nil}})
		r := holdLine(t, "a miner", fair(), nil, fmt.Sprint("mine ", miner))
		if impl.OwnedBy(r.Chain.State.Coins, miner).Value < 1000 {
			t.Errorf("%d mined: %v", miner, r.Chain.State)
		}
	}
	holdStepRows(t, "a block that is noted already", fair(), nil, []stepRow{{"note block 6 4 3 -", 0, "21", 6, []int{21, 9, 4, 1}, nil}})
	noted := holdLine(t, "noted", fair(), nil, "note block 6 4 3 -").Chain
	holdStepRows(t, "a block that is noted already", noted, nil, []stepRow{{"mine 3", 0, "block 21", 21, same, nil}, {"mine 4", 0, "block 22", 22, []int{22, 9, 5, 1}, nil}})

	// The first six are mined; the other two stay.
	holdStepRows(t, "8 of them", crowd(9), manyTxs(19)[11:], []stepRow{
		{"mine 7", 0, "block 21", 21, []int{21, 9, 12, 0}, []int64{18, 19}},
	})
	// What joins is mined, and who leaves behind it may stand in the next block.
	holdStepRows(t, "a member", joined(), []int64{3, 10, 11}, []stepRow{{"mine 7", 0, "block 21", 21, []int{21, 9, 7, 0}, nil}})
	holdStepRows(t, "a lock far up", chainOf(booth(), []int64{7}, 1, 2, 6, 7), []int64{5}, []stepRow{{"mine 7", 0, "block 21", 21, same, nil}})
}

func TestMineAtTheEnd(t *testing.T) {
	end := chainOf(lineOf(40), nil, manyTxs(40)...)
	holdStepRows(t, "at the height 40", end, nil, []stepRow{
		codeRow("mine 1", impl.ErrMany), codeRow("mine 0", impl.ErrRange), codeRow("mine 1000", impl.ErrText),
		{"note x", 0, "41", 40, []int{41, 0, 40, 0}, nil},
	})
	holdStepRows(t, "at the height 39", chainOf(lineOf(39), nil, manyTxs(39)...), nil, []stepRow{{"mine 1", 0, "block 40", 40, []int{40, 0, 40, 0}, nil}})
	// 39 coins are there, and one may be mined: there is no room for two that come of one.
	l := lineOf(39)
	l.Texts = append(l.Texts, "pay 1:0 500=1_of_1 500=1_of_1", "pay 1:0 1000=1_of_1")
	l.Signs = append(l.Signs, impl.Sign{Key: 1, Id: 40}, impl.Sign{Key: 1, Id: 41})
	crowded := chainOf(l, nil, manyTxs(39)...)
	holdStepRows(t, "two of one", crowded, []int64{40}, []stepRow{codeRow("mine 1", impl.ErrMany), {"favor 41", 0, "pool 41", 39, []int{41, 2, 39, 0}, []int64{41}}})
	holdStepRows(t, "one of one", crowded, []int64{41}, []stepRow{{"mine 1", 0, "block 42", 42, []int{42, 2, 40, 0}, nil}})
	// Such a block is not noted either: what a line with a code leaves is what was there.
	r := holdScript(t, "two of one", crowded, "add 40\nmine 1\nnote x\nfavor 41\nmine 1\nadd 40\n")
	if r.Said != "pool 40\n! 2\n42\npool 41\nblock 43\n! 4\n" {
		t.Errorf("%q", r.Said)
	}
}

// Faults.

// A chain with a fault comes ahead of the pool and the line, whatever these are.
func TestStepsOfFaultyChains(t *testing.T) {
	lines := []string{"", "   ", "show", "note x", "note", "wink", "a\nb", "take 1", "lock 1", "add 3", "favor 3", "mine 1", "mine 0", "sign 1 1"}
	pools := [][]int64{nil, {3}, {0}, {3, 3}, manyTxs(9)}
	codes := map[int64]int{}
	for i, row := range wrongChains() {
		codes[row.code]++
		for j, line := range lines {
			// All lines and pools are tried at the first ones, which have each code.
			if i >= 60 && j != i%len(lines) {
				continue
			}
			if r := impl.StepScript(row.chain, pools[(i+j)%len(pools)], line); !sameScripts(r, impl.ScriptResult{Code: row.code}) {
				t.Errorf("%s, %q: %v", row.name, line, r)
			}
		}
		for _, text := range []string{"", "show\n", strings.Repeat("\n", 41), strings.Repeat("x", 1201)} {
			if r := impl.RunScript(row.chain, text); !sameScripts(r, impl.ScriptResult{Code: row.code}) {
				t.Errorf("%s, a script: %v", row.name, r)
			}
		}
	}
	for _, row := range faultRows() {
		c := impl.Chain{Ledger: row.ledger}
		for _, line := range lines {
			if r := impl.StepScript(c, nil, line); !sameScripts(r, impl.ScriptResult{Code: row.code}) {
				t.Errorf("%s, %q: %v", row.name, line, r)
			}
		}
		if r := impl.RunScript(c, "show\n"); !sameScripts(r, impl.ScriptResult{Code: row.code}) {
			t.Errorf("%s: %v", row.name, r)
		}
	}
	if len(codes) < 8 {
		t.Errorf("but these codes were seen: %v", codes)
	}
}

// A pool with a fault comes ahead of the line.
func TestStepsOfFaultyPools(t *testing.T) {
	for _, row := range []struct {
		name  string
		chain impl.Chain
		pool  []int64
		code  int64
	}{
		{"9 of them", fair(), manyTxs(9), impl.ErrMany},
		{"the number 0", fair(), []int64{0}, impl.ErrRange},
		{"the number -1", fair(), []int64{3, -1}, impl.ErrRange},
		{"behind the last text", fair(), []int64{21}, impl.ErrRange},
		{"a block", fair(), []int64{1}, impl.ErrText},
		{"a text", fair(), []int64{5, 14}, impl.ErrText},
		{"what is not there", fair(), []int64{12}, impl.ErrNone},
		{"too much", fair(), []int64{15}, impl.ErrValue},
		{"not signed", fair(), []int64{17}, impl.ErrSign},
		{"too early", chainOf(booth(), nil, 1, 2), []int64{5}, impl.ErrEarly},
		{"twice", fair(), []int64{3, 5, 3}, impl.ErrTaken},
		{"two that spend the same", fair(), []int64{3, 4}, impl.ErrTaken},
		{"who leaves, behind who spends what it holds", joined(), []int64{11, 10}, impl.ErrState},
		{"of an empty chain", impl.Chain{}, []int64{1}, impl.ErrRange},
		{"what is spent already", joined(), []int64{5}, impl.ErrNone},
	} {
		for _, line := range []string{"", "   ", "show", "note x", "note", "wink", "a\nb", "take 8", "take 0", "lock 1", "add 3", "favor 3", "mine 9", "mine 0", "sign 1 1"} {
			if r := holdLine(t, row.name, row.chain, row.pool, line); r.Code != row.code {
				t.Errorf("%s, %q: %v", row.name, line, r)
			}
		}
	}
}

func TestTheChainComesAheadOfThePool(t *testing.T) {
	for _, row := range []struct {
		name  string
		chain impl.Chain
		pool  []int64
		code  int64
	}{
		{"a lock that is not there, and a number out of bounds", withLocks(0), []int64{0}, impl.ErrNone},
		{"it stands elsewhere, and too many", standingAt(11), manyTxs(9), impl.ErrState},
		{"no undos, and a block", chainWith(fair(), func(c *impl.Chain) { c.Undos = nil }), []int64{1}, impl.ErrForm},
		{"21 locks, and a text", withLocks(make([]int64, 21)...), []int64{40}, impl.ErrMany},
		{"a state that has a fault, and so has the pool", chainWith(fair(), func(c *impl.Chain) { c.State.Tip = 61 }), manyTxs(9), impl.ErrState},
	} {
		for _, line := range []string{"show", "wink", "take 0", "\n"} {
			if r := holdLine(t, row.name, row.chain, row.pool, line); r.Code != row.code {
				t.Errorf("%s, %q: %v", row.name, line, r)
			}
		}
	}
}

// Many lines at many chains, with many pools.
func TestManyLinesOfManyChains(t *testing.T) {
	var lines []string
	for id := range 23 {
		for _, word := range []string{"take", "lock", "add", "favor"} {
			lines = append(lines, fmt.Sprintf("%s %d", word, id))
		}
	}
	lines = append(lines, "show", "mine 1", "mine 7", "sign 2 17", "sign 3 12", "note block 8 5 8 -", "note pay 6:0 5=1_of_2", "note x", "", "wink")
	for _, c := range []impl.Chain{fair(), joined(), {Ledger: booth()}, chainOf(booth(), nil, 1, 2, 7, 8, 6), chainOf(booth(), []int64{6, 1}, 1, 2, 7, 8, 6), chainOf(booth(), nil, 1, 2, 6, 9, 13, 19)} {
		for _, pool := range [][]int64{nil, {3}, {5}, {3, 5}, {20, 4}, {10}, {10, 11, 3}, {12}} {
			if impl.PoolFault(c.Ledger, c.State, pool) != impl.OK {
				continue
			}
			for _, line := range lines {
				holdLine(t, "many", c, pool, line)
			}
		}
	}
}

// RunScript.

func TestScripts(t *testing.T) {
	for _, row := range []struct {
		name string
		text string
		said string
		tip  int64
		pool []int64
	}{
		{"nothing", "", "", 6, nil},
		{"an empty line", "\n", "", 6, nil},
		{"empty lines", "\n\n\n", "", 6, nil},
		{"blanks", "   ", "", 6, nil},
		{"lines of blanks", "   \n \n", "", 6, nil},
		{"one line", "add 3\n", "pool 3\n", 6, []int64{3}},
		{"one line, no line feed at the end", "add 3", "pool 3\n", 6, []int64{3}},
		{"empty lines between, ahead and behind", "\n\nadd 3\n\n  \nadd 5\n\n\n", "pool 3\npool 3 5\n", 6, []int64{3, 5}},
		{"what ends with a line feed already", "show\n", fairText, 6, nil},
		{"what ends with a line feed already, at the end", "show", fairText, 6, nil},
		{"twice", "show\nshow", fairText + fairText, 6, nil},
		{"a line with a code", "wink", "! 5\n", 6, nil},
		{"lines with codes alone", "wink\ntake 1\nmine 0\nadd 12\nnote", "! 5\n! 7\n! 3\n! 4\n! 5\n", 6, nil},
		{"a code of two digits", "lock 6\nlock 7", "moved 0\n! 10\n", 6, nil},
		{"a line with a code in the middle", "add 3\nadd 4\nadd 5", "pool 3\n! 7\npool 3 5\n", 6, []int64{3, 5}},
		{"a line with a code ahead", "add 4 5\nadd 3", "! 5\npool 3\n", 6, []int64{3}},
		{"a line with a code behind", "add 3\nmine 0", "pool 3\n! 3\n", 6, []int64{3}},
		{"blanks stay in what is noted", "note  a \nnote  a\nnote a \nnote a\nnote  a ", "21\n22\n23\n24\n21\n", 6, nil},
		{"a line that ends in other bytes", "show\r\nadd 3\r\nadd 3", "! 5\n! 5\npool 3\n", 6, []int64{3}},
		{"a carriage return is noted", "note a text\r\nnote a text\n", "21\n14\n", 6, nil},
		{"the pool is trimmed", "add 3\nadd 5\ntake 8\nadd 3\nmine 1", "pool 3\npool 3 5\nmoved 3\n! 4\nblock 21\n", 21, nil},
		{"who joins, and leaves", "add 5\nmine 4\nadd 10\nadd 11\nmine 4\nshow", "pool 5\nblock 21\npool 10\npool 10 11\nblock 22\n" +
			"tip 22 5\ntree 6\nlocks 2\nmembers\ncoin 1:0 1000 1 of 2\ncoin 6:0 1000 1 of 7\ncoin 10:0 490 1 of 2\ncoin 11:0 500 1 of 5\ncoin 21:0 1010 1 of 4\ncoin 22:0 1000 1 of 4\n", 22, nil},
		{"a payment", "note pay 1:0 500=1_of_3 499=1_of_2_after_9\nadd 21\nsign 2 21\nadd 21\nmine 6\nshow", "21\n! 6\nok\npool 21\nblock 22\n" +
			"tip 22 4\ntree 5\nlocks 2\nmembers\ncoin 2:0 1000 1 of 2\ncoin 6:0 1000 1 of 7\ncoin 21:0 500 1 of 3\ncoin 21:1 499 1 of 2 after 9\ncoin 22:0 1001 1 of 6\n", 22, nil},
		{"a branch overtakes the other one", "mine 5\nnote block 8 5 1 -\ntake 8\ntake 22\nlock 8\nlock 7\nlock 21\nlock 6", "block 21\n22\nmoved 0\nmoved 5\nmoved 0\nmoved 0\n! 10\n! 10\n", 22, nil},
	} {
		r := holdScript(t, row.name, fair(), row.text)
		if r.Code != impl.OK || r.Said != row.said || r.Chain.State.Tip != row.tip || !slices.Equal(r.Pool, row.pool) {
			t.Errorf("%s: %d %q, the tip %d, the pool %v, want %v", row.name, r.Code, r.Said, r.Chain.State.Tip, r.Pool, row)
		}
	}
}

// What a line with a code leaves: chain and pool as they were ahead of it.
func TestALineWithACodeLeavesAllAsItWas(t *testing.T) {
	ahead := "add 3\nadd 5\nnote x\nlock 6\n"
	want := holdScript(t, "ahead", fair(), ahead)
	for _, line := range []string{
		"wink", "note", "note " + strings.Repeat("x", 301), "sign 0 1", "sign 1 50", "take 0", "take 3", "take 7", "take 13", "take 16", "take 18",
		"lock 0", "lock 7", "lock 8", "add 3", "add 4", "add 15", "add 17", "add 12", "favor 15", "favor 17", "favor 12", "favor 1", "mine 0", "mine 1000", "show 1",
	} {
		r := holdScript(t, line, fair(), ahead+line)
		if r.Code != impl.OK || !isSameChain(r.Chain, want.Chain) || !slices.Equal(r.Pool, want.Pool) || !strings.HasPrefix(r.Said, want.Said+"! ") {
			t.Errorf("%q: %v", line, r)
		}
		on := holdScript(t, line, fair(), ahead+line+"\nshow\nmine 9\n")
		if other := impl.RunScript(fair(), ahead+"show\nmine 9\n"); !isSameChain(on.Chain, other.Chain) || !slices.Equal(on.Pool, other.Pool) {
			t.Errorf("behind %q: %v, want %v", line, on, other)
		}
	}
}

func TestHowLongAScriptMayBe(t *testing.T) {
	if impl.MaxScript != 1200 || impl.MaxLines != 40 {
		t.Error(impl.MaxScript, impl.MaxLines)
	}
	notes := strings.Repeat("note "+strings.Repeat("x", 294)+"\n", 4)
	for _, row := range []struct {
		name string
		text string
		code int64
		said string
	}{
		{"1200 blanks", strings.Repeat(" ", 1200), impl.OK, ""},
		{"1201 blanks", strings.Repeat(" ", 1201), impl.ErrMany, ""},
		{"1200 bytes of one line that is none", strings.Repeat("x", 1200), impl.OK, "! 5\n"},
		{"1201 bytes of it", strings.Repeat("x", 1201), impl.ErrMany, ""},
		{"1200 bytes with a line feed at the end", strings.Repeat(" ", 1199) + "\n", impl.OK, ""},
		{"1201 bytes with a line feed at the end", strings.Repeat(" ", 1200) + "\n", impl.ErrMany, ""},
		{"1200 bytes of 600 letters", strings.Repeat("ä", 600), impl.OK, "! 5\n"},
		{"1202 bytes of 601 letters", strings.Repeat("ä", 601), impl.ErrMany, ""},
		{"1200 bytes in 4 lines", notes, impl.OK, "21\n21\n21\n21\n"},
		{"1199 bytes in 4 lines, no line feed at the end", notes[:1199], impl.OK, "21\n21\n21\n21\n"},
		{"one byte more", notes + "\n", impl.ErrMany, ""},
		{"one letter more", notes + "x", impl.ErrMany, ""},
		{"very long", strings.Repeat("show\n", 100000), impl.ErrMany, ""},

		{"40 empty lines", strings.Repeat("\n", 40), impl.OK, ""},
		{"41 empty lines", strings.Repeat("\n", 41), impl.ErrMany, ""},
		{"40 empty lines and a blank", strings.Repeat("\n", 40) + " ", impl.ErrMany, ""},
		{"39 empty lines and a blank", strings.Repeat("\n", 39) + " ", impl.OK, ""},
		{"40 lines", strings.Repeat("wink\n", 40), impl.OK, strings.Repeat("! 5\n", 40)},
		{"40 lines, no line feed at the end", strings.Repeat("wink\n", 39) + "wink", impl.OK, strings.Repeat("! 5\n", 40)},
		{"41 lines", strings.Repeat("wink\n", 41), impl.ErrMany, ""},
		{"41 lines, no line feed at the end", strings.Repeat("wink\n", 40) + "wink", impl.ErrMany, ""},
		{"40 lines and an empty one", strings.Repeat("wink\n", 40) + "\n", impl.ErrMany, ""},
		{"39 lines and an empty one", strings.Repeat("wink\n", 39) + "\n", impl.OK, strings.Repeat("! 5\n", 39)},
		{"40 lines of 1200 bytes", strings.Repeat(strings.Repeat(" ", 29)+"\n", 40), impl.OK, ""},
		{"40 lines of 1200 bytes that note", strings.Repeat("note "+strings.Repeat("y", 24)+"\n", 40), impl.OK, strings.Repeat("21\n", 40)},
		{"1200 line feeds", strings.Repeat("\n", 1200), impl.ErrMany, ""},
		{"other bytes that end no line", strings.Repeat("\r\v\f\u0085", 200), impl.OK, "! 5\n"},
	} {
		for _, c := range []impl.Chain{fair(), chainWith(fair(), func(c *impl.Chain) { c.Locks = nil })} {
			if r := holdScript(t, row.name, c, row.text); r.Code != row.code || r.Said != row.said {
				t.Errorf("%s: %d %q", row.name, r.Code, r.Said)
			}
		}
	}
}

// 40 lines that each mine: from nothing to the greatest height.
func TestAScriptToTheGreatestHeight(t *testing.T) {
	r := holdScript(t, "40 blocks", impl.Chain{}, strings.Repeat("mine 7\n", 40))
	if r.Chain.State.Height != 40 || !strings.HasSuffix(r.Said, "block 39\nblock 40\n") || impl.CoinSum(r.Chain.State.Coins) != impl.SupplyTo(40) {
		t.Error(r.Said, r.Chain.State)
	}
	if on := holdScript(t, "one more", r.Chain, "mine 7"); on.Said != "! 2\n" || !isSameChain(on.Chain, r.Chain) {
		t.Error(on.Said)
	}
	branches := holdScript(t, "20 more", r.Chain, "lock 1\nnote block 1 2 8 -\ntake 41\nnote block 0 1 9 -\ntake 42\nlock 42\n"+strings.Repeat("mine 1\n", 3))
	if branches.Said != "moved 0\n41\nmoved 0\n42\nmoved 0\n! 10\n! 2\n! 2\n! 2\n" {
		t.Error(branches.Said)
	}
}

// A script that is parted in two does the same, where the pool is handed on by steps that add it again.
func TestAScriptGoesOn(t *testing.T) {
	lines := []string{"mine 2", "mine 2", "note pay 1:0 900=1_of_3", "sign 2 3", "mine 2", "add 3", "mine 5", "lock 4", "note block 2 3 9 -", "take 6", "mine 5", "show"}
	whole := holdScript(t, "whole", impl.Chain{}, strings.Join(lines, "\n"))
	for at := range len(lines) + 1 {
		first := holdScript(t, "first", impl.Chain{}, strings.Join(lines[:at], "\n"))
		rest := lines[at:]
		for _, id := range first.Pool {
			rest = append([]string{fmt.Sprint("add ", id)}, rest...)
		}
		second := holdScript(t, "second", first.Chain, strings.Join(rest, "\n"))
		if !isSameChain(second.Chain, whole.Chain) || !slices.Equal(second.Pool, whole.Pool) {
			t.Errorf("parted ahead of the line %d: %v, want %v", at, second, whole)
		}
	}
}

// Promise 17: each short script, and walks of long ones.

func TestAllShortScripts(t *testing.T) {
	lines := []string{"mine 2", "mine 3", "note pay 1:0 900=1_of_3", "sign 2 3", "add 3", "favor 4", "take 5", "take 7", "lock 2", "lock 5", "show", "wink"}
	c := chainOf(ledgerBy(
		by("block 0 1 2 -"), by("block 1 2 2 -"), by("pay 1:0 950=1_of_3"), by("pay 1:0 900=1_of_2", 2), by("block 1 2 9 -"), by("block 5 3 9 -"), by("block 2 3 2 4"),
	), nil, 1, 2)
	scripts, said := 0, map[string]int{}
	listsOf(lines, 3, func(list []string) {
		scripts++
		r := holdScript(t, "short", c, strings.Join(list, "\n"))
		if r.Code != impl.OK {
			t.Fatalf("%q: %d", list, r.Code)
		}
		said[r.Said]++
	})
	if scripts != 1+12+144+1728 || len(said) < 250 {
		t.Errorf("%d scripts, of which %d differ", scripts, len(said))
	}
}

// scriptWalk goes line by line: what is noted is signed and added, taken or locked in lines behind it.
type scriptWalk struct {
	walk
	at    impl.ScriptResult
	todo  []string
	lines []string
	words map[string]int
}

func (w *scriptWalk) next() string {
	if len(w.todo) > 0 && w.often() {
		line := w.todo[0]
		w.todo = w.todo[1:]
		return line
	}
	switch w.dice.Intn(8) {
	case 0, 1, 2:
		return fmt.Sprint("mine ", w.dice.Intn(6))
	case 3, 4:
		return w.noteTx()
	case 5:
		return w.noteBlock()
	}
	return w.anyLine()
}

// noteTx has those sign, for the most part, whose coins are spent.
func (w *scriptWalk) noteTx() string {
	w.state, w.ledger = w.at.Chain.State, w.at.Chain.Ledger
	tx := w.randomTx(slices.DeleteFunc(slices.Clone(w.state.Coins), func(coin impl.Coin) bool {
		return !plainIsRipe(coin, plainNextHeight(w.state)) && w.often()
	}))
	text := impl.TxText(tx).Text
	id := impl.NoteText(w.ledger, text).Id
	keys := []int64{}
	for _, coin := range w.state.Coins {
		if slices.Contains(tx.Ins, coin.Ref) {
			keys = append(keys, coin.Out.Rule.Keys...)
		}
	}
	if tx.Kind != impl.KindPay {
		keys = append(keys, tx.Member)
	}
	for _, key := range keys {
		if w.often() {
			w.todo = append(w.todo, fmt.Sprintf("sign %d %d", key, id))
		}
	}
	word := []string{"add", "add", "favor"}[w.dice.Intn(3)]
	w.todo = append(w.todo, fmt.Sprintf("%s %d", word, id))
	return "note " + text
}

// noteBlock is one behind a node that is not far from the end, with what stands in the pool now and then.
func (w *scriptWalk) noteBlock() string {
	tree := slices.DeleteFunc(slices.Clone(w.at.Chain.Tree), func(n impl.Node) bool { return n.Height+2 < w.at.Chain.State.Height && w.often() })
	if len(tree) == 0 {
		return "note block 0 1 4 -"
	}
	n := tree[w.dice.Intn(len(tree))]
	block := blockOf(n.Id, n.Height+1, 1+w.dice.Int63n(5))
	if w.dice.Intn(3) == 0 {
		block.Txs = w.at.Pool[:min(len(w.at.Pool), 6)]
	}
	text := impl.BlockText(block).Text
	w.todo = append(w.todo, fmt.Sprint("take ", impl.NoteText(w.at.Chain.Ledger, text).Id))
	return "note " + text
}

func (w *scriptWalk) anyLine() string {
	id := w.dice.Intn(len(w.at.Chain.Ledger.Texts) + 2)
	switch word := []string{"take", "lock", "add", "favor", "sign", "show", "", "wink", "note", "note x"}[w.dice.Intn(10)]; word {
	case "take", "lock", "add", "favor":
		return fmt.Sprintf("%s %d", word, id)
	case "sign":
		return fmt.Sprintf("sign %d %d", w.dice.Intn(6), id)
	default:
		return word
	}
}

func (w *scriptWalk) step(t *testing.T) {
	t.Helper()
	line := w.next()
	w.lines = append(w.lines, line)
	r := holdLine(t, "a walk", w.at.Chain, w.at.Pool, line)
	w.codes[r.Code]++
	if r.Code == impl.OK {
		word, _, _ := strings.Cut(line, " ")
		w.words[word]++
		w.at = r
		holdTold(t, "a walk", impl.CoinsText(r.Chain.State.Coins).Text, r.Chain.State.Coins)
	}
}

// roomFor tells how many lines may stand in a script.
func roomFor(lines []string) int {
	size := 0
	for i, line := range lines {
		if size += len(line) + 1; i >= impl.MaxLines || size > impl.MaxScript {
			return i
		}
	}
	return len(lines)
}

func TestWalksOfScripts(t *testing.T) {
	dice := rand.New(rand.NewSource(17))
	codes, words := map[int64]int{}, map[string]int{}
	for range 20 {
		w := scriptWalk{walk: walk{dice: dice, codes: codes}, words: words}
		var start impl.Chain
		for range 3 {
			for len(w.lines) < 40 {
				w.step(t)
			}
			w.lines = w.lines[:roomFor(w.lines)]
			r := holdScript(t, "a walk", start, strings.Join(w.lines, "\n"))
			// The next one begins with an empty pool again.
			start, w.at, w.lines, w.todo = r.Chain, impl.ScriptResult{Chain: r.Chain}, nil, nil
		}
	}
	for _, code := range []int64{impl.OK, impl.ErrRange, impl.ErrNone, impl.ErrText, impl.ErrSign, impl.ErrTaken, impl.ErrValue, impl.ErrEarly, impl.ErrState} {
		if codes[code] == 0 {
			t.Errorf("no walk came to the code %d: %v", code, codes)
		}
	}
	for _, word := range []string{"note", "sign", "take", "lock", "add", "favor", "mine", "show", ""} {
		if words[word] < 10 {
			t.Errorf("%q was done %d times: %v", word, words[word], words)
		}
	}
}

// Lines and texts of any bytes.
func TestAnyBytes(t *testing.T) {
	dice := rand.New(rand.NewSource(18))
	pieces := []string{" ", "  ", "\n", "take", "lock", "add", "favor", "mine", "sign", "show", "note", "0", "1", "2", "3", "8", "9", "08", "-1", "+2", "999", "1000", "x", "\t", "\r", "\x00", "\xff", "ä", "block 8 5 8 -"}
	codes := map[int64]int{}
	for range 3000 {
		line := ""
		for range dice.Intn(6) {
			line += pieces[dice.Intn(len(pieces))]
			if dice.Intn(2) == 0 {
				line += " "
			}
		}
		codes[holdLine(t, "any", fair(), []int64{3}, line).Code]++
		if r := impl.WordsOf(line); r.Code != impl.OK || !slices.Equal(r.Words, plainSplit(line)) {
			t.Fatalf("%q: %v", line, r)
		}
	}
	for range 300 {
		text := ""
		for range dice.Intn(60) {
			text += pieces[dice.Intn(len(pieces))] + []string{"", " ", "\n"}[dice.Intn(3)]
		}
		codes[holdScript(t, "any", fair(), text).Code]++
	}
	if codes[impl.OK] < 100 || codes[impl.ErrText] < 1000 {
		t.Error(codes)
	}
}

// Promise 1: memory, nil and empty, the same again.

type scriptCall struct {
	name string
	call func(c impl.Chain, pool []int64) impl.ScriptResult
}

// scriptCalls do each line that there is, with a code and without, and some scripts.
func scriptCalls() []scriptCall {
	var calls []scriptCall
	for _, line := range []string{
		"", "show", "note new", "note a text", "note " + strings.Repeat("x", 301), "sign 9 14", "sign 2 3", "sign 0 1", "take 8", "take 9", "take 1",
		"lock 1", "lock 2", "lock 7", "lock 8", "add 11", "add 20", "favor 3", "favor 4", "favor 20", "favor 12", "mine 9", "mine 0", "wink",
	} {
		calls = append(calls, scriptCall{"StepScript " + line, func(c impl.Chain, pool []int64) impl.ScriptResult { return impl.StepScript(c, pool, line) }})
	}
	for _, text := range []string{
		"", "show\n", "wink", "add 3\nadd 5", "add 3\nmine 9\nmine 0\nlock 8\ntake 8", "note x\nsign 9 21\nlock 7\nlock 6\nadd 5\nfavor 20", strings.Repeat("\n", 41),
	} {
		calls = append(calls, scriptCall{"RunScript " + text, func(c impl.Chain, pool []int64) impl.ScriptResult { return impl.RunScript(c, text) }})
	}
	return append(calls,
		scriptCall{"ChainText", func(c impl.Chain, pool []int64) impl.ScriptResult {
			r := impl.ChainText(c)
			return impl.ScriptResult{Code: r.Code, Said: r.Text}
		}},
		scriptCall{"CoinsText", func(c impl.Chain, pool []int64) impl.ScriptResult {
			r := impl.CoinsText(c.State.Coins)
			return impl.ScriptResult{Code: r.Code, Said: r.Text}
		}})
}

func scriptMemories(c impl.Chain, pool []int64) []memory {
	return append(chainMemories(c), memoryOf(pool, -9, tellWhole))
}

func TestScriptsChangeNoArgument(t *testing.T) {
	for _, chain := range []impl.Chain{fair(), joined(), base(), standingAt(11), {}} {
		for _, ids := range [][]int64{nil, {3, 5}, {3}, {20, 4}, {0}, manyTxs(9)} {
			c, pool := roomyChain(chain), roomyNumbers(ids)
			parts := scriptMemories(c, pool)
			was := toldOf(parts)
			for _, call := range scriptCalls() {
				call.call(c, pool)
				if !slices.Equal(toldOf(parts), was) {
					t.Fatalf("%s changed an argument", call.name)
				}
			}
		}
	}
}

func TestAnswersOfScriptsShareNoMemory(t *testing.T) {
	right := 0
	for _, ids := range [][]int64{{3, 5}, {3, 10}, nil} {
		for _, chain := range []impl.Chain{fair(), joined()} {
			if impl.PoolFault(chain.Ledger, chain.State, ids) != impl.OK {
				continue
			}
			for _, call := range scriptCalls() {
				c, pool := roomyChain(chain), roomyNumbers(ids)
				one, two := call.call(c, pool), call.call(c, pool)
				if !sameScripts(one, two) {
					t.Fatalf("%s: %v, and then %v", call.name, one, two)
				}
				if one.Code == impl.OK {
					right++
				}
				holdOwnMemory(t, call.name, slices.Concat(scriptMemories(one.Chain, one.Pool), scriptMemories(two.Chain, two.Pool), scriptMemories(c, pool)))
			}
		}
	}
	if right < 80 {
		t.Errorf("but %d answers were looked at", right)
	}
	one, two := impl.WordsOf("a b c"), impl.WordsOf("a b c")
	memoryOf(one.Words, "spoilt", tellWhole).spoil()
	if !slices.Equal(two.Words, []string{"a", "b", "c"}) {
		t.Error(two)
	}
}

func TestEmptyAndNilOfScriptsAreTheSame(t *testing.T) {
	empty := impl.Chain{
		Ledger: impl.Ledger{Texts: []string{}, Signs: []impl.Sign{}}, Tree: []impl.Node{}, Locks: []int64{},
		State: impl.State{Coins: []impl.Coin{}, Members: []impl.Member{}}, Undos: []impl.Undo{},
	}
	for _, line := range []string{"", "show", "note x", "mine 3", "take 1", "lock 1", "add 1", "favor 1", "sign 1 1", "wink"} {
		want := holdLine(t, "nil", impl.Chain{}, nil, line)
		for _, c := range []impl.Chain{{}, empty} {
			for _, pool := range [][]int64{nil, {}} {
				if r := holdLine(t, "empty", c, pool, line); !sameScripts(r, want) {
					t.Errorf("%q: %v, want %v", line, r, want)
				}
			}
			if r := holdScript(t, "empty", c, line); want.Code == impl.OK && (!isSameChain(r.Chain, want.Chain) || !slices.Equal(r.Pool, want.Pool)) {
				t.Errorf("%q: %v, want %v", line, r, want)
			}
		}
	}
	if r := impl.ChainText(empty); r != impl.ChainText(impl.Chain{}) || r.Code != impl.OK {
		t.Error(r)
	}
	if r := impl.CoinsText([]impl.Coin{}); r != (impl.TextResult{}) {
		t.Error(r)
	}
}

// What was asked in between, and what was refused, leaves no trace.
func TestScriptsHangOnTheArgumentsAlone(t *testing.T) {
	var first []string
	for _, call := range scriptCalls() {
		first = append(first, tellWhole(call.call(fair(), []int64{3, 5})))
	}
	for i := range 6 {
		impl.RunScript(joined(), fmt.Sprintf("note %d\nadd 10\nmine %d\nlock 9\nwink\nshow", i, i))
		impl.StepScript(base(), nil, fmt.Sprint("take ", 20+i))
		impl.WordsOf("lock 7")
		for at, call := range scriptCalls() {
			if told := tellWhole(call.call(fair(), []int64{3, 5})); told != first[at] {
				t.Fatalf("%s: %s, and it was %s", call.name, told, first[at])
			}
		}
	}
}

// Calls at the same time do not get in each other's way.
func TestScriptsAtTheSameTime(t *testing.T) {
	c := fair()
	text := "add 3\nadd 5\nnote x\nmine 9\ntake 8\nlock 7\nshow"
	want := impl.RunScript(c, text)
	done := make(chan bool)
	for range 8 {
		go func() {
			same := true
			for range 20 {
				same = same && sameScripts(impl.RunScript(c, text), want)
			}
			done <- same
		}()
	}
	for range 8 {
		if !<-done {
			t.Error("another answer")
		}
	}
}
