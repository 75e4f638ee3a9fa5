package tests

import (
	"fmt"
	"math"
	"math/rand"
	"regexp"
	"slices"
	"strings"
	"testing"

	"loop.example/g00304/impl"
)

// The plain reading of chapter 7: what the program is held against.

func plainBlockFault(b impl.Block) int64 {
	switch {
	case b.Prev < 0 || b.Prev > 60 || b.Height < 1 || b.Height > 40 || b.Miner < 1 || b.Miner > 999:
		return impl.ErrRange
	case b.Prev == 0 && b.Height != 1:
		return impl.ErrForm
	case b.Prev != 0 && b.Height == 1:
		return impl.ErrForm
	case len(b.Txs) > 6:
		return impl.ErrMany
	}
	for i, tx := range b.Txs {
		if tx < 1 || tx > 60 {
			return impl.ErrRange
		}
		for _, ahead := range b.Txs[:i] {
			if ahead == tx {
				return impl.ErrTaken
			}
		}
	}
	return impl.OK
}

func plainBlockText(b impl.Block) impl.TextResult {
	if code := plainBlockFault(b); code != impl.OK {
		return impl.TextResult{Code: code}
	}
	text := fmt.Sprintf("block %d %d %d ", b.Prev, b.Height, b.Miner)
	if len(b.Txs) == 0 {
		text += "-"
	}
	for i, tx := range b.Txs {
		if i > 0 {
			text += "+"
		}
		text += fmt.Sprint(tx)
	}
	return impl.TextResult{Text: text}
}

var blockForm = regexp.MustCompile(`^block (0|[1-9][0-9]?) ([1-9][0-9]?) ([1-9][0-9]{0,2}) (?:-|([1-9][0-9]?(?:\+[1-9][0-9]?){0,5}))\z`)

func plainParseBlock(text string) impl.BlockResult {
	parts := blockForm.FindStringSubmatch(text)
	if parts == nil {
		return impl.BlockResult{Code: impl.ErrText}
	}
	b := impl.Block{Prev: plainNumber(parts[1]), Height: plainNumber(parts[2]), Miner: plainNumber(parts[3])}
	if parts[4] != "" {
		for _, tx := range strings.Split(parts[4], "+") {
			b.Txs = append(b.Txs, plainNumber(tx))
		}
	}
	if plainBlockFault(b) != impl.OK {
		return impl.BlockResult{Code: impl.ErrText}
	}
	return impl.BlockResult{Block: b}
}

// plainReward halves step by step, with division alone.
func plainReward(height int64) impl.IntResult {
	if height < 1 || height > 40 {
		return impl.IntResult{Code: impl.ErrRange}
	}
	reward := int64(1000)
	for left := height - 1; left >= 8; left -= 8 {
		reward = (reward - reward%2) / 2
	}
	return impl.IntResult{Value: reward}
}

func plainBlockIn(l impl.Ledger, id int64) impl.BlockResult {
	told := plainTextOf(l, id)
	if told.Code != impl.OK {
		return impl.BlockResult{Code: told.Code}
	}
	return plainParseBlock(told.Text)
}

func plainTxIn(l impl.Ledger, id int64) impl.TxResult {
	told := plainTextOf(l, id)
	if told.Code != impl.OK {
		return impl.TxResult{Code: told.Code}
	}
	return plainParseTx(told.Text)
}

func sameBlocks(a, b impl.Block) bool {
	return a.Prev == b.Prev && a.Height == b.Height && a.Miner == b.Miner && slices.Equal(a.Txs, b.Txs)
}

func sameBlockResults(a, b impl.BlockResult) bool {
	return a.Code == b.Code && sameBlocks(a.Block, b.Block)
}

func blockOf(prev, height, miner int64, txs ...int64) impl.Block {
	return impl.Block{Prev: prev, Height: height, Miner: miner, Txs: txs}
}

// manyTxs has the numbers from 1 on, so many of them.
func manyTxs(n int) []int64 {
	var list []int64
	for i := range n {
		list = append(list, int64(i+1))
	}
	return list
}

type blockRow struct {
	block impl.Block
	text  string
}

func ordinaryBlocks() []blockRow {
	return []blockRow{
		{blockOf(0, 1, 3), "block 0 1 3 -"},
		{blockOf(0, 1, 1, 5), "block 0 1 1 5"},
		{blockOf(0, 1, 999, 60, 1), "block 0 1 999 60+1"},
		{blockOf(1, 2, 3, 4, 5), "block 1 2 3 4+5"},
		{blockOf(1, 2, 10), "block 1 2 10 -"},
		{blockOf(7, 10, 100, 10, 20, 30), "block 7 10 100 10+20+30"},
		{blockOf(59, 39, 998, 9, 8, 7, 6), "block 59 39 998 9+8+7+6"},
		{blockOf(5, 6, 7, 5), "block 5 6 7 5"},
		{blockOf(60, 40, 999, 60, 59, 58, 57, 56, 55), "block 60 40 999 60+59+58+57+56+55"},
		{blockOf(10, 20, 300, 1, 10, 11, 2, 20, 12), "block 10 20 300 1+10+11+2+20+12"},
	}
}

// holdBlockAgainstPlain asks both functions that take a block, and its text there and back.
func holdBlockAgainstPlain(t *testing.T, b impl.Block) {
	t.Helper()
	was := slices.Clone(b.Txs)
	if got, want := impl.BlockFault(b), plainBlockFault(b); got != want {
		t.Fatalf("BlockFault(%v) = %d, want %d", b, got, want)
	}
	text := impl.BlockText(b)
	if want := plainBlockText(b); text != want {
		t.Fatalf("BlockText(%v) = %v, want %v", b, text, want)
	}
	if text.Code == impl.OK {
		if back := impl.ParseBlock(text.Text); !sameBlockResults(back, impl.BlockResult{Block: b}) {
			t.Fatalf("ParseBlock(%q) = %v, want %v", text.Text, back, b)
		}
	}
	if !slices.Equal(b.Txs, was) {
		t.Fatalf("an argument was changed: %v, it was %v", b.Txs, was)
	}
}

// holdBlockTextAgainstPlain asks what is read from a text, and that a text that is read is just that of its block.
func holdBlockTextAgainstPlain(t *testing.T, text string) impl.BlockResult {
	t.Helper()
	got := impl.ParseBlock(text)
	if want := plainParseBlock(text); !sameBlockResults(got, want) {
		t.Fatalf("ParseBlock(%q) = %v, want %v", text, got, want)
	}
	if got.Code == impl.OK && impl.BlockText(got.Block) != (impl.TextResult{Text: text}) {
		t.Fatalf("ParseBlock(%q) is read, but its text is %v", text, impl.BlockText(got.Block))
	}
	return got
}

// Promise 8: ordinary blocks, there and back.

func TestBlockTexts(t *testing.T) {
	for _, row := range ordinaryBlocks() {
		if code := impl.BlockFault(row.block); code != impl.OK {
			t.Errorf("BlockFault %v: %d", row.block, code)
		}
		if r := impl.BlockText(row.block); r != (impl.TextResult{Text: row.text}) {
			t.Errorf("BlockText %v: %v", row.block, r)
		}
		if r := impl.ParseBlock(row.text); !sameBlockResults(r, impl.BlockResult{Block: row.block}) {
			t.Errorf("ParseBlock %q: %v", row.text, r)
		}
		holdBlockAgainstPlain(t, row.block)
		holdBlockTextAgainstPlain(t, row.text)
	}
}

func TestEveryHeadOfABlockIsReadBack(t *testing.T) {
	for prev := int64(-2); prev <= 62; prev++ {
		for height := int64(-2); height <= 42; height++ {
			holdBlockAgainstPlain(t, blockOf(prev, height, 3))
			holdBlockAgainstPlain(t, blockOf(prev, height, 0))
			holdBlockAgainstPlain(t, blockOf(prev, height, 3, 7, 7))
			holdBlockAgainstPlain(t, blockOf(prev, height, 999, 60, 1))
			holdBlockTextAgainstPlain(t, fmt.Sprintf("block %d %d 3 -", prev, height))
			holdBlockTextAgainstPlain(t, fmt.Sprintf("block %d %d 3 %d", prev, height, prev))
		}
	}
	for miner := int64(-2); miner <= 1002; miner++ {
		holdBlockAgainstPlain(t, blockOf(0, 1, miner))
		holdBlockAgainstPlain(t, blockOf(1, 2, miner, 3))
		holdBlockAgainstPlain(t, blockOf(0, 2, miner, 3))
		holdBlockTextAgainstPlain(t, fmt.Sprintf("block 0 1 %d -", miner))
		holdBlockTextAgainstPlain(t, fmt.Sprintf("block 1 2 %d 3+4", miner))
	}
}

func TestEveryTxOfABlockIsReadBack(t *testing.T) {
	for a := int64(-2); a <= 62; a++ {
		holdBlockAgainstPlain(t, blockOf(0, 1, 3, a))
		for b := int64(-2); b <= 62; b++ {
			holdBlockAgainstPlain(t, blockOf(1, 2, 3, a, b))
			holdBlockAgainstPlain(t, blockOf(1, 2, 3, 30, a, 31, b, 32))
			holdBlockTextAgainstPlain(t, fmt.Sprintf("block 1 2 3 %d+%d", a, b))
			holdBlockTextAgainstPlain(t, fmt.Sprintf("block 0 1 3 30+%d+31+%d+32+33", a, b))
		}
	}
}

func TestRandomBlocksAreReadBack(t *testing.T) {
	dice := rand.New(rand.NewSource(7))
	seen := map[string]int{}
	for range 20000 {
		b := blockOf(dice.Int63n(60)+1, dice.Int63n(39)+2, dice.Int63n(999)+1)
		if dice.Intn(8) == 0 {
			b.Prev, b.Height = 0, 1
		}
		for _, tx := range dice.Perm(60)[:dice.Intn(7)] {
			b.Txs = append(b.Txs, int64(tx+1))
		}
		holdBlockAgainstPlain(t, b)
		seen[fmt.Sprint(impl.BlockText(b).Code, len(b.Txs))]++
	}
	for n := range 7 {
		if seen[fmt.Sprint(impl.OK, n)] == 0 {
			t.Errorf("no block of %d transactions was tried: %v", n, seen)
		}
	}
}

// No two blocks have the same text: else one of them could not be read back.
func TestBlocksHaveTextsOfTheirOwn(t *testing.T) {
	texts := map[string]impl.Block{}
	listsOf([]int64{1, 11, 12, 2, 21}, 4, func(txs []int64) {
		for _, b := range []impl.Block{blockOf(0, 1, 1, txs...), blockOf(0, 1, 11, txs...), blockOf(1, 2, 1, txs...), blockOf(1, 21, 1, txs...), blockOf(12, 2, 1, txs...), blockOf(1, 2, 11, txs...)} {
			r := impl.BlockText(b)
			if r.Code != impl.OK {
				continue
			}
			if other, found := texts[r.Text]; found {
				t.Fatalf("%v and %v: %q", b, other, r.Text)
			}
			texts[r.Text] = b
		}
	})
	if len(texts) < 1000 {
		t.Error(len(texts))
	}
}

// The edges that the document names, and wrong blocks.

func wrongBlocks() []struct {
	name  string
	block impl.Block
	code  int64
} {
	return []struct {
		name  string
		block impl.Block
		code  int64
	}{
		{"the zero value", impl.Block{}, impl.ErrRange},
		{"Prev -1", blockOf(-1, 2, 3), impl.ErrRange},
		{"Prev 61", blockOf(61, 2, 3), impl.ErrRange},
		{"the lowest Prev there is", blockOf(math.MinInt64, 2, 3), impl.ErrRange},
		{"the highest Prev there is", blockOf(math.MaxInt64, 2, 3), impl.ErrRange},
		{"Height 0", blockOf(1, 0, 3), impl.ErrRange},
		{"Height 0, Prev 0", blockOf(0, 0, 3), impl.ErrRange},
		{"Height -1", blockOf(1, -1, 3), impl.ErrRange},
		{"Height 41", blockOf(1, 41, 3), impl.ErrRange},
		{"the lowest Height there is", blockOf(1, math.MinInt64, 3), impl.ErrRange},
		{"the highest Height there is", blockOf(1, math.MaxInt64, 3), impl.ErrRange},
		{"Miner 0", blockOf(0, 1, 0), impl.ErrRange},
		{"Miner -1", blockOf(0, 1, -1), impl.ErrRange},
		{"Miner 1000", blockOf(0, 1, 1000), impl.ErrRange},
		{"the lowest Miner there is", blockOf(0, 1, math.MinInt64), impl.ErrRange},
		{"the highest Miner there is", blockOf(0, 1, math.MaxInt64), impl.ErrRange},
		{"Prev 0, Height 2", blockOf(0, 2, 3), impl.ErrForm},
		{"Prev 0, Height 40", blockOf(0, 40, 3), impl.ErrForm},
		{"Prev 1, Height 1", blockOf(1, 1, 3), impl.ErrForm},
		{"Prev 60, Height 1", blockOf(60, 1, 3), impl.ErrForm},
		{"7 Txs", blockOf(1, 2, 3, 1, 2, 3, 4, 5, 6, 7), impl.ErrMany},
		{"very many Txs", blockOf(1, 2, 3, manyTxs(100000)...), impl.ErrMany},
		{"a Tx 0", blockOf(1, 2, 3, 0), impl.ErrRange},
		{"a Tx -1", blockOf(1, 2, 3, -1), impl.ErrRange},
		{"a Tx 61", blockOf(1, 2, 3, 61), impl.ErrRange},
		{"the lowest Tx there is", blockOf(1, 2, 3, 5, math.MinInt64), impl.ErrRange},
		{"the highest Tx there is", blockOf(1, 2, 3, 5, math.MaxInt64), impl.ErrRange},
		{"a Tx that is 1 in its last 32 bits", blockOf(1, 2, 3, 1<<32+1), impl.ErrRange},
		{"the last of 6 out of bounds", blockOf(1, 2, 3, 1, 2, 3, 4, 5, 61), impl.ErrRange},
		{"a Tx twice, side by side", blockOf(1, 2, 3, 4, 4), impl.ErrTaken},
		{"a Tx twice, apart", blockOf(1, 2, 3, 4, 5, 4), impl.ErrTaken},
		{"a Tx twice, at the ends of 6", blockOf(1, 2, 3, 4, 5, 6, 7, 8, 4), impl.ErrTaken},
		{"a Tx twice, the last two of 6", blockOf(1, 2, 3, 4, 5, 6, 7, 8, 8), impl.ErrTaken},
		{"a Tx six times", blockOf(1, 2, 3, 4, 4, 4, 4, 4, 4), impl.ErrTaken},

		{"Prev ahead of the first block's form", blockOf(-1, 1, 3), impl.ErrRange},
		{"Height ahead of the first block's form", blockOf(0, 41, 3), impl.ErrRange},
		{"Miner ahead of the first block's form", blockOf(0, 2, 0), impl.ErrRange},
		{"Miner ahead of the other block's form", blockOf(1, 1, 1000), impl.ErrRange},
		{"Miner ahead of 7 Txs", blockOf(1, 2, 0, manyTxs(7)...), impl.ErrRange},
		{"Miner ahead of a Tx twice", blockOf(1, 2, 0, 4, 4), impl.ErrRange},
		{"the form ahead of 7 Txs", blockOf(0, 2, 3, manyTxs(7)...), impl.ErrForm},
		{"the other form ahead of 7 Txs", blockOf(1, 1, 3, manyTxs(7)...), impl.ErrForm},
		{"the form ahead of a Tx out of bounds", blockOf(0, 2, 3, 61), impl.ErrForm},
		{"the form ahead of a Tx twice", blockOf(1, 1, 3, 4, 4), impl.ErrForm},
		{"7 Txs ahead of one out of bounds", blockOf(1, 2, 3, 0, 2, 3, 4, 5, 6, 7), impl.ErrMany},
		{"7 Txs ahead of one twice", blockOf(1, 2, 3, 4, 4, 4, 4, 4, 4, 4), impl.ErrMany},
		{"7 Txs with all faults", blockOf(1, 2, 3, make([]int64, 7)...), impl.ErrMany},
		{"a Tx twice ahead of one out of bounds", blockOf(1, 2, 3, 4, 4, 61), impl.ErrTaken},
		{"a Tx out of bounds ahead of one twice", blockOf(1, 2, 3, 61, 4, 4), impl.ErrRange},
		{"a Tx out of bounds between two that are the same", blockOf(1, 2, 3, 4, 61, 4), impl.ErrRange},
		{"a Tx out of bounds twice", blockOf(1, 2, 3, 61, 61), impl.ErrRange},
		{"a Tx 0 twice", blockOf(1, 2, 3, 0, 0), impl.ErrRange},
	}
}

func TestBlockFaultTellsTheFirstCode(t *testing.T) {
	for _, row := range wrongBlocks() {
		if code := impl.BlockFault(row.block); code != row.code {
			t.Errorf("%s: %d, want %d", row.name, code, row.code)
		}
		if r := impl.BlockText(row.block); r != (impl.TextResult{Code: row.code}) {
			t.Errorf("%s: BlockText: %v, want code %d alone", row.name, r, row.code)
		}
		if code := plainBlockFault(row.block); code != row.code {
			t.Errorf("%s: the plain reading says %d, want %d", row.name, code, row.code)
		}
	}
}

func TestBlocksAtTheirBounds(t *testing.T) {
	for _, b := range []impl.Block{
		blockOf(0, 1, 1), blockOf(0, 1, 999), blockOf(1, 2, 3), blockOf(60, 2, 3), blockOf(1, 40, 3), blockOf(60, 40, 3), blockOf(1, 2, 1), blockOf(1, 2, 999),
		blockOf(1, 2, 3, 1), blockOf(1, 2, 3, 60), blockOf(0, 1, 3, manyTxs(6)...), blockOf(1, 2, 3, 6, 5, 4, 3, 2, 1), blockOf(1, 2, 3, 1, 2), blockOf(60, 2, 3, 60),
	} {
		if code := impl.BlockFault(b); code != impl.OK {
			t.Errorf("%v: %d", b, code)
		}
		holdBlockAgainstPlain(t, b)
	}
	for n := range 9 {
		want := int64(impl.OK)
		if n > 6 {
			want = impl.ErrMany
		}
		if code := impl.BlockFault(blockOf(1, 2, 3, manyTxs(n)...)); code != want {
			t.Errorf("%d Txs: %d, want %d", n, code, want)
		}
	}
}

func TestHeadsOfBlocksByThePlainReading(t *testing.T) {
	odd := []int64{math.MinInt64, -1, 0, 1, 2, 39, 40, 41, 59, 60, 61, 998, 999, 1000, 1 << 32, 1<<32 + 1, math.MaxInt64}
	lists := [][]int64{nil, {}, {5}, {5, 5}, {61}, manyTxs(6), manyTxs(7)}
	for _, prev := range odd {
		for _, height := range odd {
			for _, miner := range odd {
				for _, txs := range lists {
					holdBlockAgainstPlain(t, blockOf(prev, height, miner, txs...))
				}
			}
		}
	}
}

func TestTxsOfBlocksByThePlainReading(t *testing.T) {
	listsOf([]int64{0, 1, 2, 60, 61}, 5, func(txs []int64) {
		holdBlockAgainstPlain(t, blockOf(0, 1, 3, txs...))
		holdBlockAgainstPlain(t, blockOf(1, 2, 3, txs...))
		holdBlockAgainstPlain(t, blockOf(0, 2, 3, txs...))
	})
	listsOf([]int64{1, 2, 61}, 7, func(txs []int64) {
		holdBlockAgainstPlain(t, blockOf(1, 2, 3, txs...))
	})
}

// What is mined.

func TestRewards(t *testing.T) {
	rows := map[int64]int64{1: 1000, 2: 1000, 7: 1000, 8: 1000, 9: 500, 15: 500, 16: 500, 17: 250, 24: 250, 25: 125, 32: 125, 33: 62, 39: 62, 40: 62}
	for height, reward := range rows {
		if r := impl.RewardOf(height); r != (impl.IntResult{Value: reward}) {
			t.Errorf("height %d: %v, want %d", height, r, reward)
		}
	}
	for _, height := range []int64{math.MinInt64, math.MinInt64 + 1, -64, -8, -7, -1, 0, 41, 42, 48, 49, 512, 1 << 32, 1<<32 + 1, math.MaxInt64 - 1, math.MaxInt64} {
		if r := impl.RewardOf(height); r != (impl.IntResult{Code: impl.ErrRange}) {
			t.Errorf("height %d: %v", height, r)
		}
	}
	for height := int64(-100); height <= 1000; height++ {
		if got, want := impl.RewardOf(height), plainReward(height); got != want {
			t.Errorf("height %d: %v, want %v", height, got, want)
		}
	}
}

// Promise 8: texts that nearly are one.

func TestTextsThatNearlyAreBlocks(t *testing.T) {
	digits, zeros := strings.Repeat("1", 100000), strings.Repeat("0", 100000)
	texts := []string{
		"", " ", "  ", "-", "+", "0", "block", "block ", "block -", "block 0", "block 0 ", "block 0 1", "block 0 1 ", "block 0 1 3", "block 0 1 3 ", "block 0 1 -", "block 0 -", "block 1 2 3", "block 1 2 3 ", "block 1 2 4+5",
		" block 0 1 3 -", "block  0 1 3 -", "block 0  1 3 -", "block 0 1  3 -", "block 0 1 3  -", "block 0 1 3 - ", "block 0 1 3 -  ", "block 1 2 3  4+5", "block 1 2 3 4+5 ", "block 1 2 3 4 +5", "block 1 2 3 4+ 5", "block 1 2 3 4 + 5",
		"block0 1 3 -", "block 01 3 -", "block 0 13 -", "block 0 1 3-", "block013-", "block 0 1 3-4", "block0 1 2 3 4", "block 12 3 4+5",
		"block 0 1 3 - -", "block 0 1 3 -1", "block 0 1 3 --", "block 0 1 3 3 -", "block 0 0 1 3 -", "block 0 1 3 - 4", "block 0 1 3 4 -", "block 1 2 3 4 5", "block 1 2 3 4+5 6", "block 1 2 3 4 5+6", "block block 0 1 3 -", "block 0 1 3 - block",
		"Block 0 1 3 -", "BLOCK 0 1 3 -", "blocks 0 1 3 -", "bloc 0 1 3 -", "lock 0 1 3 -", "blockblock 0 1 3 -", "pay 0 1 3 -", "0 1 3 -", " 0 1 3 -", "- 0 1 3 -", "pay 1:0 5=1_of_2", "1 of 2", "block: 0 1 3 -", "block\x00 0 1 3 -",
		"block 00 1 3 -", "block 0 01 3 -", "block 0 1 03 -", "block 0 1 003 -", "block 01 2 3 4", "block 1 2 3 04", "block 1 2 3 4+05", "block 1 2 3 00", "block 1 02 3 4+5", "block 1 2 3 004+5",
		"block +0 1 3 -", "block 0 +1 3 -", "block 0 1 +3 -", "block -0 1 3 -", "block 0 -1 3 -", "block 0 1 -3 -", "block -1 2 3 -", "block 1 2 3 -4", "block 1 2 3 4+-5", "block 1 2 3 +4", "block 1 2 3 +4+5", "block 1 2 3 4+5+", "block 1 2 3 4++5", "block 1 2 3 +", "block 1 2 3 ++", "block 1 2 3 4+", "block 1 2 3 4+++5",
		"block 1 2 3 -+4", "block 1 2 3 4+-", "block 1 2 3 4-5", "block 1 2 3 4+5-", "block 1 2 3 -4+5", "block 1 2 3 4+-+5", "block - 1 3 -", "block 0 - 3 -", "block 0 1 - -", "block - - - -", "block 1+2+3+4", "block 1+2 3 4", "block 0+1 3 -", "block 0+1+3 -", "block 0 1+3 -", "block 0 1 3+-", "block 0 1 3+4", "block 1 2+3 4+5", "block 1 2 3+4+5", "block 1 2 3 4,5", "block 1 2 3 4:5", "block 1 2 3 4_5", "block_0_1_3_-", "block 1 2 3 4.5",
		"block 0 1 x -", "block x 1 3 -", "block 0 x 3 -", "block 0 1 3 x", "block 1 2 3 4+x", "block 1 2 3 x+4", "block 0 1 3x -", "block 0 1 x3 -", "block 0 1 0x3 -", "block 0 1 3e0 -", "block 0 1 3.0 -", "block 0 1 1_0 -", "block 0 1 a -", "block 0 1 / -", "block 0 1 : -", "block 0 1 3/ -", "block 0 1 3: -", "block 1 2 3 /", "block 1 2 3 :", "block 0 1 3 /", "block 0 1 3 .", "block 0 1 3 ,",
		"block 61 2 3 -", "block 0 0 3 -", "block 1 0 3 -", "block 1 41 3 -", "block 0 1 0 -", "block 0 1 1000 -", "block 1 2 1000 4", "block 0 2 3 -", "block 1 1 3 -", "block 60 1 3 4", "block 0 40 3 4", "block 1 2 3 0", "block 1 2 3 61", "block 1 2 3 4+0", "block 1 2 3 4+61", "block 1 2 3 4+4", "block 1 2 3 4+5+4", "block 1 2 3 1+2+3+4+5+6+7", "block 1 2 3 1+2+3+4+5+6+6", "block 999 2 3 -", "block 1 999 3 -", "block 1 2 3 999", "block 1 2 3 100", "block 100 2 3 -",
		"block 0 1 3 -\n", "\nblock 0 1 3 -", "block\n0 1 3 -", "block\t0 1 3 -", "block 0\t1 3 -", "block 0 1 3\t-", "block 0 1 3 -\r", "block 0 1 3 -\x00", "\x00block 0 1 3 -", "block 0 1 \x00 -", "block 0 1 3\x00 -", "block 0 1 3 \x00", "block 0 1 3 -\xff", "block 0 1 \xff -", "block \xff 1 3 -", "block\u00a00 1 3 -", "block 0 1 3 \u2212", "block 0 1 ３ -", "block 0 1 ٣ -", "block 1 2 3 4\u207a5", "\ufeffblock 0 1 3 -", "block 0 1 \xb3 -", "block 0 1 3 \xad",
		"block 4294967296 1 3 -", "block 0 4294967297 3 -", "block 0 1 4294967299 -", "block 1 2 3 4294967300", "block 18446744073709551616 1 3 -", "block 0 18446744073709551617 3 -", "block 0 1 18446744073709551619 -", "block 1 2 3 18446744073709551620", "block 0 1 9223372036854775807 -", "block 0 1 -9223372036854775808 -", "block 256 1 3 -", "block 0 257 3 -", "block 0 1 3 4+260", "block 65536 1 3 -", "block 0 1 65539 -",
		digits, "block " + digits + " 1 3 -", "block 0 " + digits + " 3 -", "block 0 1 " + digits + " -", "block 0 1 3 " + digits, "block 1 2 3 4+" + digits, "block " + zeros + " 1 3 -", "block 0 " + zeros + "1 3 -", "block 0 1 " + zeros + "3 -", "block 1 2 3 " + zeros + "4", "block 0 1 3" + zeros + " -", "block" + digits,
		strings.Repeat(" ", 100000), strings.Repeat("block ", 100000), "block" + strings.Repeat(" 1", 100000), "block 1 2 3 4" + strings.Repeat("+5", 100000), "block 1 2 3 " + strings.Repeat("+", 100000), "block 0 1 3 " + strings.Repeat("-", 100000), strings.Repeat("block 0 1 3 -", 2), "block 0 1 3 -" + strings.Repeat(" ", 100000), "block" + strings.Repeat(" ", 100000) + "0 1 3 -",
	}
	for _, text := range texts {
		if r := impl.ParseBlock(text); !sameBlockResults(r, impl.BlockResult{Code: impl.ErrText}) {
			t.Errorf("ParseBlock of %.60q (%d bytes): %v", text, len(text), r)
		}
	}
}

// The text of a block that has a fault is none, whatever the fault.
func TestTextsOfBlocksWithAFault(t *testing.T) {
	for _, row := range wrongBlocks() {
		b := row.block
		last := "-"
		for i, tx := range b.Txs {
			if i == 0 {
				last = fmt.Sprint(tx)
			} else if i < 100 {
				last += fmt.Sprint("+", tx)
			}
		}
		text := fmt.Sprintf("block %d %d %d %s", b.Prev, b.Height, b.Miner, last)
		if r := holdBlockTextAgainstPlain(t, text); !sameBlockResults(r, impl.BlockResult{Code: impl.ErrText}) {
			t.Errorf("%s: ParseBlock(%q) = %v", row.name, text, r)
		}
	}
}

func TestChangedBlockTextsByThePlainReading(t *testing.T) {
	for _, row := range ordinaryBlocks() {
		text := row.text
		for at := range len(text) + 1 {
			holdBlockTextAgainstPlain(t, text[:at])
			holdBlockTextAgainstPlain(t, text[at:])
			for x := range 256 {
				holdBlockTextAgainstPlain(t, text[:at]+string([]byte{byte(x)})+text[at:])
				if at < len(text) {
					holdBlockTextAgainstPlain(t, text[:at]+string([]byte{byte(x)})+text[at+1:])
				}
			}
			if at < len(text) {
				holdBlockTextAgainstPlain(t, text[:at]+text[at+1:])
			}
			for end := at + 1; end <= len(text); end++ {
				holdBlockTextAgainstPlain(t, text[:at]+text[end:])
				holdBlockTextAgainstPlain(t, text[:end]+text[at:])
			}
		}
	}
}

func TestPiecedBlockTextsByThePlainReading(t *testing.T) {
	read := 0
	listsOf([]string{"block", "0", "1", "2", "3+4", "-", "+", ""}, 6, func(list []string) {
		if holdBlockTextAgainstPlain(t, strings.Join(list, " ")).Code == impl.OK {
			read++
		}
	})
	if read == 0 {
		t.Error("not one of them was read")
	}
}

func TestEndsOfBlockTextsByThePlainReading(t *testing.T) {
	read := 0
	listsOf([]string{"1", "2", "6", "0", "+", "-", " "}, 6, func(list []string) {
		end := strings.Join(list, "")
		if holdBlockTextAgainstPlain(t, "block 0 1 3 "+end).Code == impl.OK {
			read++
		}
		holdBlockTextAgainstPlain(t, "block 1 2"+end)
	})
	if read == 0 {
		t.Error("not one of them was read")
	}
	listsOf([]string{" ", "0", "1", "2", "-", "10"}, 7, func(list []string) {
		holdBlockTextAgainstPlain(t, "block"+strings.Join(list, ""))
	})
}

// Blocks and transactions in a ledger.

// mixedLedger has texts of each kind, and one of none of them.
func mixedLedger() impl.Ledger {
	return impl.Ledger{
		Texts: []string{"block 0 1 3 -", "pay 1:0 5=1_of_2", "1 of 2", "none of them", "block 1 2 3 4+5", "join 3 2:1 100=1_of_3", "leave 3 2:1 5=1_of_3 6=2_of_3,4_after_9", "block 0 2 3 -", "pay 0:0 5=1_of_2", " block 0 1 3 -", "block 60 40 999 60+59+58+57+56+55"},
		Signs: []impl.Sign{{Key: 7, Id: 2}, {Key: 3, Id: 1}, {Key: 7, Id: 11}},
	}
}

func holdInAgainstPlain(t *testing.T, l impl.Ledger, id int64) {
	t.Helper()
	was := copyLedger(l)
	if got, want := impl.BlockIn(l, id), plainBlockIn(l, id); !sameBlockResults(got, want) {
		t.Fatalf("BlockIn %d: %v, want %v", id, got, want)
	}
	if got, want := impl.TxIn(l, id), plainTxIn(l, id); !sameTxResults(got, want) {
		t.Fatalf("TxIn %d: %v, want %v", id, got, want)
	}
	if !sameLedgers(l, was) {
		t.Fatalf("an argument was changed: %v, it was %v", l, was)
	}
}

func TestBlocksAndTransactionsOfALedger(t *testing.T) {
	l := mixedLedger()
	noBlock, noTx := impl.BlockResult{Code: impl.ErrText}, impl.TxResult{Code: impl.ErrText}
	outside, outsideTx := impl.BlockResult{Code: impl.ErrRange}, impl.TxResult{Code: impl.ErrRange}
	rows := []struct {
		id    int64
		block impl.BlockResult
		tx    impl.TxResult
	}{
		{math.MinInt64, outside, outsideTx},
		{-1, outside, outsideTx},
		{0, outside, outsideTx},
		{1, impl.BlockResult{Block: blockOf(0, 1, 3)}, noTx},
		{2, noBlock, impl.TxResult{Tx: pay(refsOf(1, 0), outOf(5, 2))}},
		{3, noBlock, noTx},
		{4, noBlock, noTx},
		{5, impl.BlockResult{Block: blockOf(1, 2, 3, 4, 5)}, noTx},
		{6, noBlock, impl.TxResult{Tx: withMember(impl.KindJoin, 3, refsOf(2, 1), outOf(100, 3))}},
		{7, noBlock, impl.TxResult{Tx: withMember(impl.KindLeave, 3, refsOf(2, 1), outOf(5, 3), impl.Out{Value: 6, Rule: ruleWith(2, 9, 3, 4)})}},
		{8, noBlock, noTx},
		{9, noBlock, noTx},
		{10, noBlock, noTx},
		{11, impl.BlockResult{Block: blockOf(60, 40, 999, 60, 59, 58, 57, 56, 55)}, noTx},
		{12, outside, outsideTx},
		{1<<32 + 1, outside, outsideTx},
		{math.MaxInt64, outside, outsideTx},
	}
	for _, row := range rows {
		if r := impl.BlockIn(l, row.id); !sameBlockResults(r, row.block) {
			t.Errorf("BlockIn %d: %v, want %v", row.id, r, row.block)
		}
		if r := impl.TxIn(l, row.id); !sameTxResults(r, row.tx) {
			t.Errorf("TxIn %d: %v, want %v", row.id, r, row.tx)
		}
		holdInAgainstPlain(t, l, row.id)
	}
}

// A fault of the ledger comes ahead of a number that is none and of a text that cannot be read.
func TestBlocksOfALedgerWithAFault(t *testing.T) {
	rows := faultRows()
	for _, row := range faultRows() {
		if len(row.ledger.Texts) == 0 || row.ledger.Texts[0] == "" || len(row.ledger.Texts[0]) > 300 {
			continue
		}
		for _, text := range []string{"block 0 1 3 -", "pay 1:0 5=1_of_2"} {
			// One that could be read does not help either.
			l := copyLedger(row.ledger)
			was := l.Texts[0]
			for i := range l.Texts {
				if l.Texts[i] == was {
					l.Texts[i] = text
				}
			}
			rows = append(rows, faultRow{row.name + ", " + text, l, row.code})
		}
	}
	for _, row := range rows {
		for _, id := range []int64{-1, 0, 1, 2, 3, 60, 61} {
			if r := impl.BlockIn(row.ledger, id); !sameBlockResults(r, impl.BlockResult{Code: row.code}) {
				t.Errorf("%s: BlockIn %d: %v, want code %d alone", row.name, id, r, row.code)
			}
			if r := impl.TxIn(row.ledger, id); !sameTxResults(r, impl.TxResult{Code: row.code}) {
				t.Errorf("%s: TxIn %d: %v, want code %d alone", row.name, id, r, row.code)
			}
			holdInAgainstPlain(t, row.ledger, id)
		}
	}
}

func TestEmptyAndFullLedgersOfBlocks(t *testing.T) {
	for _, l := range []impl.Ledger{{}, {Texts: []string{}, Signs: []impl.Sign{}}} {
		for _, id := range []int64{-1, 0, 1, 2} {
			if r := impl.BlockIn(l, id); !sameBlockResults(r, impl.BlockResult{Code: impl.ErrRange}) {
				t.Errorf("BlockIn %d: %v", id, r)
			}
			if r := impl.TxIn(l, id); !sameTxResults(r, impl.TxResult{Code: impl.ErrRange}) {
				t.Errorf("TxIn %d: %v", id, r)
			}
		}
	}
	var full impl.Ledger
	for i := range 60 {
		text := fmt.Sprintf("block 0 1 %d -", i+1)
		if i%2 == 1 {
			text = fmt.Sprintf("pay %d:0 5=1_of_2", i+1)
		}
		full = impl.NoteText(full, text).Ledger
	}
	for id := int64(-1); id <= 62; id++ {
		holdInAgainstPlain(t, full, id)
	}
	if r := impl.TxIn(full, 60); r.Code != impl.OK || r.Tx.Ins[0].Tx != 60 {
		t.Error(r)
	}
	if r := impl.BlockIn(full, 59); r.Code != impl.OK || r.Block.Miner != 59 {
		t.Error(r)
	}
}

// What is noted of a block or a transaction is told again by its number.
func TestNotedBlocksAreToldAgain(t *testing.T) {
	var l impl.Ledger
	for _, row := range ordinaryBlocks() {
		noted := impl.NoteText(l, impl.BlockText(row.block).Text)
		l = noted.Ledger
		if r := impl.BlockIn(l, noted.Id); !sameBlockResults(r, impl.BlockResult{Block: row.block}) {
			t.Errorf("%q: %v", row.text, r)
		}
	}
	for _, row := range ordinaryTxs() {
		noted := impl.NoteText(l, impl.TxText(row.tx).Text)
		l = noted.Ledger
		if r := impl.TxIn(l, noted.Id); !sameTxResults(r, impl.TxResult{Tx: row.tx}) {
			t.Errorf("%q: %v", row.text, r)
		}
	}
	for i, row := range ordinaryBlocks() {
		if r := impl.BlockIn(l, int64(i+1)); !sameBlockResults(r, impl.BlockResult{Block: row.block}) {
			t.Errorf("%q, asked later: %v", row.text, r)
		}
	}
}

// Promise 1: memory, nil and empty, the same again.

func TestBlocksAreNotChanged(t *testing.T) {
	var blocks []impl.Block
	for _, row := range ordinaryBlocks() {
		blocks = append(blocks, row.block)
	}
	for _, row := range wrongBlocks() {
		blocks = append(blocks, row.block)
	}
	for _, b := range blocks {
		// There is space behind the list: who appends to one that was handed in writes there.
		whole := append(slices.Clone(b.Txs), 77, 78)
		was := slices.Clone(whole)
		shown := b
		shown.Txs = whole[:len(b.Txs)]
		impl.BlockFault(shown)
		impl.BlockText(shown)
		if !slices.Equal(whole, was) {
			t.Errorf("an argument was changed: %v, it was %v", whole, was)
		}
	}
	l, texts, signs := roomy(mixedLedger())
	wasTexts, wasSigns := slices.Clone(texts), slices.Clone(signs)
	for id := int64(-1); id <= 14; id++ {
		impl.BlockIn(l, id)
		impl.TxIn(l, id)
	}
	if !slices.Equal(texts, wasTexts) || !slices.Equal(signs, wasSigns) {
		t.Error("the ledger was changed:", texts, signs)
	}
}

func TestAnswersOfBlocksShareNoMemory(t *testing.T) {
	l := mixedLedger()
	last := int64(len(l.Texts))
	calls := map[string]func() impl.BlockResult{
		"ParseBlock": func() impl.BlockResult { return impl.ParseBlock(l.Texts[last-1]) },
		"BlockIn":    func() impl.BlockResult { return impl.BlockIn(l, last) },
	}
	want := blockOf(60, 40, 999, 60, 59, 58, 57, 56, 55)
	for name, call := range calls {
		a, b := call(), call()
		spoilNumbers(a.Block.Txs)
		if !sameBlockResults(b, impl.BlockResult{Block: want}) || !sameBlockResults(call(), b) {
			t.Errorf("%s: who writes to one answer writes to another: %v", name, b)
		}
	}
	a, b := impl.TxIn(l, 7).Tx, impl.TxIn(l, 7).Tx
	was := copyTx(b)
	spoilRefs(a.Ins)
	spoilNumbers(a.Outs[0].Rule.Keys)
	if !slices.Equal(a.Outs[1].Rule.Keys, []int64{3, 4}) {
		t.Error("the rules of one answer share memory:", a)
	}
	clear(a.Outs[:cap(a.Outs)])
	if !plainSameTxs(b, was) || !plainSameTxs(impl.TxIn(l, 7).Tx, was) {
		t.Error("TxIn: who writes to one answer writes to another:", b)
	}
	told := impl.BlockIn(l, last)
	spoil(l)
	if !sameBlocks(told.Block, want) || !plainSameTxs(b, was) {
		t.Error("who writes to the ledger writes to the answer:", told, b)
	}
}

func TestEmptyAndNilOfBlocksAreTheSame(t *testing.T) {
	for _, head := range []impl.Block{blockOf(0, 1, 3), blockOf(1, 2, 3), blockOf(0, 2, 3), {}} {
		empty := head
		head.Txs, empty.Txs = nil, []int64{}
		if impl.BlockFault(head) != impl.BlockFault(empty) || impl.BlockText(head) != impl.BlockText(empty) {
			t.Error(head)
		}
	}
	if r := impl.BlockText(impl.Block{Height: 1, Miner: 3, Txs: []int64{}}); r != (impl.TextResult{Text: "block 0 1 3 -"}) {
		t.Error(r)
	}
	if r := impl.ParseBlock("block 0 1 3 -"); r.Code != impl.OK || len(r.Block.Txs) != 0 {
		t.Error(r)
	}
}

// What was asked in between, and what could not be read, leaves no trace.
func TestBlocksHangOnTheArgumentsAlone(t *testing.T) {
	rows := ordinaryBlocks()
	l := mixedLedger()
	for range 3 {
		for _, row := range rows {
			for _, wrong := range []string{"", "block", "block 1 2 3", row.text + " ", row.text + "+", "x" + row.text} {
				if r := impl.ParseBlock(wrong); !sameBlockResults(r, impl.BlockResult{Code: impl.ErrText}) {
					t.Errorf("ParseBlock %q: %v", wrong, r)
				}
			}
			impl.BlockIn(l, 1)
			impl.TxIn(l, 1)
			if r := impl.ParseBlock(row.text); !sameBlockResults(r, impl.BlockResult{Block: row.block}) {
				t.Errorf("ParseBlock %q: %v", row.text, r)
			}
			if r := impl.BlockText(row.block); r != (impl.TextResult{Text: row.text}) {
				t.Errorf("BlockText %v: %v", row.block, r)
			}
			if r := impl.RewardOf(row.block.Height); r != plainReward(row.block.Height) {
				t.Errorf("RewardOf %d: %v", row.block.Height, r)
			}
			if r := impl.BlockIn(l, 5); !sameBlockResults(r, impl.BlockResult{Block: blockOf(1, 2, 3, 4, 5)}) {
				t.Error(r)
			}
		}
		slices.Reverse(rows)
	}
}

func TestConstantsOfBlocks(t *testing.T) {
	if impl.MaxBlockTxs != 6 || impl.MaxHeight != 40 {
		t.Error(impl.MaxBlockTxs, impl.MaxHeight)
	}
}
