package impl

const OK = 0
const ErrForm = 1
const ErrMany = 2
const ErrRange = 3
const ErrNone = 4
const ErrText = 5
const ErrSign = 6
const ErrTaken = 7
const ErrValue = 8
const ErrEarly = 9
const ErrState = 10
const MaxTexts = 60
const MaxSigns = 120
const MaxText = 300

type Sign struct {
	Key int64
	Id  int64
}
type Ledger struct {
	Texts []string
	Signs []Sign
}
type LedgerResult struct {
	Code   int64
	Id     int64
	Ledger Ledger
}
type IntResult struct {
	Code  int64
	Value int64
}
type IntsResult struct {
	Code int64
	List []int64
}
type TextResult struct {
	Code int64
	Text string
}

const maxKey = 999

// twoWay numbers what it holds from 1 on, so that 0 is free to say that something is not there.
type twoWay[T comparable] struct {
	items   []T
	numbers map[T]int64
}

func newTwoWay[T comparable]() *twoWay[T] {
	return &twoWay[T]{numbers: map[T]int64{}}
}

func (w *twoWay[T]) count() int64 {
	return int64(len(w.items))
}

func (w *twoWay[T]) numberOf(item T) int64 {
	return w.numbers[item]
}

func (w *twoWay[T]) hasNumber(number int64) bool {
	return isWithin(number, 1, w.count())
}

// itemOf answers the zero value at a number that is none, so that no caller can make it panic.
func (w *twoWay[T]) itemOf(number int64) T {
	if !w.hasNumber(number) {
		var none T
		return none
	}
	return w.items[number-1]
}

// add is false where the item is held already: a second number would make the way back unclear.
func (w *twoWay[T]) add(item T) bool {
	if w.numberOf(item) != 0 {
		return false
	}
	w.items = append(w.items, item)
	w.numbers[item] = w.count()
	return true
}

// book is a ledger that has no fault, in tables of its own: nothing in it is memory of an argument.
type book struct {
	texts *twoWay[string]
	signs *twoWay[Sign]
}

func (b book) ledger() Ledger {
	return Ledger{Texts: b.texts.items, Signs: b.signs.items}
}

func (b book) hasSign(key int64, id int64) bool {
	return b.signs.numberOf(Sign{Key: key, Id: id}) != 0
}

func isWithin(number int64, low int64, high int64) bool {
	return low <= number && number <= high
}

func isKey(key int64) bool {
	return isWithin(key, 1, maxKey)
}

func isTextLength(text string) bool {
	return isWithin(int64(len(text)), 1, MaxText)
}

func readTexts(list []string) (*twoWay[string], int64) {
	texts := newTwoWay[string]()
	for _, text := range list {
		if !isTextLength(text) {
			return nil, ErrMany
		}
		if !texts.add(text) {
			return nil, ErrTaken
		}
	}
	return texts, OK
}

func readSigns(list []Sign, lastId int64) (*twoWay[Sign], int64) {
	signs := newTwoWay[Sign]()
	for _, sign := range list {
		if !isKey(sign.Key) || !isWithin(sign.Id, 1, lastId) {
			return nil, ErrRange
		}
		if !signs.add(sign) {
			return nil, ErrTaken
		}
	}
	return signs, OK
}

func readLedger(l Ledger) (book, int64) {
	if len(l.Texts) > MaxTexts || len(l.Signs) > MaxSigns {
		return book{}, ErrMany
	}
	texts, code := readTexts(l.Texts)
	if code != OK {
		return book{}, code
	}
	signs, code := readSigns(l.Signs, texts.count())
	if code != OK {
		return book{}, code
	}
	return book{texts: texts, signs: signs}, OK
}

func LedgerFault(l Ledger) int64 {
	_, code := readLedger(l)
	return code
}

func IdOf(l Ledger, text string) IntResult {
	b, code := readLedger(l)
	if code != OK {
		return IntResult{Code: code}
	}
	id := b.texts.numberOf(text)
	if id == 0 {
		return IntResult{Code: ErrNone}
	}
	return IntResult{Value: id}
}

func NoteText(l Ledger, text string) LedgerResult {
	b, code := readLedger(l)
	if code != OK {
		return LedgerResult{Code: code}
	}
	if !isTextLength(text) {
		return LedgerResult{Code: ErrMany}
	}
	// A full ledger still tells the number of a text that it has: room is asked for a new one alone.
	if b.texts.numberOf(text) == 0 && b.texts.count() >= MaxTexts {
		return LedgerResult{Code: ErrMany}
	}
	b.texts.add(text)
	return LedgerResult{Id: b.texts.numberOf(text), Ledger: b.ledger()}
}

// textOf is apart from TextOf so that who asks for many texts reads the ledger once.
func (b book) textOf(id int64) TextResult {
	if !b.texts.hasNumber(id) {
		return TextResult{Code: ErrRange}
	}
	return TextResult{Text: b.texts.itemOf(id)}
}

func TextOf(l Ledger, id int64) TextResult {
	b, code := readLedger(l)
	if code != OK {
		return TextResult{Code: code}
	}
	return b.textOf(id)
}

func SignId(l Ledger, key int64, id int64) LedgerResult {
	b, code := readLedger(l)
	if code != OK {
		return LedgerResult{Code: code}
	}
	if !isKey(key) || !b.texts.hasNumber(id) {
		return LedgerResult{Code: ErrRange}
	}
	sign := Sign{Key: key, Id: id}
	// As with texts: who has signed already needs no room for it.
	if b.signs.numberOf(sign) == 0 && b.signs.count() >= MaxSigns {
		return LedgerResult{Code: ErrMany}
	}
	b.signs.add(sign)
	return LedgerResult{Id: id, Ledger: b.ledger()}
}

func HasSign(l Ledger, key int64, id int64) bool {
	b, code := readLedger(l)
	return code == OK && b.hasSign(key, id)
}

func SignsOf(l Ledger, id int64) IntsResult {
	b, code := readLedger(l)
	if code != OK {
		return IntsResult{Code: code}
	}
	if !b.texts.hasNumber(id) {
		return IntsResult{Code: ErrRange}
	}
	var keys []int64
	for _, sign := range b.signs.items {
		if sign.Id == id {
			keys = append(keys, sign.Key)
		}
	}
	return IntsResult{List: keys}
}
