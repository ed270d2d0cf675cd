package tests

import (
	"fmt"
	"math"
	"slices"
	"strings"
	"testing"

	"loop.example/g00735/impl"
)

func bookOf(l ...impl.Acct) impl.Book {
	return impl.Book{Accts: l}
}

// named is an account like a with another number.
func named(id string, a impl.Acct) impl.Acct {
	a = clonedAcct(a)
	a.Id = id
	return a
}

func clonedBook(b impl.Book) impl.Book {
	var cloned impl.Book
	for _, a := range b.Accts {
		cloned.Accts = append(cloned.Accts, clonedAcct(a))
	}
	return cloned
}

// bookText writes a book such that equal books, and only these, have one text.
func bookText(b impl.Book) string {
	text := ""
	for _, a := range b.Accts {
		text += acctText(a) + "\n"
	}
	return text
}

// bookOkByHand looks at all pairs instead of neighbors.
func bookOkByHand(b impl.Book) bool {
	if len(b.Accts) > 6 {
		return false
	}
	for i, a := range b.Accts {
		if !acctOkByHand(a) {
			return false
		}
		for _, later := range b.Accts[i+1:] {
			if strings.Compare(a.Id, later.Id) >= 0 {
				return false
			}
		}
	}
	return true
}

// bookAtByHand goes backwards and overwrites, so that the first account remains.
func bookAtByHand(b impl.Book, id string) int {
	at := -1
	for i := len(b.Accts) - 1; i >= 0; i-- {
		if b.Accts[i].Id == id {
			at = i
		}
	}
	return at
}

func bookPutByHand(b impl.Book, a impl.Acct) (impl.Book, bool) {
	at := bookAtByHand(b, a.Id)
	if at < 0 || !bookOkByHand(b) || !acctOkByHand(a) {
		return impl.Book{}, false
	}
	put := clonedBook(b)
	put.Accts[at] = clonedAcct(a)
	return put, true
}

func bookTimeByHand(b impl.Book, now int) impl.Book {
	var at impl.Book
	for _, a := range b.Accts {
		at.Accts = append(at.Accts, acctAtByHand(a, now))
	}
	return at
}

// bookIds are in ascending order, which is neither that of their lengths nor that of the numbers they write.
func bookIds() []string {
	return []string{"00", "000", "109", "18", "26", "79927398713"}
}

// otherIds are account numbers that no book has, and strings that are none.
func otherIds() []string {
	return []string{"34", "59", "0000", "4539578763621486", "", "1", "8", "018", "18 ", " 18", "19", "180", "x", "\xff", strings.Repeat("0", 20)}
}

// sixAccts differ in all of their parts.
func sixAccts() impl.Book {
	ids := bookIds()
	return bookOf(
		named(ids[0], someAcct()), named(ids[1], acctWith(impl.MaxLimit, 5, hold("a", impl.MaxLimit-5, 9))), named(ids[2], acctWith(0, 0)),
		named(ids[3], changedAcct(func(a *impl.Acct) { a.Slots = fullSlots() })),
		named(ids[4], changedAcct(func(a *impl.Acct) { a.Ring, a.Slots = ringWith(8, 7, 3), nil })),
		named(ids[5], acctWith(100, 20, holdsWith("a", "b", "c", "d")...)),
	)
}

// goodBooks are all books of some of the six accounts, and the empty ones.
func goodBooks() []impl.Book {
	l := []impl.Book{{Accts: []impl.Acct{}}}
	for mask := range 1 << 6 {
		var b impl.Book
		for i, a := range sixAccts().Accts {
			if mask>>i&1 == 1 {
				b.Accts = append(b.Accts, a)
			}
		}
		l = append(l, b)
	}
	return l
}

func changedBook(change func(l []impl.Acct) []impl.Acct) impl.Book {
	return bookOf(change(sixAccts().Accts)...)
}

func oddBooks() []impl.Book {
	six := sixAccts().Accts
	seven := append(sixAccts().Accts, named("91", someAcct()))
	l := []impl.Book{bookOf(impl.Acct{}), bookOf(impl.Acct{}, six[0]), bookOf(seven...), bookOf(slices.Repeat(six, 30)...), bookOf(six[3], six[2])}
	for i := range six {
		for _, a := range fewAccts() {
			if !acctOkByHand(named(six[i].Id, a)) {
				l = append(l, changedBook(func(l []impl.Acct) []impl.Acct { l[i] = named(l[i].Id, a); return l }))
			}
		}
		for _, id := range otherIds() {
			l = append(l, changedBook(func(l []impl.Acct) []impl.Acct { l[i].Id = id; return l }))
		}
		l = append(l, bookOf(slices.Delete(slices.Clone(seven), i, i+1)...))
		for j := range i {
			l = append(l,
				changedBook(func(l []impl.Acct) []impl.Acct { l[i], l[j] = l[j], l[i]; return l }),
				changedBook(func(l []impl.Acct) []impl.Acct { l[i].Id = l[j].Id; return l }),
				changedBook(func(l []impl.Acct) []impl.Acct { l[i] = l[j]; return l }),
				bookOf(six[i], six[j]), bookOf(six[j], six[j]))
		}
	}
	return slices.DeleteFunc(l, bookOkByHand)
}

func allBooks() []impl.Book {
	return slices.Concat(goodBooks(), oddBooks())
}

func TestP10ConstantsOfChapter13(t *testing.T) {
	if impl.MaxAccts != 6 {
		t.Error("MaxAccts is", impl.MaxAccts)
	}
}

func TestP10BookOkByExample(t *testing.T) {
	a := someAcct()
	for name, c := range map[string]struct {
		b    impl.Book
		want bool
	}{
		"no account":                    {impl.Book{}, true},
		"one":                           {bookOf(a), true},
		"two":                           {bookOf(named("18", a), named("26", a)), true},
		"two exchanged":                 {bookOf(named("26", a), named("18", a)), false},
		"one twice":                     {bookOf(a, a), false},
		"one Id twice":                  {bookOf(a, acctWith(7, 0)), false},
		"a prefix first":                {bookOf(named("00", a), named("000", a)), true},
		"a prefix last":                 {bookOf(named("000", a), named("00", a)), false},
		"a long number first":           {bookOf(named("109", a), named("18", a)), true},
		"a long number last":            {bookOf(named("18", a), named("109", a)), false},
		"an account that is not valid":  {bookOf(acctWith(10, 11)), false},
		"the last one not valid":        {bookOf(named("18", a), named("26", acctWith(10, 11))), false},
		"an account without an Id":      {bookOf(named("", a)), false},
		"the zero value as an account":  {bookOf(impl.Acct{}), false},
		"six accounts":                  {sixAccts(), true},
		"seven accounts":                {bookOf(append(sixAccts().Accts, named("91", a))...), false},
		"one Id at both ends":           {bookOf(named("18", a), named("26", a), named("18", a)), false},
		"one in between not in order":   {bookOf(named("18", a), named("34", a), named("26", a), named("42", a)), false},
		"an account with more than fit": {bookOf(acctWith(1000, 0, holdsWith("a", "b", "c", "d", "e")...)), false},
	} {
		if got := impl.BookOk(c.b); got != c.want {
			t.Errorf("%s: BookOk = %v", name, got)
		}
	}
}

func TestP10BookOk(t *testing.T) {
	for _, b := range allBooks() {
		if got, want := impl.BookOk(b), bookOkByHand(b); got != want {
			t.Errorf("BookOk(%+v) = %v", b, got)
		}
	}
	for _, a := range allAccts() {
		if got, want := impl.BookOk(bookOf(a)), acctOkByHand(a); got != want {
			t.Errorf("BookOk of %+v alone = %v", a, got)
		}
	}
}

func TestP10BookAt(t *testing.T) {
	b := bookOf(named("26", someAcct()), named("18", someAcct()), named("26", acctWith(7, 0)), impl.Acct{})
	for id, want := range map[string]int{"26": 0, "18": 1, "": 3, "34": -1, "2": -1, "268": -1} {
		if got := impl.BookAt(b, id); got != want {
			t.Errorf("BookAt of %q = %d; want %d", id, got, want)
		}
	}
	for _, b := range allBooks() {
		for _, id := range slices.Concat(bookIds(), otherIds()) {
			if got, want := impl.BookAt(b, id), bookAtByHand(b, id); got != want {
				t.Errorf("BookAt(%+v, %q) = %d; want %d", b, id, got, want)
			}
		}
	}
}

func TestP10BookPutByExample(t *testing.T) {
	a, b := named("18", acctWith(100, 30)), named("26", acctWith(200, 40))
	changed := named("26", acctWith(300, 50, hold("x", 5, 9)))
	if got, ok := impl.BookPut(bookOf(a, b), changed); !ok || bookText(got) != bookText(bookOf(a, changed)) {
		t.Errorf("BookPut of the last account = %+v, %v", got, ok)
	}
	if got, ok := impl.BookPut(bookOf(a, b), a); !ok || bookText(got) != bookText(bookOf(a, b)) {
		t.Errorf("BookPut of an equal account = %+v, %v", got, ok)
	}
	for name, c := range map[string]struct {
		b impl.Book
		a impl.Acct
	}{
		"no such account":             {bookOf(a, b), named("34", changed)},
		"no account at all":           {impl.Book{}, changed},
		"an account that is not one":  {bookOf(a, b), named("26", acctWith(10, 11))},
		"a book that is not one":      {bookOf(b, a), changed},
		"a book that it would repair": {bookOf(a, named("26", acctWith(10, 11))), changed},
		"the zero values":             {impl.Book{}, impl.Acct{}},
		"an account without a number": {bookOf(impl.Acct{}), impl.Acct{}},
	} {
		if got, ok := impl.BookPut(c.b, c.a); ok || bookText(got) != "" {
			t.Errorf("%s: BookPut = %+v, %v", name, got, ok)
		}
	}
}

func TestP10BookPut(t *testing.T) {
	for _, b := range allBooks() {
		for _, id := range slices.Concat(bookIds(), []string{"34", "", "19"}) {
			for _, a := range []impl.Acct{acctWith(7, 3, hold("z", 2, 50)), acctWith(7, 8), {}} {
				a.Id = id
				got, ok := impl.BookPut(b, a)
				want, wantOk := bookPutByHand(b, a)
				if ok != wantOk || bookText(got) != bookText(want) {
					t.Errorf("BookPut(%+v, %+v) = %+v, %v; want %v", b, a, got, ok, wantOk)
				}
			}
		}
	}
	for _, a := range allAccts() {
		b := bookOf(named(a.Id, acctWith(7, 3)))
		got, ok := impl.BookPut(b, a)
		want, wantOk := bookPutByHand(b, a)
		if ok != wantOk || bookText(got) != bookText(want) {
			t.Errorf("BookPut of %+v = %+v, %v; want %v", a, got, ok, wantOk)
		}
	}
}

func TestP10BookTime(t *testing.T) {
	for _, b := range append(allBooks(), bookOf(fewAccts()...), bookOf(servedAccts()...)) {
		for _, now := range []int{math.MinInt, -1, 0, 9, 10, 15, 20, 30, 40, 1000, impl.MaxTime, impl.MaxTime + 1, math.MaxInt} {
			got, want := impl.BookTime(b, now), bookTimeByHand(b, now)
			if bookText(got) != bookText(want) {
				t.Errorf("BookTime(%+v, %d) = %+v; want %+v", b, now, got, want)
			}
		}
	}
}

func TestP10BookSameSeesEveryField(t *testing.T) {
	three := func(at int, change func(a *impl.Acct)) impl.Book {
		b := bookOf(named("18", someAcct()), named("26", someAcct()), someAcct())
		change(&b.Accts[at])
		return b
	}
	for at := range 3 {
		whole := three(at, func(*impl.Acct) {})
		if !impl.BookSame(whole, whole) || !impl.BookSame(whole, clonedBook(whole)) {
			t.Error("a book is not the same as itself")
		}
		for name, change := range acctChanges() {
			b := three(at, change)
			if bookText(b) == bookText(whole) {
				continue
			}
			if impl.BookSame(whole, b) || impl.BookSame(b, whole) {
				t.Errorf("%s: BookSame does not see the change in account %d", name, at)
			}
			if !impl.BookSame(b, three(at, change)) {
				t.Errorf("%s in account %d: not the same as itself", name, at)
			}
		}
	}
	if !impl.BookSame(impl.Book{}, impl.Book{Accts: []impl.Acct{}}) || !impl.BookSame(impl.Book{Accts: []impl.Acct{}}, impl.Book{}) {
		t.Error("nil differs from an empty list")
	}
}

func TestP10BookSame(t *testing.T) {
	l := allBooks()
	var texts []string
	for _, b := range l {
		texts = append(texts, bookText(b))
	}
	for i, a := range l {
		for j, b := range l {
			if got := impl.BookSame(a, b); got != (texts[i] == texts[j]) {
				t.Errorf("BookSame(%+v, %+v) = %v", a, b, got)
			}
		}
	}
}

// dealByHand executes a request with the operations by hand of the other tests.
func dealByHand(b impl.Book, q impl.Req, now int) (impl.Book, int, string) {
	if !bookOkByHand(b) || !reqOkByHand(q) || !timeByHand(now) {
		return impl.Book{}, 1, ""
	}
	at, other := bookAtByHand(b, q.Acct), bookAtByHand(b, q.Other)
	if at < 0 || q.Op == 6 && other < 0 {
		return impl.Book{}, 3, ""
	}
	done, code, told := clonedBook(b), 0, ""
	c := call{q.Hold, q.Amount, q.Ttl, q.Op == 4, now}
	switch q.Op {
	case 6:
		var x, y impl.Acct
		x, y, code = moveByHand(b.Accts[at], b.Accts[other], c)
		done.Accts[at] = x
		done.Accts[other] = y
	case 7:
		told, code = askByHand(b.Accts[at], now)
	default:
		change := map[int]change{1: authorizeByHand, 2: moreByHand, 3: captureByHand, 4: captureByHand, 5: freeByHand, 8: sweepByHand}[q.Op]
		done.Accts[at], code = change(b.Accts[at], c)
	}
	if code != 0 {
		return impl.Book{}, code, ""
	}
	return done, 0, told
}

func checkDeal(t *testing.T, b impl.Book, q impl.Req, now int) {
	t.Helper()
	got, code, told := impl.Deal(b, q, now)
	want, wantCode, wantTold := dealByHand(b, q, now)
	if code != wantCode || told != wantTold || bookText(got) != bookText(want) {
		t.Fatalf("Deal(%+v, %+v, %d) = %+v, %d, %q; want %+v, %d, %q", b, q, now, got, code, told, want, wantCode, wantTold)
	}
	if code == impl.RsOk && !impl.BookOk(got) {
		t.Fatalf("Deal(%+v, %+v, %d) is not valid: %+v", b, q, now, got)
	}
}

// brief writes what is posted, the holds, and what the windows of a book count at now.
func brief(b impl.Book, now int) string {
	var l []string
	for _, a := range b.Accts {
		text := fmt.Sprintf("%s %d", a.Id, a.Posted)
		for _, h := range a.Holds {
			text += fmt.Sprintf(" %s:%d@%d", h.Id, h.Amount, h.Due)
		}
		count, sum := totalsByHand(a.Ring, now)
		l = append(l, text+fmt.Sprintf(" %d/%d", count, sum))
	}
	return strings.Join(l, ", ")
}

// twoAccts have, at 10, a room of 60 and of 40; the hold old has expired then.
func twoAccts(t *testing.T) impl.Book {
	t.Helper()
	a, ok := impl.AcctNew("18", 120, 3, 90, 4, 5)
	b, other := impl.AcctNew("26", 60, 3, 90, 4, 5)
	if !ok || !other {
		t.Fatal("AcctNew fails")
	}
	a.Posted, a.Holds = 30, []impl.Hold{hold("a", 30, 50), hold("old", 20, 5)}
	b.Holds = []impl.Hold{hold("b", 20, 40)}
	return bookOf(a, b)
}

// reqFrom is a request for the account 18 with contents in the fields that the operation uses.
func reqFrom(op int, held string, amount, ttl int, other string) impl.Req {
	o := opsByHand()[op-1]
	q := impl.Req{Op: op, Mti: o.mti, Acct: "18", Trace: "000001"}
	if o.use("Hold") {
		q.Hold = held
	}
	if o.use("Amount") {
		q.Amount = amount
	}
	if o.use("Ttl") {
		q.Ttl = ttl
	}
	if o.use("Other") {
		q.Other = other
	}
	return q
}

func TestP10DealByExample(t *testing.T) {
	for name, c := range map[string]struct {
		q    impl.Req
		code int
		left string
	}{
		"auth":                       {reqFrom(impl.OqAuth, "h1", 60, 7, ""), impl.RsOk, "18 30 a:30@50 h1:60@17 1/60, 26 0 b:20@40 0/0"},
		"auth beyond the room":       {reqFrom(impl.OqAuth, "h1", 61, 7, ""), impl.RsFunds, ""},
		"auth for nothing":           {reqFrom(impl.OqAuth, "h1", 0, 7, ""), impl.RsBad, ""},
		"auth for no time":           {reqFrom(impl.OqAuth, "h1", 60, 0, ""), impl.RsBad, ""},
		"auth twice":                 {reqFrom(impl.OqAuth, "a", 1, 7, ""), impl.RsTwice, ""},
		"auth after an expired hold": {reqFrom(impl.OqAuth, "old", 1, 7, ""), impl.RsOk, "18 30 a:30@50 old:1@17 1/1, 26 0 b:20@40 0/0"},
		"more":                       {reqFrom(impl.OqMore, "a", 60, 0, ""), impl.RsOk, "18 30 a:90@50 1/60, 26 0 b:20@40 0/0"},
		"more beyond the room":       {reqFrom(impl.OqMore, "a", 61, 0, ""), impl.RsFunds, ""},
		"more of no hold":            {reqFrom(impl.OqMore, "old", 1, 0, ""), impl.RsHold, ""},
		"part":                       {reqFrom(impl.OqPart, "a", 10, 0, ""), impl.RsOk, "18 40 a:20@50 0/0, 26 0 b:20@40 0/0"},
		"part, all of it":            {reqFrom(impl.OqPart, "a", 30, 0, ""), impl.RsOk, "18 60 0/0, 26 0 b:20@40 0/0"},
		"part, beyond it":            {reqFrom(impl.OqPart, "a", 31, 0, ""), impl.RsFunds, ""},
		"part of another's hold":     {reqFrom(impl.OqPart, "b", 1, 0, ""), impl.RsHold, ""},
		"final":                      {reqFrom(impl.OqFinal, "a", 10, 0, ""), impl.RsOk, "18 40 0/0, 26 0 b:20@40 0/0"},
		"final, for nothing":         {reqFrom(impl.OqFinal, "a", 0, 0, ""), impl.RsBad, ""},
		"free":                       {reqFrom(impl.OqFree, "a", 0, 0, ""), impl.RsOk, "18 30 0/0, 26 0 b:20@40 0/0"},
		"free an expired hold":       {reqFrom(impl.OqFree, "old", 0, 0, ""), impl.RsHold, ""},
		"move":                       {reqFrom(impl.OqMove, "a", 0, 0, "26"), impl.RsOk, "18 30 0/0, 26 0 a:30@50 b:20@40 0/0"},
		"move to itself":             {reqFrom(impl.OqMove, "a", 0, 0, "18"), impl.RsBad, ""},
		"move to no account":         {reqFrom(impl.OqMove, "a", 0, 0, "34"), impl.RsNone, ""},
		"move no hold to no account": {reqFrom(impl.OqMove, "x", 0, 0, "34"), impl.RsNone, ""},
		"sweep":                      {reqFrom(impl.OqSweep, "", 0, 0, ""), impl.RsOk, "18 30 a:30@50 0/0, 26 0 b:20@40 0/0"},
		"ask, which does not sweep":  {reqFrom(impl.OqAsk, "", 0, 0, ""), impl.RsOk, "18 30 a:30@50 old:20@5 0/0, 26 0 b:20@40 0/0"},
	} {
		got, code, told := impl.Deal(twoAccts(t), c.q, 10)
		if code != c.code || brief(got, 10) != c.left {
			t.Errorf("%s: Deal = %s, %d; want %s, %d", name, brief(got, 10), code, c.left, c.code)
		}
		if want := map[string]string{"ask, which does not sweep": "0000000000000060 0000000000000030"}[name]; told != want {
			t.Errorf("%s: Deal tells %q; want %q", name, told, want)
		}
	}
}

// TestP10DealMovesInBothDirections has the account that is named first at either place.
func TestP10DealMovesInBothDirections(t *testing.T) {
	q := reqFrom(impl.OqMove, "b", 0, 0, "18")
	q.Acct = "26"
	got, code, _ := impl.Deal(twoAccts(t), q, 10)
	if want := "18 30 a:30@50 b:20@40 0/0, 26 0 0/0"; code != impl.RsOk || brief(got, 10) != want {
		t.Errorf("Deal = %s, %d; want %s", brief(got, 10), code, want)
	}
	q.Acct = "34"
	if got, code, told := impl.Deal(twoAccts(t), q, 10); code != impl.RsNone || told != "" || bookText(got) != "" {
		t.Errorf("Deal from no account = %+v, %d, %q", got, code, told)
	}
}

func TestP10DealRefusesInOrder(t *testing.T) {
	good, bad := twoAccts(t), bookOf(named("26", someAcct()), named("18", someAcct()))
	for _, o := range opsByHand() {
		there := reqFrom(o.op, "x", 0, 0, "26")
		gone := there
		gone.Acct = "34"
		notOne := there
		notOne.Trace = "1"
		for name, c := range map[string]struct {
			b    impl.Book
			q    impl.Req
			now  int
			code int
		}{
			"a book that is not one":       {bad, there, 10, impl.RsForm},
			"such a book and no account":   {bad, gone, 10, impl.RsForm},
			"a request that is not one":    {good, notOne, 10, impl.RsForm},
			"no request":                   {good, impl.Req{}, 10, impl.RsForm},
			"no time":                      {good, there, -1, impl.RsForm},
			"later than the last time":     {good, there, impl.MaxTime + 1, impl.RsForm},
			"no time and no account":       {good, gone, -1, impl.RsForm},
			"no account":                   {good, gone, 10, impl.RsNone},
			"no account at the first time": {good, gone, 0, impl.RsNone},
			"no account at the last time":  {good, gone, impl.MaxTime, impl.RsNone},
			"no accounts":                  {impl.Book{}, there, 10, impl.RsNone},
		} {
			if got, code, told := impl.Deal(c.b, c.q, c.now); code != c.code || told != "" || bookText(got) != "" {
				t.Errorf("%s, %s: Deal = %+v, %d, %q; want %d", o.name, name, got, code, told, c.code)
			}
		}
	}
}

// dealtBooks have the account 18 at and about each of its limits, and others before and behind it.
func dealtBooks() []impl.Book {
	var l []impl.Book
	for i, a := range servedAccts() {
		l = append(l, bookOf(named("00", acctWith(500, 20, holdsWith("b", "x")...)), named("18", a), named("26", servedAccts()[i*7%20])))
	}
	return l
}

func TestP10DealWithEveryOperation(t *testing.T) {
	for _, b := range dealtBooks() {
		for op := 1; op <= 8; op++ {
			for _, held := range []string{"a", "b", "d", "x"} {
				for _, now := range []int{0, 10, 20} {
					for _, amount := range []int{0, 1, 3, 80, 900} {
						checkDeal(t, b, reqFrom(op, held, amount, 1+amount, []string{"00", "26"}[now/10%2]), now)
					}
				}
			}
		}
	}
}

func TestP10DealWithAllBooks(t *testing.T) {
	for i, b := range allBooks() {
		for op := 1; op <= 8; op++ {
			for _, id := range slices.Concat(bookIds(), []string{"34", "19"}) {
				q := reqFrom(op, []string{"a", "b", "x"}[i%3], 1, 9, append(bookIds(), "34")[(i+op)%7])
				q.Acct = id
				checkDeal(t, b, q, 9)
			}
		}
	}
}

func TestP10DealWithEveryRequestAndTime(t *testing.T) {
	b := sixAccts()
	for _, o := range opsByHand() {
		for i, change := range reqChanges() {
			q := reqWith(o)
			change(&q)
			if i%9 == 0 || reqOkByHand(q) {
				checkDeal(t, b, q, 5)
			}
		}
		for _, now := range append(edgeInts(), 9, 10, 19, 20, 45, impl.MaxTime-60, impl.MaxTime-59) {
			checkDeal(t, b, reqWith(o), now)
			checkDeal(t, twoAccts(t), reqFrom(o.op, "a", 1, 60, "26"), now)
		}
	}
}

func TestP10AsksByExample(t *testing.T) {
	fields := fieldsByNo()
	for name, c := range map[string]struct {
		m    impl.Msg
		want []string
	}{
		"auth":                   {wholeMsg("0100", "000000"), []string{"79927398713"}},
		"ask, with field 103":    {wholeMsg("0100", "310000"), []string{"79927398713"}},
		"final, with field 103":  {wholeMsg("0220", "000000"), []string{"79927398713"}},
		"sweep":                  {wholeMsg("0200", "900000"), []string{"79927398713"}},
		"move":                   {wholeMsg("0200", "400000"), []string{"26", "79927398713"}},
		"move in order":          {replaced(wholeMsg("0200", "400000"), 2, "109"), []string{"109", "26"}},
		"move to a longer one":   {replaced(replaced(wholeMsg("0200", "400000"), 2, "00"), 103, "000"), []string{"00", "000"}},
		"move to a shorter one":  {replaced(replaced(wholeMsg("0200", "400000"), 2, "000"), 103, "00"), []string{"00", "000"}},
		"move to itself":         {replaced(wholeMsg("0200", "400000"), 2, "26"), []string{"26"}},
		"move to no account":     {without(wholeMsg("0200", "400000"), 103), nil},
		"auth of no account":     {replaced(wholeMsg("0100", "000000"), 2, "19"), nil},
		"an unknown operation":   {wholeMsg("0100", "010000"), nil},
		"an unknown type":        {wholeMsg("0800", "000000"), nil},
		"the type of a reply":    {wholeMsg("0110", "000000"), nil},
		"nothing but a type":     {impl.Msg{Mti: "0100"}, nil},
		"auth without its trace": {without(wholeMsg("0100", "000000"), 11), nil},
	} {
		data := encodeByHand(fields, c.m)
		if got := impl.Asks(data); !slices.Equal(got, c.want) {
			t.Errorf("%s: Asks = %q; want %q", name, got, c.want)
		}
		for n := range data {
			if got := impl.Asks(data[:n]); len(got) != 0 {
				t.Errorf("%s: Asks of the first %d bytes = %q", name, n, got)
			}
		}
		if got := impl.Asks(append(data, 0)); len(got) != 0 {
			t.Errorf("%s: Asks with a byte behind it = %q", name, got)
		}
	}
}

func asksByHand(fields map[int]knownField, b []byte) []string {
	m, parsed := parseByHand(fields, b)
	q, read := reqOfByHand(fields, m)
	switch {
	case parsed != 0 || read != 0:
		return nil
	case q.Op != 6 || q.Acct == q.Other:
		return []string{q.Acct}
	case strings.Compare(q.Acct, q.Other) > 0:
		return []string{q.Other, q.Acct}
	}
	return []string{q.Acct, q.Other}
}

func TestP10Asks(t *testing.T) {
	fields := fieldsByNo()
	for _, data := range dataToTry(fields) {
		if got, want := impl.Asks(data), asksByHand(fields, data); !slices.Equal(got, want) {
			t.Errorf("Asks(%x) = %q; want %q", data, got, want)
		}
	}
	for _, from := range append(bookIds(), "34", "4539578763621486") {
		for _, to := range append(bookIds(), "34", "4539578763621486") {
			q := reqFrom(6, "a", 0, 0, to)
			q.Acct = from
			data := encodeByHand(fields, reqMsgByHand(q))
			if got, want := impl.Asks(data), asksByHand(fields, data); !slices.Equal(got, want) {
				t.Errorf("Asks of a move from %s to %s = %q; want %q", from, to, got, want)
			}
		}
	}
}
