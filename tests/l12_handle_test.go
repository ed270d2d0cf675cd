package tests

import (
	"bytes"
	"encoding/hex"
	"fmt"
	"math"
	"slices"
	"strings"
	"testing"

	"loop.example/g00735/impl"
)

// handleByHand shares nothing with the program: it parses, reads, executes, answers and encodes by hand.
func handleByHand(fields map[int]knownField, b impl.Book, data []byte, now int) (impl.Book, []byte) {
	m, parsed := parseByHand(fields, data)
	same := clonedBook(b)
	if !bookOkByHand(b) || !timeByHand(now) || parsed == 1 || replyMtiByHand(hex.EncodeToString(data[:2])) == "" {
		return same, nil
	}
	if parsed != 0 {
		mti := replyMtiByHand(hex.EncodeToString(data[:2]))
		return same, encodeByHand(fields, impl.Msg{Mti: mti, List: []impl.Field{{No: 39, Text: "30"}}})
	}
	reply := func(code int, hold, told string) []byte {
		r, _ := replyByHand(fields, m, code, hold, told)
		return encodeByHand(fields, r)
	}
	q, read := reqOfByHand(fields, m)
	if read != 0 {
		return same, reply(read, "", "")
	}
	at := bookAtByHand(b, q.Acct)
	if at < 0 {
		return same, reply(3, "", "")
	}
	if stored, found := slotOfByHand(b.Accts[at].Slots, q.Trace, q.Mti); found {
		return same, []byte(stored)
	}
	if len(b.Accts[at].Slots) == 6 {
		return same, reply(10, "", "")
	}
	next, code, told := dealByHand(b, q, now)
	if code != 0 {
		next = same
	}
	answered := reply(code, q.Hold, told)
	next.Accts[at].Slots = append(next.Accts[at].Slots, slot(q.Trace, q.Mti, string(answered)))
	return next, answered
}

func checkHandle(t *testing.T, fields map[int]knownField, b impl.Book, data []byte, now int) {
	t.Helper()
	got, reply := impl.Handle(b, data, now)
	want, wantReply := handleByHand(fields, b, data, now)
	if !bytes.Equal(reply, wantReply) || bookText(got) != bookText(want) {
		t.Fatalf("Handle(%+v, %x, %d) = %+v, %x; want %+v, %x", b, data, now, got, reply, want, wantReply)
	}
	if impl.BookOk(b) && !impl.BookOk(got) {
		t.Fatalf("Handle(%+v, %x, %d) is not valid: %+v", b, data, now, got)
	}
}

// codeIn is the content of field 39, or the empty string if there is no such message or field.
func codeIn(fields map[int]knownField, reply []byte) string {
	m, _ := parseByHand(fields, reply)
	text, _ := textOf(m, 39)
	return text
}

func dataOf(fields map[int]knownField, q impl.Req) []byte {
	return encodeByHand(fields, reqMsgByHand(q))
}

// dataToTry are messages of all kinds: requests, what is none, and what is no message.
func dataToTry(fields map[int]knownField) [][]byte {
	var l [][]byte
	for _, m := range requestMsgs() {
		l = append(l, encodeByHand(fields, m))
	}
	for _, o := range opsByHand() {
		whole := wholeMsg(o.mti, o.code+"0000")
		l = append(l, encodeByHand(fields, whole), dataOf(fields, reqWith(o)))
		for _, f := range whole.List {
			l = append(l, encodeByHand(fields, without(whole, f.No)))
		}
		for _, mti := range []string{"0800", "0110", "0101", "1100", "0120", "9999"} {
			l = append(l, encodeByHand(fields, wholeMsg(mti, o.code+"0000")))
		}
		data := dataOf(fields, reqWith(o))
		for n := range data {
			l = append(l, data[:n])
		}
		l = append(l, slices.Concat(data, []byte{0}), slices.Concat(data, data))
	}
	for seed := range uint64(100) {
		l = append(l, someBytes(seed, int(seed)), slices.Concat([]byte{1, 0}, someBytes(seed, int(seed))))
	}
	return append(l, nil, []byte{}, make([]byte, 5000), bytes.Repeat([]byte{0xff}, 400))
}

func TestP5HandleByExample(t *testing.T) {
	a, ok := impl.AcctNew("18", 100, 3, 90, 4, 5)
	if !ok {
		t.Fatal("AcctNew fails")
	}
	b := bookOf(a)
	for name, c := range map[string]struct{ data, reply, left string }{
		"auth":                     {"0100 7024000004000000 0218 000000 000000000040 000001 0010 683120202020", "0110 7020000006000000 0218 000000 000000000040 000001 683120202020 3030", "18 0 h1:40@17 1/40"},
		"auth beyond the limit":    {"0100 7024000004000000 0218 000000 000000000101 000001 0010 683120202020", "0110 7020000002000000 0218 000000 000000000101 000001 3531", "18 0 0/0"},
		"auth of no account":       {"0100 7024000004000000 0226 000000 000000000040 000001 0010 683120202020", "0110 7020000002000000 0226 000000 000000000040 000001 3134", "18 0 0/0"},
		"auth of a changed one":    {"0100 7024000004000000 0219 000000 000000000040 000001 0010 683120202020", "0110 7020000002000000 0219 000000 000000000040 000001 3330", "18 0 0/0"},
		"auth without a ttl":       {"0100 7020000004000000 0218 000000 000000000040 000001 683120202020", "0110 7020000002000000 0218 000000 000000000040 000001 3330", "18 0 0/0"},
		"auth of an unknown type":  {"0800 7024000004000000 0218 000000 000000000040 000001 0010 683120202020", "0810 7020000002000000 0218 000000 000000000040 000001 3132", "18 0 0/0"},
		"auth as a reply":          {"0110 7024000004000000 0218 000000 000000000040 000001 0010 683120202020", "", "18 0 0/0"},
		"auth with a byte more":    {"0100 7024000004000000 0218 000000 000000000040 000001 0010 683120202020 00", "0110 0000000002000000 3330", "18 0 0/0"},
		"auth with a byte less":    {"0100 7024000004000000 0218 000000 000000000040 000001 0010 6831202020", "0110 0000000002000000 3330", "18 0 0/0"},
		"auth with a strange bit":  {"0100 7824000004000000 0218 000000 000000000040 000001 0010 683120202020", "0110 0000000002000000 3330", "18 0 0/0"},
		"ask":                      {"0100 6020000000000000 0218 310000 000002", "0110 6020000002000400 0218 310000 000002 3030 0033" + hex.EncodeToString([]byte("0000000000000100 0000000000000000")), "18 0 0/0"},
		"a type alone":             {"0220", "0230 0000000002000000 3330", "18 0 0/0"},
		"an unknown type alone":    {"9989", "9999 0000000002000000 3330", "18 0 0/0"},
		"the type of a reply":      {"0230", "", "18 0 0/0"},
		"such a type and a bitmap": {"0230 0000000000000000", "", "18 0 0/0"},
		"a type and no field":      {"0220 0000000000000000", "0230 0000000002000000 3330", "18 0 0/0"},
		"an unknown one and none":  {"0221 0000000000000000", "0231 0000000002000000 3132", "18 0 0/0"},
		"a byte":                   {"01", "", "18 0 0/0"},
		"no byte":                  {"", "", "18 0 0/0"},
		"no digits":                {"010a", "", "18 0 0/0"},
	} {
		data, reply := strings.ReplaceAll(c.data, " ", ""), strings.ReplaceAll(c.reply, " ", "")
		got, told := impl.Handle(b, mustHex(data), 7)
		if hex.EncodeToString(told) != reply || brief(got, 7) != c.left {
			t.Errorf("%s: Handle = %s, %x; want %s, %s", name, brief(got, 7), told, c.left, reply)
		}
		served := reply != "" && slices.Contains([]string{"auth", "auth beyond the limit", "ask"}, name)
		if !served && bookText(got) != bookText(b) {
			t.Errorf("%s: Handle changes the book to %+v", name, got)
		}
		if served && (len(got.Accts[0].Slots) != 1 || !bytes.Equal(got.Accts[0].Slots[0].Reply, told)) {
			t.Errorf("%s: Handle stores %+v", name, got.Accts[0].Slots)
		}
	}
}

// TestP5HandleDecidesInOrder combines the books, times and messages for which more than one case of the document applies.
func TestP5HandleDecidesInOrder(t *testing.T) {
	fields := fieldsByNo()
	first := dataOf(fields, reqFrom(impl.OqAuth, "h1", 7, 9, ""))
	stored, _ := impl.Handle(twoAccts(t), first, 10)
	full := clonedBook(stored)
	full.Accts[0].Slots = append(full.Accts[0].Slots, slotsFor("000002/0100", "000003/0100", "000004/0100", "000005/0100", "000006/0100")...)
	odd := clonedBook(full)
	odd.Accts[1].Limit = -1
	other := reqFrom(impl.OqAuth, "h1", 7, 9, "")
	other.Trace = "000777"
	gone := reqFrom(impl.OqMove, "a", 0, 0, "18")
	gone.Acct = "34"
	for name, c := range map[string]struct {
		data []byte
		want [4]string
	}{
		"stored before":         {first, [4]string{"00", "00", "00", ""}},
		"under another trace":   {dataOf(fields, other), [4]string{"00", "94", "96", ""}},
		"of no account":         {dataOf(fields, gone), [4]string{"14", "14", "14", ""}},
		"not a request":         {encodeByHand(fields, replaced(reqMsgByHand(other), 3, "770000")), [4]string{"30", "30", "30", ""}},
		"of an unknown type":    {encodeByHand(fields, impl.Msg{Mti: "0800", List: reqMsgByHand(other).List}), [4]string{"12", "12", "12", ""}},
		"cut":                   {first[:len(first)-1], [4]string{"30", "30", "30", ""}},
		"cut in its bitmap":     {first[:7], [4]string{"30", "30", "30", ""}},
		"cut in its type":       {first[:1], [4]string{}},
		"with a reply's type":   {encodeByHand(fields, impl.Msg{Mti: "0110", List: reqMsgByHand(other).List}), [4]string{}},
		"a reply's type, cut":   {[]byte{0x01, 0x10, 0xff}, [4]string{}},
		"move, no such account": {dataOf(fields, reqFrom(impl.OqMove, "a", 0, 0, "34")), [4]string{"14", "14", "96", ""}},
	} {
		for i, b := range []impl.Book{twoAccts(t), stored, full, odd} {
			for _, now := range []int{math.MinInt, -1, 10, impl.MaxTime + 1} {
				want := c.want[i]
				if now != 10 {
					want = ""
				}
				_, reply := impl.Handle(b, c.data, now)
				if codeIn(fields, reply) != want || want == "" && reply != nil {
					t.Errorf("%s, book %d at %d: the reply is %x; want the code %q", name, i, now, reply, want)
				}
				checkHandle(t, fields, b, c.data, now)
			}
		}
	}
}

func TestP5WhatIsNoRequestChangesNothing(t *testing.T) {
	fields := fieldsByNo()
	for _, b := range []impl.Book{sixAccts(), {}, twoAccts(t), bookOf(impl.Acct{})} {
		for _, data := range dataToTry(fields) {
			checkHandle(t, fields, b, data, 10)
			got, reply := impl.Handle(b, data, 10)
			if impl.Asks(data) != nil {
				continue
			}
			if bookText(got) != bookText(b) {
				t.Fatalf("Handle(%+v, %x, 10) = %+v", b, data, got)
			}
			if code := codeIn(fields, reply); code != "30" && code != "12" && reply != nil {
				t.Fatalf("Handle(%+v, %x, 10) answers %x", b, data, reply)
			}
		}
	}
}

func TestP5EveryChangedByteOfARequest(t *testing.T) {
	fields := fieldsByNo()
	b := bookOf(named("18", acctWith(2000, 20, holdsWith("h0", "h1")...)), named("26", acctWith(2000, 20)), named("79927398713", acctWith(2000, 20, hold("h1", 1300, 90))))
	for _, o := range opsByHand() {
		data := dataOf(fields, reqWith(o))
		for i := range data {
			for x := range 256 {
				if x%3 != i%3 && i > 1 {
					continue
				}
				changed := slices.Clone(data)
				changed[i] = byte(x)
				checkHandle(t, fields, b, changed, 5)
			}
		}
	}
}

func TestP5EveryTypeIsAnsweredOrNot(t *testing.T) {
	fields := fieldsByNo()
	b := sixAccts()
	for n := range 0x10000 {
		data := []byte{byte(n >> 8), byte(n)}
		got, reply := impl.Handle(b, data, 0)
		want := ""
		if mti := replyMtiByHand(hex.EncodeToString(data)); mti != "" {
			want = mti + "00000000020000003330"
		}
		if hex.EncodeToString(reply) != want {
			t.Fatalf("Handle of %x = %x; want %s", data, reply, want)
		}
		if n%999 == 0 && bookText(got) != bookText(b) {
			t.Fatalf("Handle of %x = %+v", data, got)
		}
	}
	for _, mti := range mtisToTry() {
		if mtiForm.MatchString(mti) {
			checkHandle(t, fields, impl.Book{}, encodeByHand(fields, wholeMsg(mti, "000000")), 0)
		}
	}
}

// checkDeclined returns the code with which a new request for the account 18, the second one, is answered. The account has a free slot.
func checkDeclined(t *testing.T, fields map[int]knownField, b impl.Book, q impl.Req, now int) string {
	t.Helper()
	got, reply := impl.Handle(b, dataOf(fields, q), now)
	code := codeIn(fields, reply)
	want := clonedBook(b)
	want.Accts[1].Slots = append(want.Accts[1].Slots, slot(q.Trace, q.Mti, string(reply)))
	if code != "00" && bookText(got) != bookText(want) {
		t.Fatalf("%+v with %+v at %d is declined (%s) and leaves %+v", b, q, now, code, got)
	}
	return code
}

func TestP5ADeclinedRequestStoresItsReplyOnly(t *testing.T) {
	fields := fieldsByNo()
	codes := map[string]bool{}
	for _, b := range dealtBooks() {
		if !bookOkByHand(b) || len(b.Accts[1].Slots) == 6 {
			continue
		}
		for i, held := range []string{"a", "b", "d", "x"} {
			for op := 1; op <= 8; op++ {
				for _, other := range []string{"00", "18", "26", "34"} {
					q := reqFrom(op, held, []int{0, 1, 70, 900}[i], 5, other)
					q.Trace = "000100"
					codes[checkDeclined(t, fields, b, q, 5)] = true
					codes[checkDeclined(t, fields, b, q, 12)] = true
				}
			}
		}
	}
	for _, code := range []string{"00", "13", "14", "25", "51", "61", "65", "94", "96"} {
		if !codes[code] {
			t.Errorf("no request is answered with %s, but with %v", code, codes)
		}
	}
}

func TestP5RepliesRepeatTheFieldsOfTheRequest(t *testing.T) {
	fields, inOrder := fieldsByNo(), allFieldsInOrder()
	for _, o := range opsByHand() {
		for mask := range 1 << len(inOrder) {
			if mask%41 != 5*o.op {
				continue
			}
			m := msgOfMask(inOrder, mask)
			m.Mti = o.mti
			for _, f := range reqMsgByHand(reqWith(o)).List {
				m = replaced(m, f.No, f.Text)
			}
			_, data := impl.Handle(sixAccts(), encodeByHand(fields, m), 9)
			reply, parsed := parseByHand(fields, data)
			if parsed != 0 || reply.Mti != replyMtiByHand(m.Mti) {
				t.Fatalf("the reply to %+v is %x", m, data)
			}
			for _, no := range repeatedList {
				want, asked := textOf(m, no)
				if got, told := textOf(reply, no); got != want || told != asked {
					t.Fatalf("the reply to %+v has %q, %v in field %d", m, got, told, no)
				}
			}
		}
	}
}

// servedRequests has, for every operation, requests that are done and ones that are declined on a book of twoAccts at 10.
func servedRequests() []impl.Req {
	var l []impl.Req
	for op := 1; op <= 8; op++ {
		for _, held := range []string{"a", "x", "old"} {
			for _, amount := range []int{0, 5, 500} {
				l = append(l, reqFrom(op, held, amount, amount+1, "26"))
			}
		}
	}
	return append(l, reqFrom(impl.OqMove, "a", 0, 0, "18"), reqFrom(impl.OqMove, "a", 0, 0, "34"))
}

func TestP6ARepeatedRequestGetsTheFirstReply(t *testing.T) {
	fields := fieldsByNo()
	for _, q := range servedRequests() {
		data := dataOf(fields, q)
		b, first := impl.Handle(twoAccts(t), data, 10)
		for _, now := range []int{0, 10, 11, 50, 1000, impl.MaxTime} {
			got, again := impl.Handle(b, data, now)
			if !bytes.Equal(again, first) || bookText(got) != bookText(b) {
				t.Errorf("%+v repeated at %d: %x, %+v; want %x", q, now, again, got, first)
			}
		}
		for _, other := range servedRequests() {
			got, again := impl.Handle(b, dataOf(fields, other), 11)
			if other.Mti == q.Mti && (!bytes.Equal(again, first) || bookText(got) != bookText(b)) {
				t.Errorf("%+v repeated as %+v: %x; want %x", q, other, again, first)
			}
			if other.Mti != q.Mti && len(got.Accts[0].Slots) != 2 {
				t.Errorf("%+v after %+v stores %+v", other, q, got.Accts[0].Slots)
			}
		}
	}
}

// TestP6OnlyAccountTraceAndTypeMakeARepetition changes each of them, and all else.
func TestP6OnlyAccountTraceAndTypeMakeARepetition(t *testing.T) {
	fields := fieldsByNo()
	first := reqFrom(impl.OqAuth, "h1", 5, 9, "")
	b, reply := impl.Handle(twoAccts(t), dataOf(fields, first), 10)
	for name, c := range map[string]struct {
		q        impl.Req
		repeated bool
	}{
		"the same":                {first, true},
		"another hold":            {reqFrom(impl.OqAuth, "h2", 5, 9, ""), true},
		"another amount":          {reqFrom(impl.OqAuth, "h1", 6, 9, ""), true},
		"another time":            {reqFrom(impl.OqAuth, "h1", 5, 8, ""), true},
		"more":                    {reqFrom(impl.OqMore, "h1", 5, 0, ""), true},
		"ask":                     {reqFrom(impl.OqAsk, "", 0, 0, ""), true},
		"part, of another type":   {reqFrom(impl.OqPart, "h1", 5, 0, ""), false},
		"final, of another type":  {reqFrom(impl.OqFinal, "h1", 5, 0, ""), false},
		"sweep, of another type":  {reqFrom(impl.OqSweep, "", 0, 0, ""), false},
		"another trace":           {impl.Req{Op: 1, Mti: "0100", Acct: "18", Trace: "000010", Hold: "h2", Amount: 5, Ttl: 9}, false},
		"another account":         {impl.Req{Op: 1, Mti: "0100", Acct: "26", Trace: "000001", Hold: "h1", Amount: 5, Ttl: 9}, false},
		"a move from the other":   {impl.Req{Op: 6, Mti: "0200", Acct: "26", Trace: "000001", Hold: "b", Other: "18"}, false},
		"the same, of no account": {impl.Req{Op: 1, Mti: "0100", Acct: "34", Trace: "000001", Hold: "h1", Amount: 5, Ttl: 9}, false},
	} {
		got, again := impl.Handle(b, dataOf(fields, c.q), 10)
		if same := bytes.Equal(again, reply) && bookText(got) == bookText(b); same != c.repeated {
			t.Errorf("%s: %x, %+v after %x", name, again, got, reply)
		}
		checkHandle(t, fields, b, dataOf(fields, c.q), 10)
	}
}

// TestP6AnAccountWithFullSlotsIsLeftAlone but for a move from another account.
func TestP6AnAccountWithFullSlotsIsLeftAlone(t *testing.T) {
	fields := fieldsByNo()
	for slots := range 7 {
		b := twoAccts(t)
		b.Accts[0].Slots = fullSlots()[:slots]
		for _, q := range servedRequests() {
			q.Trace = "000077"
			got, reply := impl.Handle(b, dataOf(fields, q), 10)
			if full := codeIn(fields, reply) == "96"; full != (slots == 6) {
				t.Errorf("%+v with %d slots is answered by %x", q, slots, reply)
			}
			if slots == 6 && bookText(got) != bookText(b) {
				t.Errorf("%+v with all slots in use changes the book to %+v", q, got)
			}
			if slots < 6 && len(got.Accts[0].Slots) != slots+1 {
				t.Errorf("%+v with %d slots stores %+v", q, slots, got.Accts[0].Slots)
			}
		}
		for _, s := range b.Accts[0].Slots {
			op := map[string]int{"0100": impl.OqAsk, "0200": impl.OqSweep, "0220": impl.OqFree}[s.Mti]
			if op == 0 {
				continue
			}
			q := reqFrom(op, "a", 0, 0, "")
			q.Trace = s.Trace
			if got, reply := impl.Handle(b, dataOf(fields, q), 10); !bytes.Equal(reply, s.Reply) || bookText(got) != bookText(b) {
				t.Errorf("with %d slots, the reply stored for %s and %s is %x", slots, s.Trace, s.Mti, reply)
			}
		}
	}
}

func TestP6AMoveIntoAFullAccountIsDone(t *testing.T) {
	fields := fieldsByNo()
	b := twoAccts(t)
	b.Accts[0].Slots = fullSlots()
	q := reqFrom(impl.OqMove, "b", 0, 0, "18")
	q.Acct = "26"
	got, reply := impl.Handle(b, dataOf(fields, q), 10)
	if want := "18 30 a:30@50 b:20@40 0/0, 26 0 0/0"; brief(got, 10) != want || codeIn(fields, reply) != "00" {
		t.Errorf("Handle = %s, %x; want %s", brief(got, 10), reply, want)
	}
	if slotsText(got.Accts[0].Slots) != slotsText(fullSlots()) || slotsText(got.Accts[1].Slots) != slotsText([]impl.Slot{slot("000001", "0200", string(reply))}) {
		t.Errorf("the reply to a move is stored in %+v", got)
	}
	if same, again := impl.Handle(got, dataOf(fields, q), 11); !bytes.Equal(again, reply) || bookText(same) != bookText(got) {
		t.Errorf("repeated, the move is answered by %x; want %x", again, reply)
	}
}

// story remembers what was answered first, by account, trace number and type.
type story struct {
	fields map[int]knownField
	first  map[[3]string]string
	count  map[string]int
}

// unslotted is a book without its slots.
func unslotted(b impl.Book) impl.Book {
	b = clonedBook(b)
	for i := range b.Accts {
		b.Accts[i].Slots = nil
	}
	return b
}

// told checks what a request has left against the story so far, for accounts that exist.
func (s story) told(t *testing.T, before, after impl.Book, q impl.Req, reply []byte) {
	t.Helper()
	key := [3]string{q.Acct, q.Trace, q.Mti}
	if first, known := s.first[key]; known {
		if string(reply) != first || bookText(after) != bookText(before) {
			t.Fatalf("%+v repeated on %+v: %x, %+v; want %x", q, before, reply, after, first)
		}
		return
	}
	if s.count[q.Acct] == 6 {
		if codeIn(s.fields, reply) != "96" || bookText(after) != bookText(before) {
			t.Fatalf("%+v on %+v, whose slots are full: %x, %+v", q, before, reply, after)
		}
		return
	}
	s.first[key] = string(reply)
	s.count[q.Acct]++
	for i, a := range before.Accts {
		kept := clonedSlots(a.Slots)
		if a.Id == q.Acct {
			kept = append(kept, slot(q.Trace, q.Mti, string(reply)))
		}
		if slotsText(after.Accts[i].Slots) != slotsText(kept) {
			t.Fatalf("%+v on %+v leaves the slots %+v; want %+v", q, before, after.Accts[i].Slots, kept)
		}
		if a.Id != q.Acct && a.Id != q.Other && acctText(after.Accts[i]) != acctText(a) {
			t.Fatalf("%+v on %+v changes another account to %+v", q, before, after.Accts[i])
		}
	}
	if codeIn(s.fields, reply) != "00" && bookText(unslotted(after)) != bookText(unslotted(before)) {
		t.Fatalf("%+v on %+v is declined with %x and leaves %+v", q, before, reply, after)
	}
}

// chosen is a request for which each byte makes one choice.
func chosen(b []byte) impl.Req {
	pick := func(x byte, l ...string) string { return l[int(x)%len(l)] }
	ids := []string{"18", "26", "34"}
	q := reqFrom(1+int(b[0])%8, pick(b[1], "a", "b", "h1"), int(b[2])%70, 1+int(b[3])%20, pick(b[4], ids...))
	q.Acct = pick(b[5], ids...)
	q.Trace = "00000" + pick(b[6], "0", "1", "2", "3")
	return q
}

// TestP6StoredRepliesAreNeverLost sends long sequences of requests, many of them repeated, and lets time pass.
func TestP6StoredRepliesAreNeverLost(t *testing.T) {
	fields := fieldsByNo()
	for seed := range uint64(150) {
		s := story{fields, map[[3]string]string{}, map[string]int{}}
		b := twoAccts(t)
		b.Accts = append(b.Accts, named("34", acctWith(300, 0, hold("h1", 30, 20))))
		b.Accts[2].Slots = nil
		now, choices := 0, someBytes(seed, 8*60)
		for i := range 60 {
			part := choices[8*i : 8*i+8]
			now += int(part[7]) % 4
			q := chosen(part)
			checkHandle(t, fields, b, dataOf(fields, q), now)
			next, reply := impl.Handle(b, dataOf(fields, q), now)
			s.told(t, b, next, q, reply)
			b = next
		}
		for key, want := range s.first {
			at := bookAtByHand(b, key[0])
			if got, found := slotOfByHand(b.Accts[at].Slots, key[1], key[2]); !found || got != want {
				t.Fatalf("the reply to %v is lost: %+v", key, b)
			}
		}
	}
}

func TestP10HandleWithEveryOperation(t *testing.T) {
	fields := fieldsByNo()
	for i, b := range dealtBooks() {
		for op := 1; op <= 8; op++ {
			for j, held := range []string{"a", "b", "x"} {
				for _, amount := range []int{0, 3, 80} {
					q := reqFrom(op, held, amount, 1+amount, []string{"00", "26"}[j%2])
					q.Trace = []string{"000001", "000077"}[(i+j)%2]
					checkHandle(t, fields, b, dataOf(fields, q), 10*j)
				}
			}
		}
	}
}

func TestP10HandleWithAllBooksAndTimes(t *testing.T) {
	fields := fieldsByNo()
	for i, b := range allBooks() {
		for op := 1; op <= 8; op++ {
			q := reqFrom(op, []string{"a", "b", "x"}[i%3], 1, 9, bookIds()[(i+op)%6])
			for _, q.Acct = range append(bookIds(), "34") {
				checkHandle(t, fields, b, dataOf(fields, q), 9)
			}
		}
	}
	for _, now := range append(edgeInts(), 9, 10, 19, 20, 45, impl.MaxTime-60, impl.MaxTime-59) {
		for op := 1; op <= 8; op++ {
			checkHandle(t, fields, twoAccts(t), dataOf(fields, reqFrom(op, "a", 1, 60, "26")), now)
			checkHandle(t, fields, twoAccts(t), dataOf(fields, reqFrom(op, "x", 1, 60, "26")), now)
		}
	}
}

// TestP10TheLongestReplyIsStored repeats all fields that can be repeated.
func TestP10TheLongestReplyIsStored(t *testing.T) {
	fields := fieldsByNo()
	id := strings.Repeat("0", 19)
	for _, code := range []string{"310000", "000000"} {
		m := impl.Msg{Mti: "0100"}
		for _, f := range allFieldsInOrder() {
			m.List = append(m.List, impl.Field{No: f.no, Text: longOf(f)})
		}
		m = replaced(replaced(replaced(replaced(m, 2, id), 3, code), 4, "000000000001"), 38, "abcdef")
		b := bookOf(named(id, acctWith(impl.MaxLimit, impl.MaxLimit-9)))
		checkHandle(t, fields, b, encodeByHand(fields, m), 0)
		got, reply := impl.Handle(b, encodeByHand(fields, m), 0)
		if n := len(got.Accts[0].Slots); codeIn(fields, reply) != "00" || n != 3 || !bytes.Equal(got.Accts[0].Slots[n-1].Reply, reply) {
			t.Errorf("the reply %x is stored as %+v", reply, got.Accts[0].Slots)
		}
	}
}

// bookMemory is a book with all of its memory, which goes on behind every list.
type bookMemory struct {
	book  impl.Book
	whole []impl.Acct
	accts []acctMemory
}

func bookInMemory(b impl.Book) bookMemory {
	var m bookMemory
	for _, a := range append(clonedBook(b).Accts, named("91", someAcct()), named("91", someAcct())) {
		one := acctInMemory(a)
		m.accts = append(m.accts, one)
		m.whole = append(m.whole, one.acct)
	}
	m.book.Accts = m.whole[:len(b.Accts)]
	return m
}

func (m bookMemory) text() string {
	text := bookText(bookOf(m.whole...))
	for _, a := range m.accts {
		text += a.text() + "\n"
	}
	return text
}

// spoilBook overwrites everything that a book gives access to.
func spoilBook(b impl.Book) {
	for _, a := range b.Accts {
		spoilAcct(a)
	}
	clear(b.Accts[:cap(b.Accts)])
}

// bookMakers are all ways to get a book from another one, with the reply if there is one.
func bookMakers(fields map[int]knownField) map[string]func(b impl.Book) (impl.Book, []byte) {
	l := map[string]func(b impl.Book) (impl.Book, []byte){}
	for _, now := range []int{-1, 0, 10, 1000} {
		l[fmt.Sprint("BookTime at ", now)] = func(b impl.Book) (impl.Book, []byte) { return impl.BookTime(b, now), nil }
		for _, q := range servedRequests() {
			data, name := dataOf(fields, q), fmt.Sprintf("%+v at %d", q, now)
			l["Deal with "+name] = func(b impl.Book) (impl.Book, []byte) { b, _, _ = impl.Deal(b, q, now); return b, nil }
			l["Handle with "+name] = func(b impl.Book) (impl.Book, []byte) { return impl.Handle(b, data, now) }
		}
	}
	for _, id := range []string{"18", "26", "34"} {
		l["BookPut of "+id] = func(b impl.Book) (impl.Book, []byte) { b, _ = impl.BookPut(b, named(id, someAcct())); return b, nil }
	}
	for _, data := range [][]byte{nil, {1}, {1, 0}, {1, 0x10}, encodeByHand(fields, wholeMsg("0800", "000000")), encodeByHand(fields, wholeMsg("0100", "770000"))} {
		l[fmt.Sprintf("Handle of %x", data)] = func(b impl.Book) (impl.Book, []byte) { return impl.Handle(b, data, 10) }
	}
	return l
}

func booksInMemory(t *testing.T) []impl.Book {
	stored := twoAccts(t)
	stored.Accts[0].Slots = slotsFor("000001/0100", "000001/0200", "000001/0220")
	full := twoAccts(t)
	full.Accts[0].Slots = fullSlots()[2:]
	full.Accts[0].Slots = append(full.Accts[0].Slots, slotsFor("000011/0100", "000012/0100")...)
	few := twoAccts(t)
	few.Accts[0].Slots, few.Accts[1].Slots = slotsFor("000005/0100"), slotsFor("000006/0100", "000007/0100")
	return []impl.Book{{}, few, stored, full, bookOf(named("18", someAcct()), impl.Acct{}), bookOf(few.Accts[1], few.Accts[0]), sixAccts()}
}

func TestP10BooksAreNewMemory(t *testing.T) {
	for name, made := range bookMakers(fieldsByNo()) {
		for _, b := range booksInMemory(t) {
			m := bookInMemory(b)
			before := m.text()
			one, reply := made(m.book)
			two, again := made(m.book)
			if m.text() != before {
				t.Errorf("%s changes its argument %+v", name, b)
			}
			want, wantReply := bookText(two), string(again)
			spoilBook(one)
			if string(reply) != wantReply {
				t.Errorf("%s: the reply shares memory with the book %+v", name, b)
			}
			spoilBytes(reply)
			if bookText(two) != want || string(again) != wantReply {
				t.Errorf("%s: two results share memory: %+v", name, b)
			}
			if m.text() != before {
				t.Errorf("%s: a result shares memory with its argument %+v", name, b)
			}
		}
	}
}

// TestP10AcctsOfABookAreApart spoils one account of a result after the other, all of which share their memory in the argument.
func TestP10AcctsOfABookAreApart(t *testing.T) {
	for name, made := range bookMakers(fieldsByNo()) {
		for _, wrong := range []int{0, -1} {
			one := acctInMemory(changedAcct(func(a *impl.Acct) { a.Slots = slotsFor("000005/0100", "000006/0100") }))
			l := []impl.Acct{one.acct, one.acct, one.acct}
			l[0].Id, l[1].Id, l[2].Id = "18", "26", "34"
			l[2].Limit += wrong * l[2].Limit
			before := one.text()
			got, _ := made(bookOf(l...))
			want, _ := made(clonedBook(bookOf(l...)))
			for i := range got.Accts {
				if acctText(got.Accts[i]) != acctText(want.Accts[i]) {
					t.Errorf("%s: account %d is %+v; want %+v", name, i, got.Accts[i], want.Accts[i])
				}
				spoilAcct(got.Accts[i])
			}
			if one.text() != before {
				t.Errorf("%s: a result shares memory with its argument", name)
			}
		}
	}
}

func TestP10BookPutKeepsNoAccount(t *testing.T) {
	m := acctInMemory(named("26", someAcct()))
	before := m.text()
	got, ok := impl.BookPut(twoAccts(t), m.acct)
	spoilBook(got)
	if !ok || m.text() != before {
		t.Errorf("BookPut = %v and shares memory with the account %s", ok, m.text())
	}
}

func TestP10BookFunctionsLeaveTheirArguments(t *testing.T) {
	fields := fieldsByNo()
	for _, b := range append(booksInMemory(t), oddBooks()[:20]...) {
		m := bookInMemory(b)
		before := m.text()
		impl.BookOk(m.book)
		impl.BookSame(m.book, m.book)
		impl.BookSame(m.book, bookOf(m.whole...))
		impl.BookAt(m.book, "26")
		for _, data := range dataToTry(fields) {
			whole := append(slices.Clone(data), 0x77, 0x77, 0x77)
			names := impl.Asks(whole[:len(data)])
			impl.Handle(m.book, whole[:len(data)], 10)
			if !bytes.Equal(whole, append(slices.Clone(data), 0x77, 0x77, 0x77)) {
				t.Fatalf("the data are now %x", whole)
			}
			if again := impl.Asks(data); len(names) > 0 {
				names[0] = "changed"
				if again[0] == "changed" {
					t.Fatalf("two results of Asks(%x) share memory", data)
				}
			}
		}
		if m.text() != before {
			t.Errorf("the book %+v has changed", b)
		}
	}
}
