package tests

import (
	"fmt"
	"math"
	"slices"
	"strconv"
	"strings"
	"testing"

	"loop.example/g00735/impl"
)

// opByHand is an operation as the document describes it. What it uses is a
// list of the fields of Req that not all operations use.
type opByHand struct {
	op   int
	name string
	mti  string
	code string
	uses string
}

func opsByHand() []opByHand {
	return []opByHand{
		{1, "auth", "0100", "00", "Hold Amount Ttl"},
		{2, "more", "0100", "02", "Hold Amount"},
		{3, "part", "0220", "01", "Hold Amount"},
		{4, "final", "0220", "00", "Hold Amount"},
		{5, "free", "0220", "20", "Hold"},
		{6, "move", "0200", "40", "Hold Other"},
		{7, "ask", "0100", "31", ""},
		{8, "sweep", "0200", "90", ""},
	}
}

func (o opByHand) use(field string) bool {
	return slices.Contains(strings.Fields(o.uses), field)
}

// usedNos are the numbers of the message fields of an operation, in ascending order.
func (o opByHand) usedNos() []int {
	l := []int{2, 3}
	if o.use("Amount") {
		l = append(l, 4)
	}
	l = append(l, 11)
	if o.use("Ttl") {
		l = append(l, 14)
	}
	if o.use("Hold") {
		l = append(l, 38)
	}
	if o.use("Other") {
		l = append(l, 103)
	}
	return l
}

func reqOkByHand(q impl.Req) bool {
	at := slices.IndexFunc(opsByHand(), func(o opByHand) bool { return o.op == q.Op })
	if at < 0 {
		return false
	}
	o := opsByHand()[at]
	hold, amount, ttl, other := q.Hold == "", q.Amount == 0, q.Ttl == 0, q.Other == ""
	if o.use("Hold") {
		hold = holdIds.MatchString(q.Hold)
	}
	if o.use("Amount") {
		amount = q.Amount >= 0 && len(strconv.Itoa(q.Amount)) <= 12
	}
	if o.use("Ttl") {
		ttl = q.Ttl >= 0 && q.Ttl <= 9999
	}
	if o.use("Other") {
		other = acctIdOkByHand(q.Other)
	}
	return q.Mti == o.mti && acctIdOkByHand(q.Acct) && traceForm.MatchString(q.Trace) && hold && amount && ttl && other
}

// reqMsgByHand is for valid requests.
func reqMsgByHand(q impl.Req) impl.Msg {
	o := opsByHand()[q.Op-1]
	texts := map[int]string{
		2: q.Acct, 3: o.code + "0000", 4: fmt.Sprintf("%012d", q.Amount), 11: q.Trace,
		14: fmt.Sprintf("%04d", q.Ttl), 38: fmt.Sprintf("%-6s", q.Hold), 103: q.Other,
	}
	m := impl.Msg{Mti: q.Mti}
	for _, no := range o.usedNos() {
		m.List = append(m.List, impl.Field{No: no, Text: texts[no]})
	}
	return m
}

func textOf(m impl.Msg, no int) (string, bool) {
	at := slices.IndexFunc(m.List, func(f impl.Field) bool { return f.No == no })
	if at < 0 {
		return "", false
	}
	return m.List[at].Text, true
}

func reqOfByHand(fields map[int]knownField, m impl.Msg) (impl.Req, int) {
	if !okByHand(fields, m) {
		return impl.Req{}, 1
	}
	if !slices.Contains([]string{"0100", "0200", "0220"}, m.Mti) {
		return impl.Req{}, 2
	}
	third, _ := textOf(m, 3)
	at := slices.IndexFunc(opsByHand(), func(o opByHand) bool { return o.mti == m.Mti && strings.HasPrefix(third, o.code) })
	if at < 0 {
		return impl.Req{}, 1
	}
	o := opsByHand()[at]
	q := impl.Req{Op: o.op, Mti: m.Mti}
	for _, no := range o.usedNos() {
		text, found := textOf(m, no)
		if !found {
			return impl.Req{}, 1
		}
		switch no {
		case 2:
			q.Acct = text
		case 4:
			q.Amount, _ = strconv.Atoi(text)
		case 11:
			q.Trace = text
		case 14:
			q.Ttl, _ = strconv.Atoi(text)
		case 38:
			q.Hold = strings.TrimRight(text, " ")
		case 103:
			q.Other = text
		}
	}
	if !reqOkByHand(q) {
		return impl.Req{}, 1
	}
	return q, 0
}

// reqWith is a valid request for operation o.
func reqWith(o opByHand) impl.Req {
	q := impl.Req{Op: o.op, Mti: o.mti, Acct: "79927398713", Trace: "000042"}
	if o.use("Hold") {
		q.Hold = "h1"
	}
	if o.use("Amount") {
		q.Amount = 1250
	}
	if o.use("Ttl") {
		q.Ttl = 60
	}
	if o.use("Other") {
		q.Other = "26"
	}
	return q
}

// wholeMsg has all fields that some operation uses, each valid, and some that none uses.
func wholeMsg(mti, third string) impl.Msg {
	return impl.Msg{Mti: mti, List: []impl.Field{
		{No: 2, Text: "79927398713"}, {No: 3, Text: third}, {No: 4, Text: "000000001250"}, {No: 7, Text: "1119120000"},
		{No: 11, Text: "000042"}, {No: 14, Text: "0060"}, {No: 38, Text: "h1    "}, {No: 39, Text: "77"},
		{No: 48, Text: "private"}, {No: 102, Text: "18"}, {No: 103, Text: "26"},
	}}
}

// replaced is m with another content in a field that it has.
func replaced(m impl.Msg, no int, text string) impl.Msg {
	m = cloneMsg(m)
	for i := range m.List {
		if m.List[i].No == no {
			m.List[i].Text = text
		}
	}
	return m
}

func without(m impl.Msg, no int) impl.Msg {
	m = cloneMsg(m)
	m.List = slices.DeleteFunc(m.List, func(f impl.Field) bool { return f.No == no })
	return m
}

// checkReqOf also checks that the request of a message is that of its own message too.
func checkReqOf(t *testing.T, fields map[int]knownField, m impl.Msg) {
	t.Helper()
	got, code := impl.ReqOf(m)
	want, wantCode := reqOfByHand(fields, m)
	if got != want || code != wantCode {
		t.Fatalf("ReqOf(%+v) = %+v, %d; want %+v, %d", m, got, code, want, wantCode)
	}
	if code == impl.RsOk {
		checkReqMsg(t, got)
	}
}

func checkReqMsg(t *testing.T, q impl.Req) {
	t.Helper()
	m, ok := impl.ReqMsg(q)
	if !reqOkByHand(q) {
		if ok || !zeroMsg(m) {
			t.Fatalf("ReqMsg(%+v) = %+v, %v; the request is not valid", q, m, ok)
		}
		return
	}
	if want := reqMsgByHand(q); !ok || !sameMsg(m, want) {
		t.Fatalf("ReqMsg(%+v) = %+v, %v; want %+v", q, m, ok, want)
	}
	if back, code := impl.ReqOf(m); back != q || code != impl.RsOk {
		t.Fatalf("ReqOf(ReqMsg(%+v)) = %+v, %d", q, back, code)
	}
}

func checkReq(t *testing.T, q impl.Req) {
	t.Helper()
	if got, want := impl.ReqOk(q), reqOkByHand(q); got != want {
		t.Fatalf("ReqOk(%+v) = %v", q, got)
	}
	checkReqMsg(t, q)
}

func numbersWithoutOp() []int {
	l := append(edgeInts(), -8, -7, 256+1, 1<<32+1, 1<<32+8)
	for n := -3; n <= 300; n++ {
		l = append(l, n)
	}
	return slices.DeleteFunc(l, func(n int) bool { return n >= 1 && n <= 8 })
}

func TestP10ConstantsOfChapter12(t *testing.T) {
	got := []int{impl.OqAuth, impl.OqMore, impl.OqPart, impl.OqFinal, impl.OqFree, impl.OqMove, impl.OqAsk, impl.OqSweep}
	if !slices.Equal(got, []int{1, 2, 3, 4, 5, 6, 7, 8}) {
		t.Error("the operations are", got)
	}
}

func TestP10TheOperationsByExample(t *testing.T) {
	for op, want := range map[int]string{
		impl.OqAuth: "0100 00 auth", impl.OqMore: "0100 02 more", impl.OqAsk: "0100 31 ask",
		impl.OqFinal: "0220 00 final", impl.OqPart: "0220 01 part", impl.OqFree: "0220 20 free",
		impl.OqMove: "0200 40 move", impl.OqSweep: "0200 90 sweep",
	} {
		if got := impl.OpMti(op) + " " + impl.OpCode(op) + " " + impl.OpName(op); got != want {
			t.Errorf("operation %d is %s; want %s", op, got, want)
		}
	}
}

func TestP10OtherNumbersAreNoOperations(t *testing.T) {
	for _, n := range numbersWithoutOp() {
		if mti, code, name := impl.OpMti(n), impl.OpCode(n), impl.OpName(n); mti != "" || code != "" || name != "" {
			t.Errorf("%d is the operation %q %q %q", n, mti, code, name)
		}
	}
}

func TestP9NamesOfOperationsAreRecovered(t *testing.T) {
	for op := 1; op <= 8; op++ {
		if got := impl.NameOp(impl.OpName(op)); got != op {
			t.Errorf("NameOp(OpName(%d)) = %d", op, got)
		}
	}
	byName := map[string]int{}
	var l []string
	for _, o := range opsByHand() {
		byName[o.name] = o.op
		l = append(l, o.mti, o.code, strings.ToUpper(o.name), strings.ToUpper(o.name[:1])+o.name[1:], o.name+" ", o.name+o.name, o.name+" 18")
		l = append(l, everyByteIn(o.name)...)
	}
	for _, s := range slices.Concat(l, manyStrings(), []string{"", "x", "auths", "fin", "1", "authmore"}) {
		if got, want := impl.NameOp(s), byName[s]; got != want {
			t.Errorf("NameOp(%q) = %d; want %d", s, got, want)
		}
	}
}

func TestP10ReqOkByExample(t *testing.T) {
	auth := impl.Req{Op: impl.OqAuth, Mti: "0100", Acct: "18", Trace: "000001", Hold: "h1", Amount: 40, Ttl: 10}
	final := impl.Req{Op: impl.OqFinal, Mti: "0220", Acct: "18", Trace: "000001", Hold: "h1", Amount: 40}
	move := impl.Req{Op: impl.OqMove, Mti: "0200", Acct: "18", Trace: "000001", Hold: "h1", Other: "26"}
	ask := impl.Req{Op: impl.OqAsk, Mti: "0100", Acct: "18", Trace: "000001"}
	for name, c := range map[string]struct {
		q      impl.Req
		change func(q *impl.Req)
		ok     bool
	}{
		"auth":                        {auth, func(q *impl.Req) {}, true},
		"auth for nothing":            {auth, func(q *impl.Req) { q.Amount, q.Ttl = 0, 0 }, true},
		"auth for the most":           {auth, func(q *impl.Req) { q.Amount, q.Ttl = 999999999999, 9999 }, true},
		"auth for more":               {auth, func(q *impl.Req) { q.Amount = 1000000000000 }, false},
		"auth for less than nothing":  {auth, func(q *impl.Req) { q.Amount = -1 }, false},
		"auth for too long":           {auth, func(q *impl.Req) { q.Ttl = 10000 }, false},
		"auth until before":           {auth, func(q *impl.Req) { q.Ttl = -1 }, false},
		"auth without a hold":         {auth, func(q *impl.Req) { q.Hold = "" }, false},
		"auth with a long hold":       {auth, func(q *impl.Req) { q.Hold = "1234567" }, false},
		"auth with a padded hold":     {auth, func(q *impl.Req) { q.Hold = "h1    " }, false},
		"auth with another account":   {auth, func(q *impl.Req) { q.Other = "26" }, false},
		"auth under another type":     {auth, func(q *impl.Req) { q.Mti = "0200" }, false},
		"auth under the reply's type": {auth, func(q *impl.Req) { q.Mti = "0110" }, false},
		"auth without a type":         {auth, func(q *impl.Req) { q.Mti = "" }, false},
		"auth without an account":     {auth, func(q *impl.Req) { q.Acct = "" }, false},
		"auth with a changed account": {auth, func(q *impl.Req) { q.Acct = "19" }, false},
		"auth with a short trace":     {auth, func(q *impl.Req) { q.Trace = "00001" }, false},
		"auth with a long trace":      {auth, func(q *impl.Req) { q.Trace = "0000001" }, false},
		"auth with a trace in words":  {auth, func(q *impl.Req) { q.Trace = "00000a" }, false},
		"final":                       {final, func(q *impl.Req) {}, true},
		"final with a ttl":            {final, func(q *impl.Req) { q.Ttl = 1 }, false},
		"final as a part":             {final, func(q *impl.Req) { q.Op = impl.OqPart }, true},
		"final as a free":             {final, func(q *impl.Req) { q.Op = impl.OqFree }, false},
		"free":                        {final, func(q *impl.Req) { q.Op, q.Amount = impl.OqFree, 0 }, true},
		"move":                        {move, func(q *impl.Req) {}, true},
		"move to itself":              {move, func(q *impl.Req) { q.Other = "18" }, true},
		"move to no account":          {move, func(q *impl.Req) { q.Other = "" }, false},
		"move to a changed account":   {move, func(q *impl.Req) { q.Other = "27" }, false},
		"move with an amount":         {move, func(q *impl.Req) { q.Amount = 1 }, false},
		"ask":                         {ask, func(q *impl.Req) {}, true},
		"ask with a hold":             {ask, func(q *impl.Req) { q.Hold = "h1" }, false},
		"ask with what is no hold":    {ask, func(q *impl.Req) { q.Hold = "-" }, false},
		"ask as no operation":         {ask, func(q *impl.Req) { q.Op = 0 }, false},
		"ask as operation 9":          {ask, func(q *impl.Req) { q.Op = 9 }, false},
		"no operation and no type":    {ask, func(q *impl.Req) { q.Op, q.Mti = 0, "" }, false},
		"nothing":                     {impl.Req{}, func(q *impl.Req) {}, false},
	} {
		q := c.q
		c.change(&q)
		if got := impl.ReqOk(q); got != c.ok {
			t.Errorf("%s: ReqOk = %v", name, got)
		}
		if m, ok := impl.ReqMsg(q); ok != c.ok || !ok && !zeroMsg(m) {
			t.Errorf("%s: ReqMsg = %+v, %v", name, m, ok)
		}
	}
}

// checkRests checks q with all kinds of contents in the fields that not all operations use.
func checkRests(t *testing.T, q impl.Req) {
	t.Helper()
	for _, q.Other = range []string{"", "26", "18", "0"} {
		for _, q.Hold = range []string{"", "h1", "abc123", "H"} {
			for _, q.Amount = range []int{-1, 0, 1, 9999, 10000, 999999999999, 1000000000000} {
				for _, q.Ttl = range []int{-1, 0, 1, 9999, 10000} {
					checkReq(t, q)
				}
			}
		}
	}
}

func TestP10RequestsWithAllFields(t *testing.T) {
	for _, op := range []int{-1, 0, 1, 2, 3, 4, 5, 6, 7, 8, 9, math.MinInt, math.MaxInt} {
		for _, mti := range []string{"", "0100", "0200", "0220", "0800", "010"} {
			for _, acct := range []string{"", "18", "79927398713", "81"} {
				checkRests(t, impl.Req{Op: op, Mti: mti, Acct: acct, Trace: "000001"})
			}
		}
	}
}

// reqChanges put every kind of content into one field.
func reqChanges() []func(q *impl.Req) {
	var l []func(q *impl.Req)
	put := func(strings []string, set func(q *impl.Req, s string)) {
		for _, s := range strings {
			l = append(l, func(q *impl.Req) { set(q, s) })
		}
	}
	ids := slices.Concat(cardNumbers(), everyByteIn("26"), []string{"4539578763621486", strings.Repeat("0", 19), strings.Repeat("0", 20)})
	put(ids, func(q *impl.Req, s string) { q.Acct = s })
	put(ids, func(q *impl.Req, s string) { q.Other = s })
	holds := slices.Concat(idsToTry(), oddStrings(), everyByteIn("a0z"), stringsOf(2, "0", "9", "a", "z", "A", " ", "{", "`"))
	put(holds, func(q *impl.Req, s string) { q.Hold = s })
	put(append(manyStrings(), everyByteIn("019019")...), func(q *impl.Req, s string) { q.Trace = s })
	mtis := slices.Concat(oddStrings(), everyByteIn("0100"), everyByteIn("0220"), []string{"", "0110", "0210"})
	put(mtis, func(q *impl.Req, s string) { q.Mti = s })
	for _, n := range append(edgeInts(), 2, 9998, 9999, 10000, 10001, 999999999998, 999999999999, 1000000000000, 1000000000001, 1<<40) {
		l = append(l, func(q *impl.Req) { q.Amount = n }, func(q *impl.Req) { q.Ttl = n })
	}
	return l
}

func TestP10RequestsWithEveryContent(t *testing.T) {
	for _, o := range opsByHand() {
		for _, change := range reqChanges() {
			q := reqWith(o)
			change(&q)
			checkReq(t, q)
		}
	}
}

func TestP10RequestsWithEveryOperation(t *testing.T) {
	for _, o := range opsByHand() {
		for _, n := range append(numbersWithoutOp(), 1, 2, 3, 4, 5, 6, 7, 8) {
			q := reqWith(o)
			q.Op = n
			checkReq(t, q)
			q.Mti = ""
			checkReq(t, q)
		}
	}
}

func TestP4RequestsAreRecoveredFromTheirMessages(t *testing.T) {
	for _, o := range opsByHand() {
		for _, acct := range []string{"00", "18", "79927398713", "4539578763621486", strings.Repeat("0", 19)} {
			for _, trace := range []string{"000000", "000001", "999999"} {
				for _, hold := range []string{"0", "z", "h1", "abcdef", "000000"} {
					for _, n := range []int{0, 1, 60, 9999} {
						q := reqWith(o)
						q.Acct, q.Trace = acct, trace
						if o.use("Hold") {
							q.Hold = hold
						}
						if o.use("Amount") {
							q.Amount = n * 100010000
						}
						if o.use("Ttl") {
							q.Ttl = n
						}
						checkEncodedReq(t, q)
					}
				}
			}
		}
	}
	for ttl := range 10000 {
		q := reqWith(opsByHand()[0])
		q.Ttl, q.Amount = ttl, 999999999999-ttl
		checkEncodedReq(t, q)
	}
}

// checkEncodedReq takes the request through the bytes of its message; it must be valid.
func checkEncodedReq(t *testing.T, q impl.Req) {
	t.Helper()
	m, ok := impl.ReqMsg(q)
	b, encoded := impl.Encode(m)
	back, code := impl.Parse(b)
	again, rs := impl.ReqOf(back)
	if !ok || !encoded || code != impl.PrOk || rs != impl.RsOk || again != q {
		t.Fatalf("%+v is recovered as %+v: %v, %v, %d, %d", q, again, ok, encoded, code, rs)
	}
}

func TestP10ReqMsgByExample(t *testing.T) {
	for want, q := range map[string]impl.Req{
		"0100 2=18 3=000000 4=000000000040 11=000001 14=0010 38=h1    ": {Op: impl.OqAuth, Mti: "0100", Acct: "18", Trace: "000001", Hold: "h1", Amount: 40, Ttl: 10},
		"0100 2=18 3=020000 4=000000000000 11=000002 38=abcdef":         {Op: impl.OqMore, Mti: "0100", Acct: "18", Trace: "000002", Hold: "abcdef"},
		"0220 2=00 3=010000 4=999999999999 11=999999 38=0     ":         {Op: impl.OqPart, Mti: "0220", Acct: "00", Trace: "999999", Hold: "0", Amount: 999999999999},
		"0220 2=18 3=000000 4=000000000001 11=000001 38=h1    ":         {Op: impl.OqFinal, Mti: "0220", Acct: "18", Trace: "000001", Hold: "h1", Amount: 1},
		"0220 2=18 3=200000 11=000001 38=h1    ":                        {Op: impl.OqFree, Mti: "0220", Acct: "18", Trace: "000001", Hold: "h1"},
		"0200 2=18 3=400000 11=000001 38=h1     103=79927398713":        {Op: impl.OqMove, Mti: "0200", Acct: "18", Trace: "000001", Hold: "h1", Other: "79927398713"},
		"0100 2=18 3=310000 11=000000":                                  {Op: impl.OqAsk, Mti: "0100", Acct: "18", Trace: "000000"},
		"0200 2=18 3=900000 11=000001":                                  {Op: impl.OqSweep, Mti: "0200", Acct: "18", Trace: "000001"},
	} {
		m, ok := impl.ReqMsg(q)
		got := m.Mti
		for _, f := range m.List {
			got += " " + strconv.Itoa(f.No) + "=" + f.Text
		}
		if !ok || got != want {
			t.Errorf("ReqMsg(%+v) = %s, %v; want %s", q, got, ok, want)
		}
		if back, code := impl.ReqOf(m); back != q || code != impl.RsOk {
			t.Errorf("ReqOf(%+v) = %+v, %d; want %+v", m, back, code, q)
		}
	}
}

func TestP10ReqOfByExample(t *testing.T) {
	auth, final, move, ask := wholeMsg("0100", "009999"), wholeMsg("0220", "000000"), wholeMsg("0200", "401234"), wholeMsg("0100", "310000")
	for name, c := range map[string]struct {
		m    impl.Msg
		q    impl.Req
		code int
	}{
		"auth":                                       {auth, impl.Req{Op: impl.OqAuth, Mti: "0100", Acct: "79927398713", Trace: "000042", Hold: "h1", Amount: 1250, Ttl: 60}, impl.RsOk},
		"final":                                      {final, impl.Req{Op: impl.OqFinal, Mti: "0220", Acct: "79927398713", Trace: "000042", Hold: "h1", Amount: 1250}, impl.RsOk},
		"move":                                       {move, impl.Req{Op: impl.OqMove, Mti: "0200", Acct: "79927398713", Trace: "000042", Hold: "h1", Other: "26"}, impl.RsOk},
		"ask":                                        {ask, impl.Req{Op: impl.OqAsk, Mti: "0100", Acct: "79927398713", Trace: "000042"}, impl.RsOk},
		"ask, odd unused fields":                     {replaced(replaced(ask, 38, "  -  "+"~"), 103, "not an account"), impl.Req{Op: impl.OqAsk, Mti: "0100", Acct: "79927398713", Trace: "000042"}, impl.RsOk},
		"auth for nothing":                           {replaced(replaced(auth, 4, "000000000000"), 14, "0000"), impl.Req{Op: impl.OqAuth, Mti: "0100", Acct: "79927398713", Trace: "000042", Hold: "h1"}, impl.RsOk},
		"auth without amount":                        {without(auth, 4), impl.Req{}, impl.RsForm},
		"auth without ttl":                           {without(auth, 14), impl.Req{}, impl.RsForm},
		"auth without hold":                          {without(auth, 38), impl.Req{}, impl.RsForm},
		"auth without account":                       {without(auth, 2), impl.Req{}, impl.RsForm},
		"auth without trace":                         {without(auth, 11), impl.Req{}, impl.RsForm},
		"auth without field 3":                       {without(auth, 3), impl.Req{}, impl.RsForm},
		"another operation":                          {replaced(auth, 3, "010000"), impl.Req{}, impl.RsForm},
		"that of another type":                       {replaced(auth, 3, "400000"), impl.Req{}, impl.RsForm},
		"a changed account":                          {replaced(auth, 2, "79927398731"), impl.Req{}, impl.RsForm},
		"an account of one digit":                    {replaced(auth, 2, "0"), impl.Req{}, impl.RsForm},
		"a hold of spaces":                           {replaced(auth, 38, "      "), impl.Req{}, impl.RsForm},
		"a hold behind a space":                      {replaced(auth, 38, " h1   "), impl.Req{}, impl.RsForm},
		"a hold with a space":                        {replaced(auth, 38, "h 1   "), impl.Req{}, impl.RsForm},
		"a hold in capitals":                         {replaced(auth, 38, "H1    "), impl.Req{}, impl.RsForm},
		"move to no account":                         {without(move, 103), impl.Req{}, impl.RsForm},
		"move to a padded one":                       {replaced(move, 103, "26 "), impl.Req{}, impl.RsForm},
		"move to a changed one":                      {replaced(move, 103, "62"), impl.Req{}, impl.RsForm},
		"move to one too long":                       {replaced(move, 103, strings.Repeat("0", 20)), impl.Req{}, impl.RsForm},
		"an unknown type":                            {wholeMsg("0800", "000000"), impl.Req{}, impl.RsMti},
		"the type of a reply":                        {wholeMsg("0110", "000000"), impl.Req{}, impl.RsMti},
		"an unknown type alone":                      {impl.Msg{Mti: "0800"}, impl.Req{}, impl.RsMti},
		"a known type alone":                         {impl.Msg{Mti: "0100"}, impl.Req{}, impl.RsForm},
		"an unknown type and no valid field":         {replaced(wholeMsg("0800", "000000"), 4, "1"), impl.Req{}, impl.RsForm},
		"an unused field that is not valid":          {replaced(ask, 48, ""), impl.Req{}, impl.RsForm},
		"an amount that is not valid and not needed": {replaced(ask, 4, "1"), impl.Req{}, impl.RsForm},
		"no type":                                    {wholeMsg("", "000000"), impl.Req{}, impl.RsForm},
		"a short type":                               {wholeMsg("010", "000000"), impl.Req{}, impl.RsForm},
		"a short code":                               {wholeMsg("0100", "00"), impl.Req{}, impl.RsForm},
		"an empty code":                              {wholeMsg("0100", ""), impl.Req{}, impl.RsForm},
	} {
		if q, code := impl.ReqOf(c.m); q != c.q || code != c.code {
			t.Errorf("%s: ReqOf = %+v, %d; want %+v, %d", name, q, code, c.q, c.code)
		}
	}
}

// masked is m with field i only if bit i of the mask is set.
func masked(m impl.Msg, mask int) impl.Msg {
	part := impl.Msg{Mti: m.Mti}
	for i, f := range m.List {
		if mask>>i&1 == 1 {
			part.List = append(part.List, f)
		}
	}
	return part
}

func TestP10ReqOfForAllFieldsAndOperations(t *testing.T) {
	fields := fieldsByNo()
	for _, mti := range []string{"0100", "0200", "0220", "0800"} {
		for _, third := range []string{"000000", "010000", "020001", "209999", "310000", "400000", "900000", "030000", "130000", "002031"} {
			m := wholeMsg(mti, third)
			for mask := range 1 << len(m.List) {
				checkReqOf(t, fields, masked(m, mask))
			}
		}
	}
}

func TestP10ReqOfForEveryCode(t *testing.T) {
	fields := fieldsByNo()
	for n := range 10000 {
		digits := fmt.Sprintf("%04d", n)
		for _, mti := range []string{"0100", "0200", "0220"} {
			checkReqOf(t, fields, wholeMsg(mti, digits+"00"))
		}
		checkReqOf(t, fields, wholeMsg("0220", "20"+digits))
	}
}

func TestP10ReqOfForEveryType(t *testing.T) {
	fields := fieldsByNo()
	for _, mti := range mtisToTry() {
		checkReqOf(t, fields, wholeMsg(mti, "000000"))
		checkReqOf(t, fields, impl.Msg{Mti: mti})
	}
}

func TestP10ReqOfForEveryContent(t *testing.T) {
	fields, some := fieldsByNo(), contents()
	more := map[int][]string{2: append(cardNumbers(), everyByteIn("18")...), 38: everyByteIn("h1    "), 103: append(cardNumbers(), everyByteIn("26")...)}
	for _, o := range opsByHand() {
		m := wholeMsg(o.mti, o.code+"0000")
		for _, f := range m.List {
			for _, s := range slices.Concat(some, more[f.No]) {
				checkReqOf(t, fields, replaced(m, f.No, s))
			}
		}
	}
}

func TestP10ReqOfForInvalidMessages(t *testing.T) {
	fields := fieldsByNo()
	for _, m := range slices.Concat(oddMsgs(), goodMsgs(), requestMsgs()) {
		checkReqOf(t, fields, m)
		m.Mti = "0800"
		checkReqOf(t, fields, m)
	}
	for _, o := range opsByHand() {
		m := wholeMsg(o.mti, o.code+"0000")
		for i := range m.List {
			twice := cloneMsg(m)
			twice.List = slices.Insert(twice.List, i, twice.List[i])
			checkReqOf(t, fields, twice)
			late := cloneMsg(m)
			late.List = append(slices.Delete(late.List, i, i+1), m.List[i])
			checkReqOf(t, fields, late)
			for _, no := range []int{-1, 0, 1, 5, 64, 65, 104, math.MinInt, math.MaxInt} {
				other := cloneMsg(m)
				other.List[i].No = no
				checkReqOf(t, fields, other)
			}
		}
	}
}

// TestP4EveryMessageOfARequestIsItsOwnButForWhatIsNotUsed takes away what ReqOf does not read.
func TestP4EveryMessageOfARequestIsItsOwnButForWhatIsNotUsed(t *testing.T) {
	for _, o := range opsByHand() {
		for _, rest := range []string{"0000", "0001", "9999", "4000"} {
			m := wholeMsg(o.mti, o.code+rest)
			q, code := impl.ReqOf(m)
			got, ok := impl.ReqMsg(q)
			want := replaced(m, 3, o.code+"0000")
			want.List = slices.DeleteFunc(want.List, func(f impl.Field) bool { return !slices.Contains(o.usedNos(), f.No) })
			if code != impl.RsOk || !ok || !sameMsg(got, want) {
				t.Errorf("ReqMsg(ReqOf(%+v)) = %+v, %v; want %+v", m, got, ok, want)
			}
		}
	}
}

// TestP4AChangedAccountIsNoRequest changes one digit of the account, and of the other account of a move.
func TestP4AChangedAccountIsNoRequest(t *testing.T) {
	for _, o := range opsByHand() {
		m := wholeMsg(o.mti, o.code+"0000")
		for _, no := range []int{2, 103} {
			text, _ := textOf(m, no)
			if no == 103 && !o.use("Other") {
				continue
			}
			for i := range text {
				for d := '0'; d <= '9'; d++ {
					changed := text[:i] + string(d) + text[i+1:]
					if q, code := impl.ReqOf(replaced(m, no, changed)); changed != text && (q != impl.Req{} || code != impl.RsForm) {
						t.Errorf("%s with the account %s in field %d: %+v, %d", o.name, changed, no, q, code)
					}
				}
			}
		}
	}
}

func TestP10MessagesOfRequestsAreNewMemory(t *testing.T) {
	for _, o := range opsByHand() {
		checkNewFields(t, "ReqMsg of "+o.name, func(impl.Msg) []impl.Field {
			m, _ := impl.ReqMsg(reqWith(o))
			return m.List
		})
	}
}

func TestP10ReqOfLeavesItsArgument(t *testing.T) {
	l := slices.Concat(oddMsgs(), requestMsgs())
	for _, o := range opsByHand() {
		l = append(l, wholeMsg(o.mti, o.code+"0000"), reqMsgByHand(reqWith(o)))
	}
	for _, m := range l {
		m, whole := withFieldsBehind(m)
		before := slices.Clone(whole)
		impl.ReqOf(m)
		if !slices.Equal(whole, before) {
			t.Errorf("the list is now %+v", whole)
		}
	}
}
