package tests

import (
	"regexp"
	"slices"
	"strconv"
	"strings"
	"testing"

	"loop.example/g00735/impl"
)

// codesByHand are the texts of the document, in the order of the codes.
const codesByHand = "00 30 12 14 13 25 94 51 65 61 96"

var (
	replyTypes   = map[byte]byte{'0': '1', '2': '3', '4': '5', '6': '7', '8': '9'}
	holdForm     = regexp.MustCompile(`\A[ -~]{1,6}\z`)
	toldForm     = regexp.MustCompile(`\A[ -~]{1,60}\z`)
	repeatedList = []int{2, 3, 4, 7, 11, 37, 41, 49, 102, 103}
)

func rsTextByHand(code int) string {
	texts := strings.Fields(codesByHand)
	if code < 0 || code > 10 {
		return ""
	}
	return texts[code]
}

func replyMtiByHand(mti string) string {
	if !mtiForm.MatchString(mti) {
		return ""
	}
	third, exists := replyTypes[mti[2]]
	if !exists {
		return ""
	}
	return mti[:2] + string(third) + mti[3:]
}

// replyByHand walks through the numbers of a reply in ascending order.
func replyByHand(fields map[int]knownField, m impl.Msg, code int, hold string, told string) (impl.Msg, bool) {
	mti := replyMtiByHand(m.Mti)
	held := code == 0 && hold != ""
	if !okByHand(fields, m) || mti == "" || rsTextByHand(code) == "" {
		return impl.Msg{}, false
	}
	if held && !holdForm.MatchString(hold) || told != "" && !toldForm.MatchString(told) {
		return impl.Msg{}, false
	}
	r := impl.Msg{Mti: mti}
	for no := range 129 {
		at := slices.IndexFunc(m.List, func(f impl.Field) bool { return f.No == no })
		switch {
		case at >= 0 && slices.Contains(repeatedList, no):
			r.List = append(r.List, m.List[at])
		case no == 38 && held:
			r.List = append(r.List, impl.Field{No: 38, Text: (hold + "     ")[:6]})
		case no == 39:
			r.List = append(r.List, impl.Field{No: 39, Text: rsTextByHand(code)})
		case no == 54 && told != "":
			r.List = append(r.List, impl.Field{No: 54, Text: told})
		}
	}
	return r, true
}

func checkReply(t *testing.T, fields map[int]knownField, m impl.Msg, code int, hold string, told string) {
	t.Helper()
	got, ok := impl.Reply(m, code, hold, told)
	want, wantOk := replyByHand(fields, m, code, hold, told)
	if ok != wantOk || !sameMsg(got, want) {
		t.Errorf("Reply(%+v, %d, %q, %q) = %+v, %v; want %+v, %v", m, code, hold, told, got, ok, want, wantOk)
	}
	if ok && !okByHand(fields, got) {
		t.Errorf("Reply(%+v, %d, %q, %q) = %+v, which is not valid", m, code, hold, told, got)
	}
}

// holds are names, what fills the field without being one, and what does not fit into it.
func holds() []string {
	l := []string{"", "h", "h1", "h1    ", " h1", "      ", " ", "~~~~~~", "123456", "\n", "h\n", "h\x00", "h\x7f", "\xff", "\u00e9", "1234567", "h1     ", "       "}
	return append(l, strings.Repeat("h", 60), strings.Repeat("\u00e9", 3), strings.Repeat("h", 5000))
}

func tolds() []string {
	l := []string{"", "0", " ", "5000 1200", "\n", "1\n", "\x1f", "\x7f", "\xff", "\u00e9"}
	for n := 58; n <= 62; n++ {
		l = append(l, digitsOf(n), wordOf(n), strings.Repeat(" ", n))
	}
	return append(l, strings.Repeat("9", 1000))
}

func someCodes() []int {
	l := edgeInts()
	for code := -3; code <= 100; code++ {
		l = append(l, code)
	}
	return append(l, 256, 1<<32+3)
}

// requestMsgs are the good messages under types that have replies and types that do not.
func requestMsgs() []impl.Msg {
	var l []impl.Msg
	for _, mti := range []string{"0100", "0200", "0220", "0800", "9989", "0110", "0230", "9999", "0010"} {
		for _, m := range goodMsgs() {
			m.Mti = mti
			l = append(l, m)
		}
	}
	return l
}

func TestP10ConstantsOfChapter6(t *testing.T) {
	got := []int{
		impl.RsOk, impl.RsForm, impl.RsMti, impl.RsNone, impl.RsBad, impl.RsHold, impl.RsTwice, impl.RsFunds, impl.RsCount, impl.RsSum, impl.RsFull,
	}
	if !slices.Equal(got, []int{0, 1, 2, 3, 4, 5, 6, 7, 8, 9, 10}) {
		t.Error("the codes are", got)
	}
}

func TestP10RsTextByExample(t *testing.T) {
	for code, want := range map[int]string{
		impl.RsOk: "00", impl.RsForm: "30", impl.RsMti: "12", impl.RsNone: "14", impl.RsBad: "13", impl.RsHold: "25",
		impl.RsTwice: "94", impl.RsFunds: "51", impl.RsCount: "65", impl.RsSum: "61", impl.RsFull: "96",
	} {
		if got := impl.RsText(code); got != want {
			t.Errorf("RsText(%d) = %q; want %q", code, got, want)
		}
		if back, ok := impl.TextRs(want); back != code || !ok {
			t.Errorf("TextRs(%q) = %d, %v; want %d", want, back, ok, code)
		}
	}
}

func TestP10RsText(t *testing.T) {
	for _, code := range someCodes() {
		if got, want := impl.RsText(code), rsTextByHand(code); got != want {
			t.Errorf("RsText(%d) = %q; want %q", code, got, want)
		}
	}
}

func TestP10TextRs(t *testing.T) {
	var two []string
	for x := range 1 << 16 {
		two = append(two, string([]byte{byte(x >> 8), byte(x)}))
	}
	for _, s := range slices.Concat(two, manyStrings(), []string{"", "0", "000", "00 ", " 00", "00\n", "030", "300", "3", "96 ", "00 30"}) {
		want := slices.Index(strings.Fields(codesByHand), s)
		code, ok := impl.TextRs(s)
		if ok != (want >= 0) || code != max(want, 0) {
			t.Errorf("TextRs(%q) = %d, %v; want %d", s, code, ok, want)
		}
	}
}

// mtisToTry are all types, and strings that are none.
func mtisToTry() []string {
	l := append(manyStrings(), "", "0", "010", "01000", "0100 ", " 0100", "0100\n", "010\n", "00100", "01\u00e9", "0100\x00", "0\u0661 0", "\uff101")
	for n := range 10000 {
		l = append(l, strconv.Itoa(10000 + n)[1:])
	}
	for i := range 4 {
		for x := range 256 {
			for _, mti := range []string{"0100", "0220", "9989", "0110"} {
				changed := []byte(mti)
				changed[i] = byte(x)
				l = append(l, string(changed))
			}
		}
	}
	return l
}

func TestP10MtiKnown(t *testing.T) {
	for _, mti := range mtisToTry() {
		if got, want := impl.MtiKnown(mti), slices.Contains([]string{"0100", "0200", "0220"}, mti); got != want {
			t.Errorf("MtiKnown(%q) = %v", mti, got)
		}
	}
}

func TestP10ReplyMtiByExample(t *testing.T) {
	for mti, want := range map[string]string{
		"0100": "0110", "0200": "0210", "0220": "0230", "0800": "0810", "0089": "0099", "9940": "9950", "0969": "0979",
		"0110": "", "0230": "", "9999": "", "0050": "", "0171": "", "": "", "010": "", "01000": "", "01a0": "", "x100": "", "010\n": "",
	} {
		if got := impl.ReplyMti(mti); got != want {
			t.Errorf("ReplyMti(%q) = %q; want %q", mti, got, want)
		}
	}
}

func TestP10ReplyMti(t *testing.T) {
	for _, mti := range mtisToTry() {
		if got, want := impl.ReplyMti(mti), replyMtiByHand(mti); got != want {
			t.Errorf("ReplyMti(%q) = %q; want %q", mti, got, want)
		}
	}
}

func TestP5ReplyByExample(t *testing.T) {
	request := impl.Msg{Mti: "0100", List: []impl.Field{
		{No: 2, Text: "26"}, {No: 3, Text: "000000"}, {No: 4, Text: "000000001250"}, {No: 7, Text: "1119120000"}, {No: 11, Text: "000042"},
		{No: 14, Text: "0060"}, {No: 37, Text: "reference 12"}, {No: 38, Text: "other "}, {No: 39, Text: "77"}, {No: 41, Text: "terminal"},
		{No: 48, Text: "private"}, {No: 49, Text: "978"}, {No: 54, Text: "asked"}, {No: 95, Text: "replacements"}, {No: 102, Text: "from"}, {No: 103, Text: "to"},
	}}
	repeated := "2=26 3=000000 4=000000001250 7=1119120000 11=000042 37=reference 12 "
	for _, c := range []struct {
		code       int
		hold, told string
		want       string
	}{
		{impl.RsOk, "h1", "", repeated + "38=h1     39=00 41=terminal 49=978 102=from 103=to "},
		{impl.RsOk, "", "", repeated + "39=00 41=terminal 49=978 102=from 103=to "},
		{impl.RsOk, "", "5000 1250", repeated + "39=00 41=terminal 49=978 54=5000 1250 102=from 103=to "},
		{impl.RsOk, "abcdef", "x", repeated + "38=abcdef 39=00 41=terminal 49=978 54=x 102=from 103=to "},
		{impl.RsFunds, "h1", "", repeated + "39=51 41=terminal 49=978 102=from 103=to "},
		{impl.RsFull, "too long", "x", repeated + "39=96 41=terminal 49=978 54=x 102=from 103=to "},
	} {
		r, ok := impl.Reply(request, c.code, c.hold, c.told)
		got := ""
		for _, f := range r.List {
			got += strconv.Itoa(f.No) + "=" + f.Text + " "
		}
		if !ok || r.Mti != "0110" || got != c.want {
			t.Errorf("Reply(.., %d, %q, %q) = %s %s, %v; want %s", c.code, c.hold, c.told, r.Mti, got, ok, c.want)
		}
	}
}

func TestP5ReplyRepeatsTheFieldsOfTheRequest(t *testing.T) {
	fields, inOrder := fieldsByNo(), allFieldsInOrder()
	for mask := range 1 << len(inOrder) {
		m := msgOfMask(inOrder, mask)
		hold, told := "", ""
		if mask%3 > 0 {
			hold = wordOf(mask % 3 * 3)
		}
		if mask%5 > 0 {
			told = wordOf(mask % 61)
		}
		checkReply(t, fields, m, mask%11, hold, told)
		checkReply(t, fields, m, impl.RsOk, hold, told)
		if t.Failed() {
			return
		}
	}
}

func TestP5ReplyRepeatsEveryContent(t *testing.T) {
	fields := fieldsByNo()
	for no, f := range fields {
		for _, s := range contents() {
			m := impl.Msg{Mti: "0200", List: []impl.Field{{No: no, Text: s}}}
			checkReply(t, fields, m, impl.RsOk, "h1", "")
			if got, ok := impl.Reply(m, impl.RsNone, "", ""); ok != f.form.MatchString(s) || !ok && !zeroMsg(got) {
				t.Errorf("Reply(%+v, ..) = %+v, %v", m, got, ok)
			}
		}
	}
}

func TestP10ReplyWithEveryTypeCodeHoldAndTold(t *testing.T) {
	fields := fieldsByNo()
	for _, m := range requestMsgs() {
		for _, code := range someCodes() {
			checkReply(t, fields, m, code, "h1", "")
			checkReply(t, fields, m, code, "", "1 2")
		}
		for _, hold := range holds() {
			for _, told := range tolds() {
				for _, code := range []int{impl.RsOk, impl.RsForm, impl.RsFull, -1, 11} {
					checkReply(t, fields, m, code, hold, told)
				}
			}
		}
	}
}

func TestP10ReplyHasEveryType(t *testing.T) {
	fields := fieldsByNo()
	for _, mti := range mtisToTry() {
		m := msgWith(fields, mti, 2, 3, 14)
		checkReply(t, fields, m, impl.RsOk, "h1", "told")
		checkReply(t, fields, impl.Msg{Mti: mti}, impl.RsMti, "", "")
	}
}

func TestP10ReplyRefusesByExample(t *testing.T) {
	good := authMsg()
	for name, c := range map[string]struct {
		m          impl.Msg
		code       int
		hold, told string
	}{
		"the type of a reply":       {impl.Msg{Mti: "0110"}, impl.RsOk, "", ""},
		"no type":                   {impl.Msg{}, impl.RsOk, "", ""},
		"an invalid field":          {impl.Msg{Mti: "0100", List: []impl.Field{{No: 3, Text: "0"}}}, impl.RsForm, "", ""},
		"an invalid field, dropped": {impl.Msg{Mti: "0100", List: []impl.Field{{No: 14, Text: "0"}}}, impl.RsForm, "", ""},
		"an unknown field":          {impl.Msg{Mti: "0100", List: []impl.Field{{No: 5, Text: "0"}}}, impl.RsForm, "", ""},
		"a field twice":             {impl.Msg{Mti: "0100", List: []impl.Field{{No: 2, Text: "1"}, {No: 2, Text: "1"}}}, impl.RsForm, "", ""},
		"fields out of order":       {impl.Msg{Mti: "0100", List: []impl.Field{{No: 3, Text: "000000"}, {No: 2, Text: "1"}}}, impl.RsForm, "", ""},
		"a code below":              {good, -1, "", ""},
		"a code above":              {good, 11, "", ""},
		"a hold that is too long":   {good, impl.RsOk, "1234567", ""},
		"a hold with a newline":     {good, impl.RsOk, "h\n", ""},
		"told is too long":          {good, impl.RsOk, "", strings.Repeat("1", 61)},
		"told is too long, refused": {good, impl.RsFunds, "", strings.Repeat("1", 61)},
		"told has a newline":        {good, impl.RsNone, "", "1\n2"},
	} {
		if got, ok := impl.Reply(c.m, c.code, c.hold, c.told); ok || !zeroMsg(got) {
			t.Errorf("%s: Reply = %+v, %v", name, got, ok)
		}
	}
}

func TestP5InvalidMessagesHaveNoReply(t *testing.T) {
	for _, m := range append(oddMsgs(), impl.Msg{}) {
		for code := range 11 {
			for _, hold := range []string{"", "h1"} {
				for _, told := range []string{"", "1 2"} {
					if got, ok := impl.Reply(m, code, hold, told); ok || !zeroMsg(got) {
						t.Errorf("Reply(%+v, %d, %q, %q) = %+v, %v", m, code, hold, told, got, ok)
					}
				}
			}
		}
	}
}

func TestP5RepliesAreNotAnswered(t *testing.T) {
	for _, m := range requestMsgs() {
		r, ok := impl.Reply(m, impl.RsOk, "h1", "1 2")
		if !ok {
			continue
		}
		for code := range 11 {
			if got, ok := impl.Reply(r, code, "", ""); ok || !zeroMsg(got) {
				t.Errorf("Reply(%+v, ..) = %+v, %v", r, got, ok)
			}
			if got, ok := impl.Bare(r.Mti, code); ok || !zeroMsg(got) {
				t.Errorf("Bare(%q, ..) = %+v, %v", r.Mti, got, ok)
			}
		}
	}
}

func TestP10Bare(t *testing.T) {
	for _, mti := range mtisToTry() {
		for _, code := range []int{impl.RsOk, impl.RsForm, impl.RsSum, impl.RsFull, -1, 11, 96} {
			checkBare(t, mti, code)
		}
	}
	for _, code := range someCodes() {
		for _, mti := range []string{"0100", "0220", "9989", "0110", "", "010", "0x00"} {
			checkBare(t, mti, code)
		}
	}
}

func checkBare(t *testing.T, mti string, code int) {
	t.Helper()
	want := impl.Msg{}
	wantOk := replyMtiByHand(mti) != "" && rsTextByHand(code) != ""
	if wantOk {
		want = impl.Msg{Mti: replyMtiByHand(mti), List: []impl.Field{{No: 39, Text: rsTextByHand(code)}}}
	}
	if got, ok := impl.Bare(mti, code); ok != wantOk || !sameMsg(got, want) {
		t.Errorf("Bare(%q, %d) = %+v, %v; want %+v, %v", mti, code, got, ok, want, wantOk)
	}
}

func TestP5BareByExample(t *testing.T) {
	b, ok := impl.Bare("0100", impl.RsForm)
	if !ok || b.Mti != "0110" || !slices.Equal(b.List, []impl.Field{{No: 39, Text: "30"}}) {
		t.Errorf("Bare(0100, RsForm) = %+v, %v", b, ok)
	}
	if b, ok := impl.Bare("0110", impl.RsForm); ok || !zeroMsg(b) {
		t.Errorf("Bare(0110, RsForm) = %+v, %v", b, ok)
	}
	if b, ok := impl.Bare("0100", 11); ok || !zeroMsg(b) {
		t.Errorf("Bare(0100, 11) = %+v, %v", b, ok)
	}
}

func TestP10RepliesAreNewMemory(t *testing.T) {
	for name, list := range map[string]func(m impl.Msg) []impl.Field{
		"Reply": func(m impl.Msg) []impl.Field { r, _ := impl.Reply(m, impl.RsOk, "h1", "1 2"); return r.List },
		"Reply, nothing dropped": func(m impl.Msg) []impl.Field {
			r, _ := impl.Reply(impl.Msg{Mti: m.Mti, List: m.List[:4]}, impl.RsFunds, "", "")
			return r.List
		},
		"Bare": func(m impl.Msg) []impl.Field { r, _ := impl.Bare(m.Mti, impl.RsForm); return r.List },
	} {
		checkNewFields(t, name, list)
	}
}

func TestP10ReplyFunctionsLeaveTheirArguments(t *testing.T) {
	for _, m := range append(oddMsgs(), requestMsgs()...) {
		m, whole := withFieldsBehind(m)
		before := slices.Clone(whole)
		impl.Reply(m, impl.RsOk, "h1", "1 2")
		impl.Reply(m, impl.RsNone, "", "")
		impl.Reply(m, 11, "", "")
		if !slices.Equal(whole, before) {
			t.Errorf("the list is now %+v", whole)
		}
	}
}
