package tests

import (
	"bytes"
	"encoding/hex"
	"math"
	"regexp"
	"slices"
	"strings"
	"testing"

	"loop.example/g00735/impl"
)

// The expectations are computed with the fields and bitmaps by hand of the other tests, so that they share nothing with the program.

var mtiForm = regexp.MustCompile(`\A[0-9]{4}\z`)

func fieldsByNo() map[int]knownField {
	fields := map[int]knownField{}
	for _, f := range knownFields() {
		fields[f.no] = f
	}
	return fields
}

// shortOf and longOf are the ends of what field f may contain.
func shortOf(f knownField) string {
	if f.kind >= 3 {
		return digitsOf(1)
	}
	return digitsOf(f.size)
}

func longOf(f knownField) string {
	if f.kind == 1 || f.kind == 3 {
		return strings.Repeat("9", f.size)
	}
	return wordOf(f.size)
}

// msgOfMask has field i of the document's list if bit i of the mask is set.
func msgOfMask(fields []knownField, mask int) impl.Msg {
	m := impl.Msg{Mti: "0100"}
	for i, f := range fields {
		if mask>>i&1 == 0 {
			continue
		}
		s := shortOf(f)
		if (mask+i)%2 == 1 {
			s = longOf(f)
		}
		m.List = append(m.List, impl.Field{No: f.no, Text: s})
	}
	return m
}

func allFieldsInOrder() []knownField {
	fields := knownFields()
	slices.SortFunc(fields, func(a, b knownField) int { return a.no - b.no })
	return fields
}

func msgWith(fields map[int]knownField, mti string, nos ...int) impl.Msg {
	m := impl.Msg{Mti: mti}
	for _, no := range nos {
		m.List = append(m.List, impl.Field{No: no, Text: shortOf(fields[no])})
	}
	return m
}

func authMsg() impl.Msg {
	return impl.Msg{Mti: "0100", List: []impl.Field{
		{No: 2, Text: "79927398713"}, {No: 3, Text: "000000"}, {No: 4, Text: "000000001250"}, {No: 11, Text: "000042"},
		{No: 14, Text: "0060"}, {No: 38, Text: "h1    "}, {No: 48, Text: "a b"}, {No: 103, Text: "26"},
	}}
}

// goodMsgs are messages with no, one, few and all fields, with one and with two bitmaps.
func goodMsgs() []impl.Msg {
	fields, inOrder := fieldsByNo(), allFieldsInOrder()
	l := []impl.Msg{authMsg(), msgOfMask(inOrder, 1<<16-1), msgOfMask(inOrder, 1<<13-1), msgWith(fields, "0000")}
	for _, nos := range [][]int{{2}, {54}, {95}, {2, 103}, {102, 103}, {3, 39}, {11, 14, 37}, {7, 41, 49, 95}} {
		l = append(l, msgWith(fields, "9210", nos...))
	}
	return l
}

func okByHand(fields map[int]knownField, m impl.Msg) bool {
	if !mtiForm.MatchString(m.Mti) {
		return false
	}
	for i, f := range m.List {
		known, exists := fields[f.No]
		if !exists || !known.form.MatchString(f.Text) || i > 0 && m.List[i-1].No >= f.No {
			return false
		}
	}
	return true
}

// badMsgs are messages with one fault each, and some with several.
func badMsgs() []impl.Msg {
	var l []impl.Msg
	for _, mti := range append(oddStrings(), "", "0", "010", "01000", "00000100", "010a", "a100", "01 0", "0100\n", "\uff10100", "0\u06611", "\u0661\u0662") {
		bad := authMsg()
		bad.Mti = mti
		l = append(l, bad, impl.Msg{Mti: mti})
	}
	for i := range authMsg().List {
		for _, text := range []string{"", "\n", "1\x00", strings.Repeat("1", 61), "12\u00b2"} {
			bad := authMsg()
			bad.List[i].Text = text
			l = append(l, bad)
		}
		for _, no := range append(edgeInts(), 0, 1, 5, 64, 65, 66, 104, 128, 129) {
			bad := authMsg()
			bad.List[i].No = no
			l = append(l, bad)
		}
		for j := range i {
			bad := authMsg()
			bad.List[i], bad.List[j] = bad.List[j], bad.List[i]
			l = append(l, bad)
			twice := authMsg()
			twice.List = slices.Insert(twice.List, i, twice.List[j])
			l = append(l, twice)
		}
		twice := authMsg()
		twice.List = slices.Insert(twice.List, i, twice.List[i])
		l = append(l, twice)
	}
	fields := fieldsByNo()
	return slices.DeleteFunc(l, func(m impl.Msg) bool { return okByHand(fields, m) })
}

func cloneMsg(m impl.Msg) impl.Msg {
	return impl.Msg{Mti: m.Mti, List: slices.Clone(m.List)}
}

func sameMsg(a impl.Msg, b impl.Msg) bool {
	return a.Mti == b.Mti && slices.Equal(a.List, b.List)
}

func zeroMsg(m impl.Msg) bool {
	return m.Mti == "" && len(m.List) == 0
}

func mustHex(s string) []byte {
	b, err := hex.DecodeString(s)
	if err != nil {
		panic(err)
	}
	return b
}

func encodeByHand(fields map[int]knownField, m impl.Msg) []byte {
	var first, second []int
	var body []byte
	for _, f := range m.List {
		if f.No <= 64 {
			first = append(first, f.No)
		} else {
			second = append(second, f.No-64)
		}
		body = append(body, putByHand(fields[f.No], f.Text)...)
	}
	b := mustHex(m.Mti)
	if len(second) == 0 {
		return slices.Concat(b, bitsByHand(first), body)
	}
	return slices.Concat(b, bitsByHand(append(first, 1)), bitsByHand(second), body)
}

// nosByHand returns the field numbers of the bitmaps at offset 2, and the offset behind them.
func nosByHand(fields map[int]knownField, b []byte) ([]int, int, bool) {
	if len(b) < 10 {
		return nil, 0, false
	}
	nos, at := bitNumbers(b[2:10]), 10
	if slices.Contains(nos, 1) {
		if len(b) < 18 || bytes.Equal(b[10:18], make([]byte, 8)) {
			return nil, 0, false
		}
		nos, at = nos[1:], 18
		for _, k := range bitNumbers(b[10:18]) {
			nos = append(nos, 64+k)
		}
	}
	for _, no := range nos {
		if _, exists := fields[no]; !exists {
			return nil, 0, false
		}
	}
	return nos, at, true
}

func parseByHand(fields map[int]knownField, b []byte) (impl.Msg, int) {
	if len(b) < 2 || !mtiForm.MatchString(hex.EncodeToString(b[:2])) {
		return impl.Msg{}, 1
	}
	nos, at, ok := nosByHand(fields, b)
	if !ok {
		return impl.Msg{}, 2
	}
	m := impl.Msg{Mti: hex.EncodeToString(b[:2])}
	for _, no := range nos {
		s, end, ok := getByHand(fields[no], b, at)
		if !ok {
			return impl.Msg{}, 3
		}
		m.List = append(m.List, impl.Field{No: no, Text: s})
		at = end
	}
	if at != len(b) {
		return impl.Msg{}, 4
	}
	return m, 0
}

// checkParse also checks that what is not refused is the encoding of the message that is read.
func checkParse(t *testing.T, fields map[int]knownField, b []byte) {
	t.Helper()
	m, code := impl.Parse(b)
	want, wantCode := parseByHand(fields, b)
	if !sameMsg(m, want) || code != wantCode {
		t.Errorf("Parse(%x) = %+v, %d; want %+v, %d", b, m, code, want, wantCode)
	}
	if again, ok := impl.Encode(m); code == 0 && (!ok || !bytes.Equal(again, b)) {
		t.Errorf("Encode(Parse(%x)) = %x, %v", b, again, ok)
	}
}

func TestP10ConstantsOfChapter5(t *testing.T) {
	got := []int{impl.PrOk, impl.PrMti, impl.PrBits, impl.PrField, impl.PrLeft}
	if !slices.Equal(got, []int{0, 1, 2, 3, 4}) {
		t.Error("the codes are", got)
	}
}

func TestP10MsgOk(t *testing.T) {
	for _, m := range goodMsgs() {
		if !impl.MsgOk(m) {
			t.Errorf("MsgOk(%+v) is false", m)
		}
	}
	for _, m := range append(badMsgs(), impl.Msg{}) {
		if impl.MsgOk(m) {
			t.Errorf("MsgOk(%+v) is true", m)
		}
	}
	if !impl.MsgOk(impl.Msg{Mti: "0100", List: []impl.Field{}}) {
		t.Error("an empty list is a valid one")
	}
}

func TestP10MsgOkChecksEveryPair(t *testing.T) {
	fields := fieldsByNo()
	for j := -2; j <= 130; j++ {
		for k := -2; k <= 130; k++ {
			m := msgWith(fields, "0100", j, k)
			if got, want := impl.MsgOk(m), okByHand(fields, m); got != want {
				t.Errorf("MsgOk(%+v) = %v", m, got)
			}
		}
	}
}

func TestP10MsgOkChecksEveryContent(t *testing.T) {
	for no, f := range fieldsByNo() {
		for _, s := range contents() {
			m := impl.Msg{Mti: "0100", List: []impl.Field{{No: no, Text: s}}}
			if got, want := impl.MsgOk(m), f.form.MatchString(s); got != want {
				t.Errorf("MsgOk(%+v) = %v", m, got)
			}
		}
	}
}

func TestP10MsgOkChecksEveryByteOfTheType(t *testing.T) {
	for i := range 4 {
		for x := range 256 {
			mti := []byte("0219")
			mti[i] = byte(x)
			if got, want := impl.MsgOk(impl.Msg{Mti: string(mti)}), x >= '0' && x <= '9'; got != want {
				t.Errorf("MsgOk with the type %q is %v", mti, got)
			}
		}
	}
}

func TestP10EncodeByExample(t *testing.T) {
	for want, m := range map[string]impl.Msg{
		"0100 0000000000000000":                                                {Mti: "0100"},
		"0100 2020000000000000 000000 000001":                                  {Mti: "0100", List: []impl.Field{{No: 3, Text: "000000"}, {No: 11, Text: "000001"}}},
		"0110 0000000002000000 3030":                                           {Mti: "0110", List: []impl.Field{{No: 39, Text: "00"}}},
		"0200 4000000000000000 030123":                                         {Mti: "0200", List: []impl.Field{{No: 2, Text: "123"}}},
		"0200 0000000000000400 00026162":                                       {Mti: "0200", List: []impl.Field{{No: 54, Text: "ab"}}},
		"0220 8000000000000000 0000000004000000 0161":                          {Mti: "0220", List: []impl.Field{{No: 102, Text: "a"}}},
		"9999 c000000000000000 0000000002000000 0107 023236":                   {Mti: "9999", List: []impl.Field{{No: 2, Text: "7"}, {No: 103, Text: "26"}}},
		"0000 8000000000008000 0000000200000000 0978 6162636465666768696a6b6c": {Mti: "0000", List: []impl.Field{{No: 49, Text: "978"}, {No: 95, Text: "abcdefghijkl"}}},
		"0100 a000000000000000 0000000002000000 000000 01 7e":                  {Mti: "0100", List: []impl.Field{{No: 3, Text: "000000"}, {No: 103, Text: "~"}}},
	} {
		whole := mustHex(strings.ReplaceAll(want, " ", ""))
		if b, ok := impl.Encode(m); !bytes.Equal(b, whole) || !ok {
			t.Errorf("Encode(%+v) = %x, %v; want %x", m, b, ok, whole)
		}
		if back, code := impl.Parse(whole); !sameMsg(back, m) || code != 0 {
			t.Errorf("Parse(%x) = %+v, %d; want %+v", whole, back, code, m)
		}
	}
}

func TestP10Encode(t *testing.T) {
	fields := fieldsByNo()
	for _, m := range goodMsgs() {
		if b, ok := impl.Encode(m); !bytes.Equal(b, encodeByHand(fields, m)) || !ok {
			t.Errorf("Encode(%+v) = %x, %v", m, b, ok)
		}
	}
	for _, m := range append(badMsgs(), impl.Msg{}) {
		if b, ok := impl.Encode(m); b != nil || ok {
			t.Errorf("Encode(%+v) = %x, %v", m, b, ok)
		}
	}
}

func TestP4MessagesAreRecovered(t *testing.T) {
	fields, inOrder := fieldsByNo(), allFieldsInOrder()
	for mask := range 1 << len(inOrder) {
		m := msgOfMask(inOrder, mask)
		b, ok := impl.Encode(m)
		back, code := impl.Parse(b)
		if !ok || !bytes.Equal(b, encodeByHand(fields, m)) || code != 0 || !sameMsg(back, m) {
			t.Fatalf("Encode(%+v) = %x, %v, and Parse of it = %+v, %d", m, b, ok, back, code)
		}
	}
}

func TestP4EveryTypeIsRecovered(t *testing.T) {
	fields := fieldsByNo()
	for x := range 1 << 16 {
		b := append([]byte{byte(x >> 8), byte(x)}, bitsByHand([]int{3})...)
		checkParse(t, fields, append(b, 0x00, 0x30, 0x00))
		if t.Failed() {
			return
		}
	}
}

func TestP4EveryContentIsRecovered(t *testing.T) {
	for no, f := range fieldsByNo() {
		for _, s := range valids(f) {
			m := impl.Msg{Mti: "0100", List: []impl.Field{{No: no, Text: s}}}
			b, ok := impl.Encode(m)
			if back, code := impl.Parse(b); !ok || code != 0 || !sameMsg(back, m) {
				t.Errorf("Encode(%+v) = %x, %v, and Parse of it = %+v, %d", m, b, ok, back, code)
			}
		}
	}
}

func TestP10ParseByExample(t *testing.T) {
	for s, want := range map[string]int{
		"":                                       impl.PrMti,
		"01":                                     impl.PrMti,
		"0a00":                                   impl.PrMti,
		"a100 2000000000000000 000000":           impl.PrMti,
		"010f 4000000000000000 00 00":            impl.PrMti,
		"0100":                                   impl.PrBits,
		"0100 20000000000000":                    impl.PrBits,
		"0100 0800000000000000":                  impl.PrBits,
		"0100 6800000000000000 0107":             impl.PrBits,
		"0100 0000000000000001 00":               impl.PrBits,
		"0100 8000000000000000":                  impl.PrBits,
		"0100 8000000000000000 00000000040000":   impl.PrBits,
		"0100 8000000000000000 0000000000000000": impl.PrBits,
		"0100 c000000000000000 0000000000000000 0107":      impl.PrBits,
		"0100 8000000000000000 8000000000000000":           impl.PrBits,
		"0100 8000000000000000 8000000004000000 0161":      impl.PrBits,
		"0100 8000000000000000 4000000000000000 0107":      impl.PrBits,
		"0100 8000000000000000 0000000000000001":           impl.PrBits,
		"0100 a000000000000000 0000000000000001":           impl.PrBits,
		"0100 2000000000000000":                            impl.PrField,
		"0100 2000000000000000 0000":                       impl.PrField,
		"0100 2000000000000000 00000a":                     impl.PrField,
		"0100 4000000000000000 00":                         impl.PrField,
		"0100 4000000000000000 031123":                     impl.PrField,
		"0100 4000000000000000 2001234567890123456789":     impl.PrField,
		"0100 0000000002000000 300a 99":                    impl.PrField,
		"0100 8000000000000000 0000000004000000 0061":      impl.PrField,
		"0100 0000000000000000 00":                         impl.PrLeft,
		"0100 2000000000000000 000000 00":                  impl.PrLeft,
		"0100 8000000000000000 0000000004000000 0161 0161": impl.PrLeft,
	} {
		b := mustHex(strings.ReplaceAll(s, " ", ""))
		if m, code := impl.Parse(b); !zeroMsg(m) || code != want {
			t.Errorf("Parse(%s) = %+v, %d; want %d", s, m, code, want)
		}
	}
	if m, code := impl.Parse(mustHex("01000000000000000000")); code != 0 || m.Mti != "0100" || len(m.List) != 0 {
		t.Errorf("a message without fields is read as %+v, %d", m, code)
	}
}

// Each input has faults of later codes too, so that only the order of the codes decides.
func TestP10ParseReturnsTheFirstCode(t *testing.T) {
	for s, want := range map[string]int{
		"0f00 0800000000000000 0a 99":                      1,
		"0f00 2000000000000000 00000a 99":                  1,
		"0f00 2000000000000000 000000 99":                  1,
		"0100 2800000000000000 00000a 99":                  2,
		"0100 2000000000000001 0000":                       2,
		"0100 a000000000000000 0000000000000000 00000a 99": 2,
		"0100 a000000000000000 0000000004000001 00000a 99": 2,
		"0100 2000000000000000 00000a 99":                  3,
		"0100 2020000000000000 000000 00000a 99":           3,
	} {
		b := mustHex(strings.ReplaceAll(s, " ", ""))
		if m, code := impl.Parse(b); !zeroMsg(m) || code != want {
			t.Errorf("Parse(%s) = %+v, %d; want %d", s, m, code, want)
		}
	}
}

func TestP4CutAndLongerMessagesAreRefused(t *testing.T) {
	fields := fieldsByNo()
	for _, m := range goodMsgs() {
		b := encodeByHand(fields, m)
		for n := range b {
			// What stands behind the part, in the memory of the slice, does not belong to it.
			for _, part := range [][]byte{b[:n], slices.Clone(b[:n])} {
				checkParse(t, fields, part)
				if back, code := impl.Parse(part); !zeroMsg(back) || code < 1 || code > 3 {
					t.Errorf("Parse(%x) = %+v, %d, without the end of the message", part, back, code)
				}
			}
		}
		for _, more := range []string{"\x00", "1", "\xff", "\x01\x00", string(b)} {
			if back, code := impl.Parse(append(slices.Clone(b), more...)); !zeroMsg(back) || code != impl.PrLeft {
				t.Errorf("Parse(%x%x) = %+v, %d", b, more, back, code)
			}
		}
	}
}

func TestP4OnlyEncodingsAreReadAsMessages(t *testing.T) {
	fields := fieldsByNo()
	for _, m := range goodMsgs() {
		b := encodeByHand(fields, m)
		for i := range b {
			for x := range 256 {
				changed := slices.Clone(b)
				changed[i] = byte(x)
				checkParse(t, fields, changed)
			}
		}
	}
}

func TestP4OtherBytesAreRefused(t *testing.T) {
	fields := fieldsByNo()
	for seed := range uint64(3000) {
		rest := someBytes(seed, int(seed%400))
		checkParse(t, fields, rest)
		checkParse(t, fields, slices.Concat([]byte{0x01, 0x00}, rest))
		nos := []int{2 + int(seed%3), 11, 37 + int(seed%2), 48}
		checkParse(t, fields, slices.Concat([]byte{0x01, 0x00}, bitsByHand(nos), rest))
		checkParse(t, fields, slices.Concat([]byte{0x01, 0x00}, bitsByHand([]int{1}), bitsByHand([]int{38}), []byte{byte(seed)}, rest))
	}
}

func TestP10ParseChecksEveryBitOfTheBitmaps(t *testing.T) {
	fields := fieldsByNo()
	text := bytes.Repeat([]byte{0x31}, 300)
	for j := 1; j <= 64; j++ {
		for k := 1; k <= 64; k++ {
			checkParse(t, fields, slices.Concat([]byte{0x01, 0x00}, bitsByHand([]int{j, k}), text))
			checkParse(t, fields, slices.Concat([]byte{0x01, 0x00}, bitsByHand([]int{1}), bitsByHand([]int{j, k}), text))
			checkParse(t, fields, slices.Concat([]byte{0x01, 0x00}, bitsByHand([]int{j, 1}), bitsByHand([]int{k}), text))
			checkParse(t, fields, slices.Concat([]byte{0x01, 0x00}, bitsByHand([]int{j, k}), make([]byte, 300)))
		}
	}
}

// oddMsgs are not valid, but the functions that only look at the list have results for them too.
func oddMsgs() []impl.Msg {
	return append(badMsgs(), impl.Msg{}, impl.Msg{Mti: "x", List: []impl.Field{
		{No: 7, Text: "first"}, {No: 3, Text: ""}, {No: 7, Text: "second"}, {No: -1, Text: "third"}, {No: 7, Text: "first"}, {No: math.MaxInt, Text: "\xff"},
	}})
}

func nosToTry() []int {
	l := append(edgeInts(), -1, 5, 65, 104)
	return append(l, impl.FieldNos()...)
}

func TestP10FieldOf(t *testing.T) {
	for _, m := range append(oddMsgs(), goodMsgs()...) {
		for _, no := range nosToTry() {
			want, exists := "", false
			if i := slices.IndexFunc(m.List, func(f impl.Field) bool { return f.No == no }); i >= 0 {
				want, exists = m.List[i].Text, true
			}
			if s, ok := impl.FieldOf(m, no); s != want || ok != exists {
				t.Errorf("FieldOf(%+v, %d) = %q, %v; want %q, %v", m, no, s, ok, want, exists)
			}
		}
	}
	twice := impl.Msg{List: []impl.Field{{No: 5, Text: ""}, {No: 5, Text: "b"}, {No: 4, Text: "c"}}}
	if s, ok := impl.FieldOf(twice, 5); s != "" || !ok {
		t.Error("the first field of this number is empty:", s, ok)
	}
	if s, ok := impl.FieldOf(authMsg(), 4); s != "000000001250" || !ok {
		t.Error("FieldOf", s, ok)
	}
	if s, ok := impl.FieldOf(authMsg(), 5); s != "" || ok {
		t.Error("FieldOf", s, ok)
	}
}

// withByHand takes the fields below, the new one, and the fields above.
func withByHand(m impl.Msg, no int, s string) impl.Msg {
	below := slices.DeleteFunc(slices.Clone(m.List), func(f impl.Field) bool { return f.No >= no })
	above := slices.DeleteFunc(slices.Clone(m.List), func(f impl.Field) bool { return f.No <= no })
	return impl.Msg{Mti: m.Mti, List: slices.Concat(below, []impl.Field{{No: no, Text: s}}, above)}
}

func TestP10WithField(t *testing.T) {
	fields := fieldsByNo()
	for _, m := range goodMsgs() {
		for no, f := range fields {
			for _, s := range []string{shortOf(f), longOf(f)} {
				if got, ok := impl.WithField(m, no, s); !ok || !sameMsg(got, withByHand(m, no, s)) || !impl.MsgOk(got) {
					t.Errorf("WithField(%+v, %d, %q) = %+v, %v", m, no, s, got, ok)
				}
			}
		}
	}
}

func TestP10WithFieldRefuses(t *testing.T) {
	fields := fieldsByNo()
	for no, f := range fields {
		for _, m := range append(oddMsgs(), impl.Msg{Mti: "01"}) {
			if got, ok := impl.WithField(m, no, shortOf(f)); !zeroMsg(got) || ok {
				t.Errorf("WithField(%+v, %d, %q) = %+v, %v", m, no, shortOf(f), got, ok)
			}
		}
		for _, s := range contents() {
			want := f.form.MatchString(s)
			if got, ok := impl.WithField(authMsg(), no, s); ok != want || !ok && !zeroMsg(got) {
				t.Errorf("WithField(.., %d, %q) = %+v, %v", no, s, got, ok)
			}
		}
	}
	for _, no := range otherNos() {
		for _, s := range []string{"", "0", "123456", "abcdef"} {
			if got, ok := impl.WithField(authMsg(), no, s); !zeroMsg(got) || ok {
				t.Errorf("WithField(.., %d, %q) = %+v, %v", no, s, got, ok)
			}
		}
	}
}

// A content that repairs a message does not make it valid before: the argument itself has to be.
func TestP10WithFieldRefusesWhatItWouldRepair(t *testing.T) {
	for _, l := range [][]impl.Field{
		{{No: 3, Text: "x"}},
		{{No: 3, Text: "000000"}, {No: 3, Text: "000000"}},
	} {
		m := impl.Msg{Mti: "0100", List: l}
		if got, ok := impl.WithField(m, 3, "000000"); !zeroMsg(got) || ok {
			t.Errorf("WithField(%+v, 3, 000000) = %+v, %v", m, got, ok)
		}
	}
}

func TestP10WithoutField(t *testing.T) {
	for _, m := range append(oddMsgs(), goodMsgs()...) {
		for _, no := range nosToTry() {
			want := impl.Msg{Mti: m.Mti, List: slices.DeleteFunc(slices.Clone(m.List), func(f impl.Field) bool { return f.No == no })}
			if got := impl.WithoutField(m, no); !sameMsg(got, want) {
				t.Errorf("WithoutField(%+v, %d) = %+v", m, no, got)
			}
		}
	}
	for _, m := range goodMsgs() {
		for no, f := range fieldsByNo() {
			more, _ := impl.WithField(m, no, longOf(f))
			if got := impl.WithoutField(more, no); !sameMsg(got, impl.WithoutField(m, no)) {
				t.Errorf("WithoutField(%+v, %d) = %+v", more, no, got)
			}
		}
	}
}

func TestP10MsgSame(t *testing.T) {
	l := append(oddMsgs(), goodMsgs()...)
	for _, a := range l {
		for _, b := range l {
			if got, want := impl.MsgSame(a, cloneMsg(b)), sameMsg(a, b); got != want {
				t.Errorf("MsgSame(%+v, %+v) = %v", a, b, got)
			}
		}
	}
	if !impl.MsgSame(impl.Msg{Mti: "0100", List: []impl.Field{}}, impl.Msg{Mti: "0100"}) {
		t.Error("an empty and a missing list are the same")
	}
}

func TestP10MsgSameSeesEveryDifference(t *testing.T) {
	a := authMsg()
	for i := range a.List {
		changes := []func(m *impl.Msg){
			func(m *impl.Msg) { m.List[i].No++ },
			func(m *impl.Msg) { m.List[i].Text += " " },
			func(m *impl.Msg) { m.List[i].Text = "" },
			func(m *impl.Msg) { m.List = slices.Delete(m.List, i, i+1) },
			func(m *impl.Msg) { m.List = m.List[:i] },
			func(m *impl.Msg) { m.List = slices.Insert(m.List, i, m.List[i]) },
			func(m *impl.Msg) { j := (i + 1) % len(m.List); m.List[i], m.List[j] = m.List[j], m.List[i] },
			func(m *impl.Msg) { m.Mti = "0200" },
			func(m *impl.Msg) { m.Mti = "" },
		}
		for n, change := range changes {
			b := authMsg()
			change(&b)
			if impl.MsgSame(a, b) || impl.MsgSame(b, a) || !impl.MsgSame(b, cloneMsg(b)) {
				t.Errorf("MsgSame does not see change %d of field %d", n, i)
			}
		}
	}
}

// checkNewFields changes one result of the function and looks for the change elsewhere.
func checkNewFields(t *testing.T, name string, list func(m impl.Msg) []impl.Field) {
	t.Helper()
	m := authMsg()
	one, two := list(m), list(m)
	before := slices.Clone(two)
	for i := range one {
		one[i] = impl.Field{No: 77, Text: "changed"}
	}
	_ = append(one, impl.Field{No: 77})
	if !slices.Equal(two, before) || !slices.Equal(list(m), before) {
		t.Error("two results share memory:", name)
	}
	if !sameMsg(m, authMsg()) {
		t.Error("a result shares memory with its argument:", name)
	}
}

func TestP10MessagesAreNewMemory(t *testing.T) {
	b, _ := impl.Encode(authMsg())
	for name, list := range map[string]func(m impl.Msg) []impl.Field{
		"Parse":               func(impl.Msg) []impl.Field { r, _ := impl.Parse(b); return r.List },
		"WithField, replaced": func(m impl.Msg) []impl.Field { r, _ := impl.WithField(m, 3, "999999"); return r.List },
		"WithField, inserted": func(m impl.Msg) []impl.Field { r, _ := impl.WithField(m, 54, "told"); return r.List },
		"WithoutField":        func(m impl.Msg) []impl.Field { return impl.WithoutField(m, 3).List },
		"WithoutField, none":  func(m impl.Msg) []impl.Field { return impl.WithoutField(m, 5).List },
	} {
		checkNewFields(t, name, list)
	}
	one, _ := impl.Encode(authMsg())
	two, _ := impl.Encode(authMsg())
	for i := range one {
		one[i]++
	}
	if !bytes.Equal(two, b) {
		t.Error("two results of Encode share memory")
	}
}

func TestP10ParsedMessagesOutliveTheBytes(t *testing.T) {
	fields := fieldsByNo()
	for _, m := range goodMsgs() {
		b := encodeByHand(fields, m)
		back, _ := impl.Parse(b)
		clear(b)
		if !sameMsg(back, m) {
			t.Errorf("the message shares memory with the bytes: %+v", back)
		}
	}
}

// withFieldsBehind returns the message with a list that has spare capacity, and the list with what stands in there.
func withFieldsBehind(m impl.Msg) (impl.Msg, []impl.Field) {
	behind := impl.Field{No: 77, Text: "behind"}
	whole := append(slices.Clone(m.List), behind, behind, behind)
	return impl.Msg{Mti: m.Mti, List: whole[:len(m.List)]}, whole
}

func TestP10MessageFunctionsLeaveTheirArguments(t *testing.T) {
	for _, m := range append(oddMsgs(), goodMsgs()...) {
		m, whole := withFieldsBehind(m)
		before := slices.Clone(whole)
		impl.MsgOk(m)
		b, _ := impl.Encode(m)
		impl.MsgSame(m, m)
		for _, no := range nosToTry() {
			impl.FieldOf(m, no)
			impl.WithField(m, no, "123456")
			impl.WithoutField(m, no)
		}
		if !slices.Equal(whole, before) {
			t.Errorf("the list is now %+v", whole)
		}
		bytesWhole := append(slices.Clone(b), 0x77, 0x77, 0x77)
		impl.Parse(bytesWhole[:len(b)])
		if !bytes.Equal(bytesWhole, append(slices.Clone(b), 0x77, 0x77, 0x77)) {
			t.Errorf("the bytes are now %x", bytesWhole)
		}
	}
}
