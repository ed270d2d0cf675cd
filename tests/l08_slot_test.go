package tests

import (
	"bytes"
	"regexp"
	"slices"
	"strconv"
	"strings"
	"testing"

	"loop.example/g00735/impl"
)

var traceForm = regexp.MustCompile(`\A[0-9]{6}\z`)

func slotOkByHand(s impl.Slot) bool {
	return traceForm.MatchString(s.Trace) && mtiForm.MatchString(s.Mti) && len(s.Reply) > 0 && len(s.Reply) < 201
}

// slotsOkByHand looks at all pairs instead of keeping what came before.
func slotsOkByHand(l []impl.Slot) bool {
	if len(l) > 6 {
		return false
	}
	for i, s := range l {
		if !slotOkByHand(s) {
			return false
		}
		for _, later := range l[i+1:] {
			if s.Trace == later.Trace && s.Mti == later.Mti {
				return false
			}
		}
	}
	return true
}

// slotOfByHand goes backwards and overwrites, so that the first slot remains.
func slotOfByHand(l []impl.Slot, trace, mti string) (reply string, found bool) {
	for i := len(l) - 1; i >= 0; i-- {
		if l[i].Trace == trace && l[i].Mti == mti {
			reply, found = string(l[i].Reply), true
		}
	}
	return reply, found
}

// slotsText writes a list such that equal lists, and only these, have one text.
func slotsText(l []impl.Slot) string {
	var parts []string
	for _, s := range l {
		parts = append(parts, strconv.Quote(s.Trace), strconv.Quote(s.Mti), strconv.Quote(string(s.Reply)))
	}
	return strings.Join(parts, ",")
}

func slot(trace, mti, reply string) impl.Slot {
	return impl.Slot{Trace: trace, Mti: mti, Reply: []byte(reply)}
}

// slotsFor has a slot per key, in the order given; every reply is different.
func slotsFor(keys ...string) []impl.Slot {
	var l []impl.Slot
	for i, key := range keys {
		trace, mti, _ := strings.Cut(key, "/")
		l = append(l, slot(trace, mti, "reply "+strconv.Itoa(i)))
	}
	return l
}

// clonedSlots has replies of its own.
func clonedSlots(l []impl.Slot) []impl.Slot {
	var cloned []impl.Slot
	for _, s := range l {
		cloned = append(cloned, slot(s.Trace, s.Mti, string(s.Reply)))
	}
	return cloned
}

func fullSlots() []impl.Slot {
	return slotsFor("000001/0100", "000002/0100", "000001/0200", "000002/0200", "000003/0220", "999999/9999")
}

// goodSlots are all valid lists of some keys that share a trace number or a type, in more than one order, and lists at the ends of the ranges.
func goodSlots() [][]impl.Slot {
	keys := []string{"000002/0200", "000001/0100", "000002/0100", "000001/0200", "000000/0000", "010001/0001", "999999/9999"}
	var l [][]impl.Slot
	for mask := range 1 << len(keys) {
		var some []string
		for i, key := range keys {
			if mask>>i&1 == 1 {
				some = append(some, key)
			}
		}
		if len(some) > 6 {
			continue
		}
		l = append(l, slotsFor(some...))
		slices.Reverse(some)
		l = append(l, slotsFor(some...))
	}
	return append(l,
		[]impl.Slot{},
		fullSlots(),
		[]impl.Slot{slot("000001", "0100", "\x00")},
		[]impl.Slot{slot("000001", "0100", strings.Repeat("\xff", 200))},
		[]impl.Slot{slot("000001", "0100", "same"), slot("000002", "0100", "same"), slot("000001", "0200", "same")},
	)
}

// oddKeys are keys that are not valid; some of them are one string if their parts are joined.
func oddKeys() []string {
	return []string{
		"/", "000001/", "/0100", "1/0100", "00001/0100", "0000001/0100", "000001/100", "000001/00100", "0000010/100", "00000/10100",
		"00000a/0100", "000001/010a", "00000 /0100", "000001/ 100", "0000\u00e9/0100", "000001/01\u0663", "\xff00001/0100", "000001/0100\n", "+00001/0100", "000001/-100",
	}
}

func oddSlots() [][]impl.Slot {
	seven := append(fullSlots(), slot("000004", "0100", "x"))
	l := [][]impl.Slot{
		{{}},
		{{}, {}},
		slotsFor("000001/0100", "000001/0100"),
		slotsFor("000001/0100", "000002/0100", "000001/0100"),
		slotsFor("000001/0100", "000001/0200", "000001/0200"),
		slotsFor("000001/0100", "000001/0100", "000001/0100", "000001/0100", "000001/0100", "000001/0100"),
		{slot("000001", "0100", "same"), slot("000001", "0100", "same")},
		slotsFor(oddKeys()...),
		slotsFor("0000010/100", "000001/0100", "00000/10100"),
		slotsFor("000001/0100", "0000010/100"),
		seven,
		append(seven, slot("000005", "0100", "x")),
		slices.Repeat(fullSlots(), 20),
	}
	for i := range 6 {
		for _, key := range append(oddKeys(), "000003/0220", "000001/0100") {
			changed := fullSlots()
			changed[i] = slotsFor(key)[0]
			l = append(l, changed)
		}
		for _, size := range []int{0, 201, 300, 5000} {
			changed := fullSlots()
			changed[i].Reply = make([]byte, size)
			l = append(l, changed)
		}
		changed := fullSlots()
		changed[i].Reply = nil
		l = append(l, changed)
	}
	return l
}

func allSlots() [][]impl.Slot {
	return slices.Concat(goodSlots(), oddSlots())
}

// keysToTry are the keys of the lists, others of which one half occurs in them, and invalid ones.
func keysToTry() []impl.Slot {
	l := slotsFor(oddKeys()...)
	for _, trace := range []string{"000000", "000001", "000002", "000003", "000004", "010001", "999999"} {
		for _, mti := range []string{"0000", "0001", "0100", "0200", "0220", "9999"} {
			l = append(l, slot(trace, mti, "new"))
		}
	}
	return l
}

func TestP10ConstantsOfChapter9(t *testing.T) {
	if impl.MaxSlots != 6 || impl.MaxReply != 200 {
		t.Error("MaxSlots and MaxReply are", impl.MaxSlots, impl.MaxReply)
	}
}

func TestP10SlotOkByExample(t *testing.T) {
	for _, c := range []struct {
		s    impl.Slot
		want bool
	}{
		{slot("000001", "0100", "\x07"), true},
		{slot("000000", "0000", "\x00"), true},
		{slot("999999", "9999", strings.Repeat("\xff", 200)), true},
		{slot("123456", "0110", "a reply"), true},
		{slot("000001", "0100", ""), false},
		{impl.Slot{Trace: "000001", Mti: "0100"}, false},
		{slot("000001", "0100", strings.Repeat("a", 201)), false},
		{slot("1", "0100", "\x07"), false},
		{slot("00001", "0100", "\x07"), false},
		{slot("0000001", "0100", "\x07"), false},
		{slot("", "0100", "\x07"), false},
		{slot("00000a", "0100", "\x07"), false},
		{slot("000001", "100", "\x07"), false},
		{slot("000001", "00100", "\x07"), false},
		{slot("000001", "", "\x07"), false},
		{slot("000001", "010a", "\x07"), false},
		{slot("0100", "000001", "\x07"), false},
		{impl.Slot{}, false},
	} {
		if got := impl.SlotOk(c.s); got != c.want {
			t.Errorf("SlotOk(%+v) = %v", c.s, got)
		}
	}
}

// everyByteIn returns s with every byte in every place, and s with one byte less and more.
func everyByteIn(s string) []string {
	l := []string{s[1:], s + "0", "0" + s, s + "\x00", s + "\n", " " + s}
	for i := range len(s) {
		for x := range 256 {
			changed := []byte(s)
			changed[i] = byte(x)
			l = append(l, string(changed))
		}
	}
	return l
}

func checkSlotOk(t *testing.T, s impl.Slot) {
	t.Helper()
	if got, want := impl.SlotOk(s), slotOkByHand(s); got != want {
		t.Errorf("SlotOk(%+v) = %v", s, got)
	}
	if got, want := impl.SlotsOk([]impl.Slot{s}), slotOkByHand(s); got != want {
		t.Errorf("SlotsOk of %+v alone = %v", s, got)
	}
}

func TestP10SlotOk(t *testing.T) {
	for _, trace := range slices.Concat(manyStrings(), everyByteIn("000001"), everyByteIn("987654")) {
		checkSlotOk(t, slot(trace, "0100", "\x07"))
	}
	for _, mti := range slices.Concat(manyStrings(), everyByteIn("0100"), everyByteIn("9876")) {
		checkSlotOk(t, slot("000001", mti, "\x07"))
	}
	for size := range 260 {
		checkSlotOk(t, slot("000001", "0100", strings.Repeat("\x00", size)))
		checkSlotOk(t, slot("00001", "0100", strings.Repeat("\x00", size)))
		checkSlotOk(t, slot("000001", "100", strings.Repeat("\x00", size)))
	}
	for x := range 256 {
		checkSlotOk(t, impl.Slot{Trace: "000001", Mti: "0100", Reply: []byte{byte(x)}})
	}
}

func TestP10SlotsOkByExample(t *testing.T) {
	for name, c := range map[string]struct {
		l    []impl.Slot
		want bool
	}{
		"none":                   {nil, true},
		"an empty list":          {[]impl.Slot{}, true},
		"one":                    {slotsFor("000001/0100"), true},
		"six":                    {fullSlots(), true},
		"one trace, two types":   {slotsFor("000001/0100", "000001/0200"), true},
		"two traces, one type":   {slotsFor("000001/0100", "000002/0100"), true},
		"in descending order":    {slotsFor("000002/0200", "000002/0100", "000001/0100"), true},
		"one reply twice":        {[]impl.Slot{slot("000001", "0100", "a"), slot("000002", "0100", "a")}, true},
		"seven":                  {append(fullSlots(), slot("000004", "0100", "a")), false},
		"one twice":              {slotsFor("000001/0100", "000001/0100"), false},
		"one twice, one reply":   {[]impl.Slot{slot("000001", "0100", "a"), slot("000001", "0100", "a")}, false},
		"one again later":        {slotsFor("000001/0100", "000002/0100", "000001/0100"), false},
		"the first again as six": {append(fullSlots()[:5], slot("000001", "0100", "a")), false},
		"an invalid first one":   {slotsFor("1/0100", "000001/0100"), false},
		"an invalid last one":    {slotsFor("000001/0100", "000002/100"), false},
		"no reply":               {[]impl.Slot{slot("000001", "0100", "a"), slot("000002", "0100", "")}, false},
		"the zero value":         {[]impl.Slot{{}}, false},
	} {
		if got := impl.SlotsOk(c.l); got != c.want {
			t.Errorf("%s: SlotsOk(%+v) = %v", name, c.l, got)
		}
	}
}

func TestP10SlotsOk(t *testing.T) {
	l := allSlots()
	for _, s := range stringsOf(4, "000001/0100 ", "000001/0200 ", "000002/0100 ", "000002/0200 ", "000003/100 ") {
		l = append(l, slotsFor(strings.Fields(s)...))
	}
	for n := range 15 {
		var keys []string
		for i := range n {
			keys = append(keys, "00000"+strconv.Itoa(i%10)+"/0"+strconv.Itoa(i/10)+"00")
		}
		l = append(l, slotsFor(keys...))
	}
	for _, slots := range l {
		if got, want := impl.SlotsOk(slots), slotsOkByHand(slots); got != want {
			t.Errorf("SlotsOk(%+v) = %v", slots, got)
		}
	}
}

func TestP6SlotOfByExample(t *testing.T) {
	twice := slotsFor("000001/0100", "000002/0100", "000001/0100")
	odd := slotsFor("0000010/100", "/", "1/0100")
	for name, c := range map[string]struct {
		l          []impl.Slot
		trace, mti string
		want       string
		found      bool
	}{
		"in no list":                {nil, "000001", "0100", "", false},
		"in an empty list":          {[]impl.Slot{}, "000001", "0100", "", false},
		"the only one":              {slotsFor("000001/0100"), "000001", "0100", "reply 0", true},
		"the first one":             {fullSlots(), "000001", "0100", "reply 0", true},
		"another trace":             {fullSlots(), "000002", "0100", "reply 1", true},
		"another type":              {fullSlots(), "000001", "0200", "reply 2", true},
		"the last one":              {fullSlots(), "999999", "9999", "reply 5", true},
		"a trace without this type": {fullSlots(), "000001", "0220", "", false},
		"a type without this trace": {fullSlots(), "000004", "0100", "", false},
		"no trace":                  {fullSlots(), "", "0100", "", false},
		"no type":                   {fullSlots(), "000001", "", "", false},
		"the two exchanged":         {fullSlots(), "0100", "000001", "", false},
		"the first of two":          {twice, "000001", "0100", "reply 0", true},
		"between the two":           {twice, "000002", "0100", "reply 1", true},
		"cut elsewhere":             {odd, "000001", "0100", "", false},
		"not valid":                 {odd, "0000010", "100", "reply 0", true},
		"two empty strings":         {odd, "", "", "reply 1", true},
		"without a reply":           {[]impl.Slot{slot("000001", "0100", ""), slot("000001", "0100", "b")}, "000001", "0100", "", true},
	} {
		got, found := impl.SlotOf(c.l, c.trace, c.mti)
		if found != c.found || string(got) != c.want {
			t.Errorf("%s: SlotOf(%+v, %q, %q) = %q, %v; want %q", name, c.l, c.trace, c.mti, got, found, c.want)
		}
	}
}

func TestP6SlotOf(t *testing.T) {
	for _, l := range allSlots() {
		for _, key := range keysToTry() {
			got, found := impl.SlotOf(l, key.Trace, key.Mti)
			want, wantFound := slotOfByHand(l, key.Trace, key.Mti)
			if found != wantFound || string(got) != want {
				t.Errorf("SlotOf(%+v, %q, %q) = %q, %v; want %q", l, key.Trace, key.Mti, got, found, want)
			}
		}
	}
}

func TestP6SlotPutByExample(t *testing.T) {
	a, b := slot("000001", "0100", "a"), slot("000002", "0100", "b")
	full := fullSlots()
	for name, c := range map[string]struct {
		l    []impl.Slot
		s    impl.Slot
		want []impl.Slot
	}{
		"the first one":             {nil, a, []impl.Slot{a}},
		"into an empty list":        {[]impl.Slot{}, a, []impl.Slot{a}},
		"a greater one":             {[]impl.Slot{a}, b, []impl.Slot{a, b}},
		"a smaller one is last too": {[]impl.Slot{b}, a, []impl.Slot{b, a}},
		"another type":              {[]impl.Slot{a}, slot("000001", "0200", "a"), []impl.Slot{a, slot("000001", "0200", "a")}},
		"the sixth":                 {full[:5], full[5], full},
		"the longest reply":         {nil, slot("000001", "0100", strings.Repeat("x", 200)), []impl.Slot{slot("000001", "0100", strings.Repeat("x", 200))}},
	} {
		if got, ok := impl.SlotPut(c.l, c.s); !ok || slotsText(got) != slotsText(c.want) {
			t.Errorf("%s: SlotPut(%+v, %+v) = %+v, %v; want %+v", name, c.l, c.s, got, ok, c.want)
		}
	}
	for name, c := range map[string]struct {
		l []impl.Slot
		s impl.Slot
	}{
		"the same again":          {[]impl.Slot{a}, a},
		"another reply":           {[]impl.Slot{a}, slot("000001", "0100", "other")},
		"an earlier one again":    {[]impl.Slot{a, b}, a},
		"a seventh":               {full, slot("000004", "0100", "a")},
		"one of six again":        {full, full[2]},
		"no reply":                {[]impl.Slot{a}, slot("000002", "0100", "")},
		"too long a reply":        {[]impl.Slot{a}, slot("000002", "0100", strings.Repeat("x", 201))},
		"a short trace":           {[]impl.Slot{a}, slot("00002", "0100", "b")},
		"a short type":            {[]impl.Slot{a}, slot("000002", "100", "b")},
		"the zero value":          {nil, impl.Slot{}},
		"behind an invalid one":   {[]impl.Slot{slot("1", "0100", "a")}, b},
		"behind one stored twice": {[]impl.Slot{a, a}, b},
		"behind no reply":         {[]impl.Slot{slot("000001", "0100", "")}, b},
		"behind seven":            {append(fullSlots(), a), b},
	} {
		if got, ok := impl.SlotPut(c.l, c.s); ok || len(got) != 0 {
			t.Errorf("%s: SlotPut(%+v, %+v) = %+v, %v", name, c.l, c.s, got, ok)
		}
	}
}

func TestP6SlotPut(t *testing.T) {
	for _, l := range allSlots() {
		for _, s := range keysToTry() {
			for _, size := range []int{0, 1, 200, 201} {
				s.Reply = someBytes(uint64(size), size)
				got, ok := impl.SlotPut(l, s)
				want := append(clonedSlots(l), s)
				if !slotsOkByHand(want) {
					want = nil
				}
				if ok != (want != nil) || slotsText(got) != slotsText(want) {
					t.Errorf("SlotPut(%+v, %+v) = %+v, %v; want %+v", l, s, got, ok, want)
				}
			}
		}
	}
}

// encodedReply is nil for a message that has no reply.
func encodedReply(m impl.Msg, code int) []byte {
	r, _ := impl.Reply(m, code, "123456", wordOf(60))
	b, _ := impl.Encode(r)
	return b
}

func TestP6EveryReplyFitsIntoASlot(t *testing.T) {
	longest := impl.Msg{Mti: "0100"}
	for _, f := range allFieldsInOrder() {
		longest.List = append(longest.List, impl.Field{No: f.no, Text: longOf(f)})
	}
	// The type, two bitmaps, and the fields 2, 3, 4, 7, 11, 37, 38, 39, 41, 49, 54, 102 and 103.
	const size = 2 + 16 + 11 + 3 + 6 + 5 + 3 + 12 + 6 + 2 + 8 + 2 + 62 + 21 + 21
	if got := len(encodedReply(longest, impl.RsOk)); got != size {
		t.Fatalf("the longest reply has %d bytes; want %d", got, size)
	}
	for _, m := range append(requestMsgs(), longest) {
		for code := range 11 {
			reply := encodedReply(m, code)
			if reply == nil {
				continue
			}
			l, ok := impl.SlotPut(nil, impl.Slot{Trace: "000042", Mti: m.Mti, Reply: reply})
			if !ok {
				t.Errorf("a reply of %d bytes is not stored: %x", len(reply), reply)
			}
			if got, found := impl.SlotOf(l, "000042", m.Mti); !found || !bytes.Equal(got, reply) {
				t.Errorf("the reply %x is stored as %x", reply, got)
			}
		}
	}
}

// TestP6TheFirstReplyRemains sends requests, some of them several times, and compares every reply with the first one to that request.
func TestP6TheFirstReplyRemains(t *testing.T) {
	for seed := range uint64(300) {
		first := map[[2]string]string{}
		var l []impl.Slot
		for i, x := range someBytes(seed, 40) {
			trace, mti := "00000"+strconv.Itoa(int(x)%5), []string{"0100", "0200"}[int(x)/5%2]
			key := [2]string{trace, mti}
			stored, found := impl.SlotOf(l, trace, mti)
			if want, known := first[key]; found != known || string(stored) != want {
				t.Fatalf("the reply to %v is %q, %v; want %q", key, stored, found, want)
			}
			s := slot(trace, mti, "reply "+strconv.Itoa(i))
			put, ok := impl.SlotPut(l, s)
			if want := !found && len(first) < 6; ok != want {
				t.Fatalf("SlotPut(%+v, %+v) = %v", l, s, ok)
			}
			if !ok {
				continue
			}
			if slotsText(put[:len(l)]) != slotsText(l) {
				t.Fatalf("SlotPut(%+v, %+v) = %+v loses a reply", l, s, put)
			}
			first[key] = string(s.Reply)
			l = put
		}
		if len(l) != len(first) || !impl.SlotsOk(l) {
			t.Fatalf("after %d stored replies: %+v", len(first), l)
		}
	}
}

func TestP10SlotsSameByExample(t *testing.T) {
	a, b := slot("000001", "0100", "a"), slot("000002", "0100", "b")
	for name, c := range map[string]struct {
		a, b []impl.Slot
		want bool
	}{
		"none and an empty list":    {nil, []impl.Slot{}, true},
		"one":                       {[]impl.Slot{a}, []impl.Slot{slot("000001", "0100", "a")}, true},
		"two":                       {[]impl.Slot{a, b}, []impl.Slot{a, b}, true},
		"no reply and an empty one": {[]impl.Slot{{Trace: "1", Mti: "2"}}, []impl.Slot{slot("1", "2", "")}, true},
		"zero values":               {[]impl.Slot{{}}, []impl.Slot{{}}, true},
		"not valid, but equal":      {[]impl.Slot{a, a, slot("x", "y", "z")}, []impl.Slot{a, a, slot("x", "y", "z")}, true},
		"none and one":              {nil, []impl.Slot{a}, false},
		"none and a zero value":     {nil, []impl.Slot{{}}, false},
		"one and two":               {[]impl.Slot{a}, []impl.Slot{a, b}, false},
		"one and the same twice":    {[]impl.Slot{a}, []impl.Slot{a, a}, false},
		"another order":             {[]impl.Slot{a, b}, []impl.Slot{b, a}, false},
		"another trace":             {[]impl.Slot{a}, []impl.Slot{slot("000002", "0100", "a")}, false},
		"another type":              {[]impl.Slot{a}, []impl.Slot{slot("000001", "0200", "a")}, false},
		"another reply":             {[]impl.Slot{a}, []impl.Slot{slot("000001", "0100", "b")}, false},
		"a longer reply":            {[]impl.Slot{a}, []impl.Slot{slot("000001", "0100", "a\x00")}, false},
		"another last reply":        {[]impl.Slot{b, a}, []impl.Slot{b, slot("000001", "0100", "b")}, false},
		"the key cut elsewhere":     {[]impl.Slot{slot("000001", "0100", "a")}, []impl.Slot{slot("0000010", "100", "a")}, false},
		"the slot cut elsewhere":    {[]impl.Slot{slot("000001", "0100", "a")}, []impl.Slot{slot("000001", "010", "0a")}, false},
		"trace and type exchanged":  {[]impl.Slot{slot("1", "2", "a")}, []impl.Slot{slot("2", "1", "a")}, false},
		"the replies exchanged":     {[]impl.Slot{a, b}, []impl.Slot{slot("000001", "0100", "b"), slot("000002", "0100", "a")}, false},
	} {
		if impl.SlotsSame(c.a, c.b) != c.want || impl.SlotsSame(c.b, c.a) != c.want {
			t.Errorf("%s: SlotsSame(%+v, %+v) is not %v", name, c.a, c.b, c.want)
		}
	}
}

func TestP10SlotsSame(t *testing.T) {
	l := allSlots()
	var texts []string
	for _, slots := range l {
		texts = append(texts, slotsText(slots))
	}
	for i, a := range l {
		for j, b := range l {
			if got := impl.SlotsSame(a, b); got != (texts[i] == texts[j]) {
				t.Errorf("SlotsSame(%+v, %+v) = %v", a, b, got)
			}
		}
		if !impl.SlotsSame(a, clonedSlots(a)) {
			t.Errorf("%+v is not the same as a copy", a)
		}
	}
}

func TestP10SlotsSameSeesEveryByte(t *testing.T) {
	a := fullSlots()
	a[3].Reply = bytes.Repeat([]byte("x"), 200)
	for i := range a {
		for at := range a[i].Reply {
			b := clonedSlots(a)
			b[i].Reply[at] ^= 1
			if impl.SlotsSame(a, b) || impl.SlotsSame(b, a) {
				t.Errorf("SlotsSame does not see byte %d of reply %d", at, i)
			}
		}
	}
}

// slotMemory is a list of slots with all of its memory, which goes on behind the list and behind every reply.
type slotMemory struct {
	list    []impl.Slot
	whole   []impl.Slot
	replies [][]byte
}

func slotsInMemory(l []impl.Slot) slotMemory {
	m := slotMemory{whole: clonedSlots(append(clonedSlots(l), slot("777777", "7777", "behind"), slot("888888", "8888", "behind")))}
	for i := range m.whole {
		reply := m.whole[i].Reply
		all := slices.Concat(reply, []byte("behind"))
		m.whole[i].Reply = all[:len(reply)]
		m.replies = append(m.replies, all)
	}
	m.list = m.whole[:len(l)]
	return m
}

func (m slotMemory) text() string {
	return slotsText(m.whole) + " " + string(bytes.Join(m.replies, []byte(",")))
}

func spoilBytes(b []byte) {
	b = b[:cap(b)]
	for i := range b {
		b[i] = '!'
	}
}

func TestP10StoredRepliesAreNewMemory(t *testing.T) {
	for _, l := range allSlots() {
		m := slotsInMemory(l)
		before := m.text()
		for _, s := range l {
			one, _ := impl.SlotOf(m.list, s.Trace, s.Mti)
			two, _ := impl.SlotOf(m.list, s.Trace, s.Mti)
			want := string(two)
			spoilBytes(one)
			if string(two) != want {
				t.Errorf("two results of SlotOf share memory: %+v", l)
			}
			if m.text() != before {
				t.Fatalf("SlotOf shares memory with its argument %+v", l)
			}
		}
	}
}

func TestP10SlotsAreNewMemory(t *testing.T) {
	for _, l := range allSlots() {
		for _, s := range []impl.Slot{slot("000009", "0100", "new"), slot("000001", "0100", "new"), slot("9", "0100", "new")} {
			m, added := slotsInMemory(l), slotsInMemory([]impl.Slot{s})
			before, addedBefore := m.text(), added.text()
			one, _ := impl.SlotPut(m.list, added.list[0])
			two, _ := impl.SlotPut(m.list, added.list[0])
			want := slotsText(two)
			for i := range one {
				spoilBytes(one[i].Reply)
				for j := i + 1; j < len(one); j++ {
					if !bytes.Equal(one[j].Reply, two[j].Reply) {
						t.Errorf("the replies %d and %d of a result share memory", i, j)
					}
				}
			}
			clear(one[:cap(one)])
			if slotsText(two) != want {
				t.Errorf("two results of SlotPut share memory: %+v", l)
			}
			if m.text() != before || added.text() != addedBefore {
				t.Fatalf("SlotPut changes or shares memory with its arguments %+v and %+v", l, s)
			}
		}
	}
}

// TestP10SlotsWhoseRepliesAreOne stores replies that overlap in the arguments.
func TestP10SlotsWhoseRepliesAreOne(t *testing.T) {
	shared := []byte("one reply")
	l := []impl.Slot{{Trace: "000001", Mti: "0100", Reply: shared}, {Trace: "000002", Mti: "0100", Reply: shared[:3]}}
	got, ok := impl.SlotPut(l, impl.Slot{Trace: "000003", Mti: "0100", Reply: shared})
	want := []string{"one reply", "one", "one reply"}
	if !ok || len(got) != len(want) {
		t.Fatalf("SlotPut = %+v, %v", got, ok)
	}
	for i := range got {
		if string(got[i].Reply) != want[i] {
			t.Errorf("reply %d is %q; want %q", i, got[i].Reply, want[i])
		}
		spoilBytes(got[i].Reply)
	}
	if string(shared) != "one reply" {
		t.Errorf("the given reply is now %q", shared)
	}
}

func TestP10SlotAnswersLeaveTheirArguments(t *testing.T) {
	for _, l := range allSlots() {
		m := slotsInMemory(l)
		before := m.text()
		impl.SlotsOk(m.list)
		impl.SlotsSame(m.list, m.list)
		impl.SlotsSame(m.list, m.whole)
		for _, s := range m.list {
			impl.SlotOk(s)
		}
		for _, s := range keysToTry() {
			impl.SlotOf(m.list, s.Trace, s.Mti)
			impl.SlotPut(m.list, s)
		}
		if m.text() != before {
			t.Errorf("the slots %+v have changed", l)
		}
	}
}
