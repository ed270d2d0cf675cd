package tests

import (
	"bytes"
	"encoding/hex"
	"fmt"
	"math"
	"regexp"
	"slices"
	"strconv"
	"strings"
	"testing"

	"loop.example/g00735/impl"
)

// knownField writes a field as the document does, with a regular expression for its valid contents.
type knownField struct {
	no   int
	kind int
	size int
	form *regexp.Regexp
}

func knownFields() []knownField {
	var l []knownField
	add := func(kind int, size int, form string, nos ...int) {
		for _, no := range nos {
			l = append(l, knownField{no, kind, size, regexp.MustCompile(`\A` + form + `\z`)})
		}
	}
	add(3, 19, `[0-9]{1,19}`, 2)
	add(1, 6, `[0-9]{6}`, 3)
	add(1, 12, `[0-9]{12}`, 4)
	add(1, 10, `[0-9]{10}`, 7)
	add(1, 6, `[0-9]{6}`, 11)
	add(1, 4, `[0-9]{4}`, 14)
	add(2, 12, `[ -~]{12}`, 37)
	add(2, 6, `[ -~]{6}`, 38)
	add(2, 2, `[ -~]{2}`, 39)
	add(2, 8, `[ -~]{8}`, 41)
	add(5, 60, `[ -~]{1,60}`, 48)
	add(1, 3, `[0-9]{3}`, 49)
	add(5, 60, `[ -~]{1,60}`, 54)
	add(2, 12, `[ -~]{12}`, 95)
	add(4, 20, `[ -~]{1,20}`, 102, 103)
	return l
}

func otherNos() []int {
	known := map[int]bool{}
	for _, f := range knownFields() {
		known[f.no] = true
	}
	var l []int
	for no := -130; no <= 400; no++ {
		l = append(l, no)
	}
	return slices.DeleteFunc(append(l, edgeInts()...), func(no int) bool { return known[no] })
}

func digitsOf(n int) string {
	return strings.Repeat("1234567890", n/10+1)[:n]
}

// wordOf returns n printable bytes, among them both ends of their range.
func wordOf(n int) string {
	return strings.Repeat("~aZ 09_/.", n/9+1)[:n]
}

// contents are strings of every length up to a little more than a field can have, and what is easily mistaken for them.
func contents() []string {
	l := append(oddStrings(), numberStrings()...)
	for n := range 106 {
		l = append(l, digitsOf(n), wordOf(n), strings.Repeat(" ", n), strings.Repeat("a", n), strings.Repeat("\u00e9", n))
		for _, c := range []string{"\n", "\x00", "\x1f", "\x7f", "\x80", "\xff", "/", ":", "a", "-", " "} {
			l = append(l, c+digitsOf(n), digitsOf(n)+c, digitsOf(n/2)+c+digitsOf(n-n/2), wordOf(n)+c, c+wordOf(n))
		}
	}
	return l
}

func valids(f knownField) []string {
	return slices.DeleteFunc(contents(), func(s string) bool { return !f.form.MatchString(s) })
}

// putByHand writes all digits in hexadecimal, with a 0 ahead where their number is odd.
func putByHand(f knownField, s string) []byte {
	head, body := "", hex.EncodeToString([]byte(s))
	if f.kind == 1 || f.kind == 3 {
		body = strings.Repeat("0", len(s)%2) + s
	}
	switch f.kind {
	case 3, 4:
		head = fmt.Sprintf("%02d", len(s))
	case 5:
		head = fmt.Sprintf("%04d", len(s))
	}
	b, err := hex.DecodeString(head + body)
	if err != nil {
		panic(err)
	}
	return b
}

// getByHand takes the only content that can be meant, and compares its encoding with the bytes.
func getByHand(f knownField, b []byte, at int) (string, int, bool) {
	head := map[int]int{3: 1, 4: 1, 5: 2}[f.kind]
	if at < 0 || at > len(b) || len(b)-at < head {
		return "", 0, false
	}
	n := f.size
	if head > 0 {
		var err error
		if n, err = strconv.Atoi(hex.EncodeToString(b[at:][:head])); err != nil {
			return "", 0, false
		}
	}
	end := at + head + n
	if f.kind == 1 || f.kind == 3 {
		end = at + head + (n+1)/2
	}
	if end > len(b) {
		return "", 0, false
	}
	s := string(b[at+head : end])
	if f.kind == 1 || f.kind == 3 {
		s = hex.EncodeToString(b[at+head : end])[n%2:]
	}
	if !f.form.MatchString(s) || !bytes.Equal(putByHand(f, s), b[at:end]) {
		return "", 0, false
	}
	return s, end, true
}

func checkGetField(t *testing.T, f knownField, b []byte, at int) {
	t.Helper()
	s, end, ok := impl.GetField(b, at, f.no)
	wantS, wantEnd, want := getByHand(f, b, at)
	if s != wantS || end != wantEnd || ok != want {
		t.Errorf("GetField(%x, %d, %d) = %q, %d, %v; want %q, %d, %v", b, at, f.no, s, end, ok, wantS, wantEnd, want)
	}
}

func TestP10ConstantsOfChapter4(t *testing.T) {
	got := []int{impl.FkNone, impl.FkNum, impl.FkText, impl.FkNumVar, impl.FkTextVar, impl.FkTextLong}
	if !slices.Equal(got, []int{0, 1, 2, 3, 4, 5}) {
		t.Error("the kinds of fields are", got)
	}
}

func TestP10KindsAndSizesOfFields(t *testing.T) {
	for _, f := range knownFields() {
		if kind, size := impl.FieldKind(f.no), impl.FieldSize(f.no); kind != f.kind || size != f.size {
			t.Errorf("field %d has the kind %d and the size %d; want %d and %d", f.no, kind, size, f.kind, f.size)
		}
	}
	for _, no := range otherNos() {
		if kind, size := impl.FieldKind(no), impl.FieldSize(no); kind != 0 || size != 0 {
			t.Errorf("%d is not a field number, but has the kind %d and the size %d", no, kind, size)
		}
	}
}

func TestP10FieldNos(t *testing.T) {
	want := []int{2, 3, 4, 7, 11, 14, 37, 38, 39, 41, 48, 49, 54, 95, 102, 103}
	l := impl.FieldNos()
	if !slices.Equal(l, want) {
		t.Error("the field numbers are", l)
	}
	for i := range l {
		l[i] = 77
	}
	_ = append(l, 77)
	if again := impl.FieldNos(); !slices.Equal(again, want) || impl.FieldKind(2) != 3 || impl.FieldKind(77) != 0 {
		t.Error("two results share memory:", again)
	}
}

func TestP10FieldOk(t *testing.T) {
	for _, f := range knownFields() {
		for _, s := range contents() {
			if got := impl.FieldOk(f.no, s); got != f.form.MatchString(s) {
				t.Errorf("FieldOk(%d, %q) = %v", f.no, s, got)
			}
		}
	}
	for _, no := range otherNos() {
		for _, s := range []string{"", "0", "00", "1234", "123456", "abcdef", "000000000012", wordOf(60)} {
			if impl.FieldOk(no, s) {
				t.Errorf("FieldOk(%d, %q) is true", no, s)
			}
		}
	}
}

func TestP10FieldOkChecksEveryByte(t *testing.T) {
	for _, f := range knownFields() {
		for _, n := range []int{1, f.size} {
			content := []byte(digitsOf(n))
			for i := range content {
				for x := range 256 {
					changed := slices.Clone(content)
					changed[i] = byte(x)
					if s := string(changed); impl.FieldOk(f.no, s) != f.form.MatchString(s) {
						t.Errorf("FieldOk(%d, %q) = %v", f.no, s, impl.FieldOk(f.no, s))
					}
				}
			}
		}
	}
}

func TestP10PutFieldByExample(t *testing.T) {
	for _, c := range []struct {
		no   int
		s    string
		want string
	}{
		{2, "4111", "\x04\x41\x11"},
		{2, "123", "\x03\x01\x23"},
		{2, "7", "\x01\x07"},
		{2, "1234567890123456789", "\x19\x01\x23\x45\x67\x89\x01\x23\x45\x67\x89"},
		{3, "003000", "\x00\x30\x00"},
		{4, "000000001250", "\x00\x00\x00\x00\x12\x50"},
		{7, "1119004912", "\x11\x19\x00\x49\x12"},
		{11, "000042", "\x00\x00\x42"},
		{14, "0060", "\x00\x60"},
		{37, "abc 00000001", "abc 00000001"},
		{38, "h1    ", "h1    "},
		{39, "00", "00"},
		{41, "TERM 001", "TERM 001"},
		{48, "ab", "\x00\x02ab"},
		{49, "978", "\x09\x78"},
		{54, wordOf(60), "\x00\x60" + wordOf(60)},
		{95, "000000000000", "000000000000"},
		{102, "a", "\x01a"},
		{103, wordOf(20), "\x20" + wordOf(20)},
	} {
		if b, ok := impl.PutField(c.no, c.s); string(b) != c.want || !ok {
			t.Errorf("PutField(%d, %q) = %x, %v; want %x", c.no, c.s, b, ok, c.want)
		}
	}
}

func TestP10PutField(t *testing.T) {
	for _, f := range knownFields() {
		for _, s := range contents() {
			var want []byte
			fine := f.form.MatchString(s)
			if fine {
				want = putByHand(f, s)
			}
			if b, ok := impl.PutField(f.no, s); !bytes.Equal(b, want) || ok != fine {
				t.Errorf("PutField(%d, %q) = %x, %v; want %x, %v", f.no, s, b, ok, want, fine)
			}
		}
	}
	for _, no := range otherNos() {
		for _, s := range []string{"", "0", "1234", "123456", "abcdef"} {
			if b, ok := impl.PutField(no, s); b != nil || ok {
				t.Errorf("PutField(%d, %q) = %x, %v", no, s, b, ok)
			}
		}
	}
}

func TestP4FieldsAreRecovered(t *testing.T) {
	for _, f := range knownFields() {
		for _, s := range valids(f) {
			b, ok := impl.PutField(f.no, s)
			if !ok {
				t.Errorf("PutField(%d, %q) is refused", f.no, s)
			}
			for _, ahead := range []int{0, 1, 9} {
				for _, behind := range []int{0, 1, 9} {
					whole := slices.Concat(bytes.Repeat([]byte{0x11}, ahead), b, bytes.Repeat([]byte{0x31}, behind))
					back, end, ok := impl.GetField(whole, ahead, f.no)
					if back != s || end != ahead+len(b) || !ok {
						t.Errorf("GetField(%x, %d, %d) = %q, %d, %v; want %q", whole, ahead, f.no, back, end, ok, s)
					}
				}
			}
		}
	}
}

func TestP4CutFieldsAreRefused(t *testing.T) {
	for _, f := range knownFields() {
		for _, s := range valids(f) {
			b := putByHand(f, s)
			for n := range b {
				// What stands behind the part, in the memory of the slice, does not belong to it.
				for _, part := range [][]byte{b[:n], slices.Clone(b[:n])} {
					if back, end, ok := impl.GetField(part, 0, f.no); back != "" || end != 0 || ok {
						t.Errorf("GetField(%x, 0, %d) = %q, %d, %v", part, f.no, back, end, ok)
					}
				}
			}
		}
	}
}

func TestP4OnlyEncodingsAreReadAsFields(t *testing.T) {
	for _, f := range knownFields() {
		for _, n := range []int{1, 2, 3, f.size - 1, f.size} {
			s := strings.Repeat("1", n)
			if !f.form.MatchString(s) {
				continue
			}
			b := append(putByHand(f, s), bytes.Repeat([]byte{0x31}, 100)...)
			for i := range len(b) - 90 {
				for x := range 256 {
					changed := slices.Clone(b)
					changed[i] = byte(x)
					checkGetField(t, f, changed, 0)
				}
			}
		}
		for seed := range uint64(3000) {
			checkGetField(t, f, someBytes(seed, 70), int(seed%7))
		}
	}
}

func TestP4LengthsOutsideTheFieldAreRefused(t *testing.T) {
	rest := bytes.Repeat([]byte{0x31}, 1100)
	for _, f := range knownFields() {
		if f.kind < 3 {
			continue
		}
		for x := range 1 << 16 {
			b := slices.Concat([]byte{byte(x >> 8), byte(x)}, rest)
			checkGetField(t, f, b, 0)
			if t.Failed() {
				return
			}
		}
		for x := range 1 << 8 {
			checkGetField(t, f, []byte{byte(x)}, 0)
			checkGetField(t, f, []byte{0, byte(x)}, 0)
		}
	}
}

func TestP10GetField(t *testing.T) {
	if s, end, ok := impl.GetField([]byte{0x03, 0x01, 0x23, 0x09}, 0, 2); s != "123" || end != 3 || !ok {
		t.Error("a number behind its length:", s, end, ok)
	}
	if s, end, ok := impl.GetField([]byte{0x03, 0x11, 0x23, 0x09}, 0, 2); s != "" || end != 0 || ok {
		t.Error("an odd number of digits has a 0 ahead:", s, end, ok)
	}
	if s, end, ok := impl.GetField([]byte{0x19, 0x78}, 0, 49); s != "" || end != 0 || ok {
		t.Error("an odd number of digits has a 0 ahead:", s, end, ok)
	}
	if s, end, ok := impl.GetField([]byte("xxh1    y"), 2, 38); s != "h1    " || end != 8 || !ok {
		t.Error("a text keeps its spaces:", s, end, ok)
	}
	if s, end, ok := impl.GetField([]byte("h1\n   "), 0, 38); s != "" || end != 0 || ok {
		t.Error("a text is printable:", s, end, ok)
	}
	for _, f := range knownFields() {
		for _, s := range []string{digitsOf(1), digitsOf(f.size)} {
			if !f.form.MatchString(s) {
				continue
			}
			// Without bytes ahead, what stands at 0 could be taken for what a negative offset means.
			for _, ahead := range []string{"", "\x01", "1"} {
				b := slices.Concat([]byte(ahead), putByHand(f, s), []byte{0x31})
				for _, at := range edgePlaces(len(b)) {
					checkGetField(t, f, b, at)
					checkGetField(t, f, nil, at)
				}
			}
		}
	}
}

func TestP10GetFieldRefusesOtherNumbers(t *testing.T) {
	for _, b := range [][]byte{nil, {0x00}, {0x01, 0x07, 0x31, 0x31}, bytes.Repeat([]byte{0x31}, 100), bytes.Repeat([]byte{0x00}, 100)} {
		for _, no := range otherNos() {
			for _, at := range []int{math.MinInt, -1, 0, 1, len(b), len(b) + 1, math.MaxInt} {
				if s, end, ok := impl.GetField(b, at, no); s != "" || end != 0 || ok {
					t.Errorf("GetField(%x, %d, %d) = %q, %d, %v", b, at, no, s, end, ok)
				}
			}
		}
	}
}

func TestP10FieldFitByExample(t *testing.T) {
	for _, c := range []struct {
		no      int
		s, want string
	}{
		{11, "7", "000007"},
		{11, "", "000000"},
		{11, "123456", "123456"},
		{11, "1234567", ""},
		{11, "0000007", ""},
		{11, "a", ""},
		{11, " 7", ""},
		{49, "1", "001"},
		{38, "h1", "h1    "},
		{38, "", "      "},
		{38, " h ", " h    "},
		{38, "abcdef", "abcdef"},
		{38, "abcdefg", ""},
		{38, "abcdef ", ""},
		{38, "h\n", ""},
		{39, "000", ""},
		{2, "4111", "4111"},
		{2, "", ""},
		{2, "12345678901234567890", ""},
		{48, "ab ", "ab "},
		{48, "", ""},
		{102, "", ""},
		{103, "x", "x"},
		{5, "x", ""},
		{0, "", ""},
		{0, "x", ""},
		{-1, "1", ""},
	} {
		if got := impl.FieldFit(c.no, c.s); got != c.want {
			t.Errorf("FieldFit(%d, %q) = %q; want %q", c.no, c.s, got, c.want)
		}
	}
}

func TestP10FieldFit(t *testing.T) {
	for _, f := range knownFields() {
		for _, s := range contents() {
			want := s
			for len(want) < f.size && f.kind == 1 {
				want = "0" + want
			}
			for len(want) < f.size && f.kind == 2 {
				want += " "
			}
			if !f.form.MatchString(want) {
				want = ""
			}
			if got := impl.FieldFit(f.no, s); got != want {
				t.Errorf("FieldFit(%d, %q) = %q; want %q", f.no, s, got, want)
			}
		}
	}
	for _, no := range otherNos() {
		for _, s := range []string{"", "0", "1234", "abcdef"} {
			if got := impl.FieldFit(no, s); got != "" {
				t.Errorf("FieldFit(%d, %q) = %q", no, s, got)
			}
		}
	}
}

func TestP10FieldBare(t *testing.T) {
	form := regexp.MustCompile(` *\z`)
	l := append(contents(), "h1    ", "  a  b  ", "a \n", "a\n ", "a\t ", "a\u00a0 ", "a \u00a0", "\xff ", " \xff", "a\u2003", strings.Repeat(" ", 5000))
	for _, s := range append(l, stringsOf(5, " ", "a", "\t", "\n", "\u00a0", "\xa0")...) {
		if got, want := impl.FieldBare(s), s[:form.FindStringIndex(s)[0]]; got != want {
			t.Errorf("FieldBare(%q) = %q; want %q", s, got, want)
		}
	}
	for s, want := range map[string]string{"": "", " ": "", "h1    ": "h1", "  a  b  ": "  a  b", "a\n ": "a\n", "a \n": "a \n"} {
		if got := impl.FieldBare(s); got != want {
			t.Errorf("FieldBare(%q) = %q; want %q", s, got, want)
		}
	}
}

func TestP4NamesAreRecoveredFromFilledFields(t *testing.T) {
	for _, s := range stringsOf(6, "0", "a", "z") {
		if back := impl.FieldBare(impl.FieldFit(38, s)); back != s {
			t.Errorf("FieldBare(FieldFit(38, %q)) = %q", s, back)
		}
	}
}

func TestP10FieldsAreNewMemory(t *testing.T) {
	for _, f := range knownFields() {
		s := digitsOf(f.size)
		one, _ := impl.PutField(f.no, s)
		two, _ := impl.PutField(f.no, s)
		for i := range one {
			one[i]++
		}
		_ = append(one, 0xff)
		three, _ := impl.PutField(f.no, s)
		if want := putByHand(f, s); !bytes.Equal(two, want) || !bytes.Equal(three, want) {
			t.Errorf("two results of PutField(%d, %q) share memory", f.no, s)
		}
	}
}

func TestP10FieldsLeaveTheirArguments(t *testing.T) {
	for _, f := range knownFields() {
		s := digitsOf(f.size)
		b := putByHand(f, s)
		whole := slices.Concat(b, bytes.Repeat([]byte{0x77}, 50))
		before := slices.Clone(whole)
		back, _, _ := impl.GetField(whole[:len(b)], 0, f.no)
		for at := range whole {
			impl.GetField(whole[:at], 0, f.no)
			impl.GetField(whole[:len(b)], at, f.no)
		}
		if !bytes.Equal(whole, before) {
			t.Errorf("GetField of field %d changes its bytes to %x", f.no, whole)
		}
		for i := range whole {
			whole[i] = 0
		}
		if back != s {
			t.Errorf("the content of field %d shares memory with the bytes", f.no)
		}
	}
}
