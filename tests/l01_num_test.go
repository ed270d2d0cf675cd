package tests

import (
	"hash/fnv"
	"math"
	"math/big"
	"regexp"
	"slices"
	"strconv"
	"strings"
	"testing"

	"loop.example/g00735/impl"
)

// The expectations are computed with big numbers and regular expressions, so that they share nothing with the program.

func bigMoney(n *big.Int) bool {
	return n.Sign() >= 0 && n.Cmp(big.NewInt(impl.MaxMoney)) <= 0
}

func clamped(n int) *big.Int {
	return big.NewInt(int64(min(max(n, 0), impl.MaxMoney)))
}

func checkPair(t *testing.T, call string, a, b, got int, ok bool, exact *big.Int) {
	t.Helper()
	want := bigMoney(big.NewInt(int64(a))) && bigMoney(big.NewInt(int64(b))) && bigMoney(exact)
	wantN := 0
	if want {
		wantN = int(exact.Int64())
	}
	if got != wantN || ok != want {
		t.Errorf("%s(%d, %d) = %d, %v; want %d, %v", call, a, b, got, ok, wantN, want)
	}
}

func TestP10ConstantsOfChapter2(t *testing.T) {
	if impl.MaxMoney != 4611686018427387904 || impl.MaxLimit != 9007199254740992 || impl.MaxTime != 1000000000 {
		t.Error("a constant differs from the document")
	}
}

func TestP2SumsAndDifferencesAreExactOrRefused(t *testing.T) {
	for _, a := range edgeInts() {
		for _, b := range edgeInts() {
			x, y := big.NewInt(int64(a)), big.NewInt(int64(b))
			n, ok := impl.AddMoney(a, b)
			checkPair(t, "AddMoney", a, b, n, ok, new(big.Int).Add(x, y))
			n, ok = impl.SubMoney(a, b)
			checkPair(t, "SubMoney", a, b, n, ok, new(big.Int).Sub(x, y))
		}
	}
}

func TestP2SaturatingSumsStayMoney(t *testing.T) {
	for _, a := range edgeInts() {
		for _, b := range edgeInts() {
			want := new(big.Int).Add(clamped(a), clamped(b))
			if !bigMoney(want) {
				want = big.NewInt(impl.MaxMoney)
			}
			if got := impl.AddSat(a, b); int64(got) != want.Int64() {
				t.Errorf("AddSat(%d, %d) = %d; want %v", a, b, got, want)
			}
		}
	}
}

func TestP10SumsOfOrdinaryAmounts(t *testing.T) {
	if n, ok := impl.AddMoney(1250, 799); n != 2049 || !ok {
		t.Error("AddMoney(1250, 799)", n, ok)
	}
	if n, ok := impl.SubMoney(1250, 799); n != 451 || !ok {
		t.Error("SubMoney(1250, 799)", n, ok)
	}
	if n, ok := impl.SubMoney(799, 1250); n != 0 || ok {
		t.Error("SubMoney(799, 1250)", n, ok)
	}
	if n := impl.AddSat(1250, 799); n != 2049 {
		t.Error("AddSat(1250, 799)", n)
	}
	if n := impl.AddSat(-1250, 799); n != 799 {
		t.Error("AddSat(-1250, 799)", n)
	}
	if n, ok := impl.AddMoney(impl.MaxMoney, impl.MaxMoney); n != 0 || ok {
		t.Error("twice MaxMoney", n, ok)
	}
}

func TestP10NumText(t *testing.T) {
	for _, n := range append(edgeInts(), 7, 42, 120, 1000000) {
		want := ""
		if n >= 0 && n <= impl.MaxMoney {
			want = big.NewInt(int64(n)).String()
		}
		if got := impl.NumText(n); got != want {
			t.Errorf("NumText(%d) = %q; want %q", n, got, want)
		}
	}
}

func TestP10TextNum(t *testing.T) {
	form := regexp.MustCompile(`\A(0|[1-9][0-9]*)\z`)
	for _, s := range manyStrings() {
		want, ok := new(big.Int), false
		if form.MatchString(s) {
			want.SetString(s, 10)
			ok = bigMoney(want)
		}
		if !ok {
			want = new(big.Int)
		}
		if n, got := impl.TextNum(s); int64(n) != want.Int64() || got != ok {
			t.Errorf("TextNum(%q) = %d, %v; want %v, %v", s, n, got, want, ok)
		}
	}
}

func TestP4NumbersAreRecovered(t *testing.T) {
	for _, n := range edgeInts() {
		s := impl.NumText(n)
		if back, ok := impl.TextNum(s); s != "" && (back != n || !ok) {
			t.Errorf("TextNum(NumText(%d)) = %d, %v", n, back, ok)
		}
		for w := range 20 {
			s := impl.Wide(n, w)
			if back, ok := impl.Narrow(s); s != "" && (back != n || !ok || len(s) != w) {
				t.Errorf("Narrow(Wide(%d, %d)) = %d, %v", n, w, back, ok)
			}
		}
	}
	for _, s := range manyStrings() {
		if n, ok := impl.Narrow(s); ok && impl.Wide(n, len(s)) != s {
			t.Errorf("Wide(Narrow(%q)) = %q", s, impl.Wide(n, len(s)))
		}
	}
}

func TestP10Digits(t *testing.T) {
	form := regexp.MustCompile(`\A[0-9]+\z`)
	for _, s := range manyStrings() {
		if got, want := impl.Digits(s), form.MatchString(s); got != want {
			t.Errorf("Digits(%q) = %v", s, got)
		}
	}
	for b := range 256 {
		s := string([]byte{byte(b)})
		if got, want := impl.Digits(s), b >= '0' && b <= '9'; got != want {
			t.Errorf("Digits(%q) = %v", s, got)
		}
	}
}

func TestP10Wide(t *testing.T) {
	for _, n := range append(edgeInts(), 5, 42, 99999) {
		for _, w := range []int{math.MinInt, -1, 0, 1, 2, 3, 5, 10, 17, 18, 19, 20, 30, math.MaxInt} {
			want := ""
			if s := strconv.Itoa(n); n >= 0 && w >= 1 && w <= 18 && len(s) <= w {
				want = strings.Repeat("0", w)[len(s):] + s
			}
			if got := impl.Wide(n, w); got != want {
				t.Errorf("Wide(%d, %d) = %q; want %q", n, w, got, want)
			}
		}
	}
}

func TestP10Narrow(t *testing.T) {
	form := regexp.MustCompile(`\A[0-9]{1,18}\z`)
	for _, s := range manyStrings() {
		want := 0
		ok := form.MatchString(s)
		if ok {
			want, _ = strconv.Atoi(s)
		}
		if n, got := impl.Narrow(s); n != want || got != ok {
			t.Errorf("Narrow(%q) = %d, %v; want %d, %v", s, n, got, want, ok)
		}
	}
}

func TestP10Cut(t *testing.T) {
	for s, want := range map[string][]string{
		"":             {""},
		" ":            {"", ""},
		"auth":         {"auth"},
		"auth 12 3":    {"auth", "12", "3"},
		"  a  b ":      {"", "", "a", "", "b", ""},
		"a\tb\nc \xff": {"a\tb\nc", "\xff"},
	} {
		if got := impl.Cut(s); !slices.Equal(got, want) {
			t.Errorf("Cut(%q) = %q; want %q", s, got, want)
		}
	}
	for _, s := range stringsOf(5, " ", "a", "\t", "\u00a0") {
		l := impl.Cut(s)
		if len(l) != strings.Count(s, " ")+1 || strings.Join(l, " ") != s {
			t.Errorf("Cut(%q) = %q", s, l)
		}
	}
}

func TestP10Lines(t *testing.T) {
	for s, want := range map[string][]string{
		"":            {},
		"\n":          {""},
		"\n\n":        {"", ""},
		"a":           {"a"},
		"a\n":         {"a"},
		"\na":         {"", "a"},
		"a\nb":        {"a", "b"},
		"a\n\nb\n":    {"a", "", "b"},
		"a\r\nb \n\t": {"a\r", "b ", "\t"},
		"\xff\n ":     {"\xff", " "},
	} {
		if got := impl.Lines(s); !slices.Equal(got, want) {
			t.Errorf("Lines(%q) = %q; want %q", s, got, want)
		}
	}
	for _, s := range stringsOf(5, "\n", "a", " ", "\r") {
		want := strings.Count(s, "\n")
		whole := s
		if s != "" && !strings.HasSuffix(s, "\n") {
			want++
			whole += "\n"
		}
		l := impl.Lines(s)
		back := ""
		for _, line := range l {
			back += line + "\n"
		}
		if len(l) != want || back != whole {
			t.Errorf("Lines(%q) = %q", s, l)
		}
	}
}

func TestP10ListsAreNewMemory(t *testing.T) {
	for _, split := range []func(string) []string{impl.Cut, impl.Lines} {
		one, two := split("a b\nc d\n"), split("a b\nc d\n")
		one[0] = "changed"
		if two[0] == "changed" || slices.Equal(split("a b\nc d\n"), one) {
			t.Error("two results share memory")
		}
	}
}

func TestP10Fnv(t *testing.T) {
	for s, want := range map[string]int{"": 2166136261, "a": 3826002220, "foobar": 0xbf9cf968} {
		if got := impl.Fnv(s); got != want {
			t.Errorf("Fnv(%q) = %d; want %d", s, got, want)
		}
	}
	l := append(manyStrings(), "79927398713")
	for b := range 256 {
		l = append(l, string([]byte{byte(b)}), string([]byte{byte(b), 0, byte(255 - b)}))
	}
	for _, s := range l {
		h := fnv.New32a()
		h.Write([]byte(s))
		if got := impl.Fnv(s); got != int(h.Sum32()) {
			t.Errorf("Fnv(%q) = %d; want %d", s, got, h.Sum32())
		}
	}
}

// luhnByHand follows the wording of the document.
func luhnByHand(s string) int {
	if !regexp.MustCompile(`\A[0-9]+\z`).MatchString(s) {
		return -1
	}
	sum := 0
	for k := 1; k <= len(s); k++ {
		d := int(s[len(s)-k] - '0')
		if k%2 == 1 {
			d *= 2
		}
		if d > 9 {
			d -= 9
		}
		sum += d
	}
	missing := 0
	for (sum+missing)%10 != 0 {
		missing++
	}
	return missing
}

func cardNumbers() []string {
	l := stringsOf(3, "0", "1", "2", "3", "4", "5", "6", "7", "8", "9")
	l = append(l, "7992739871", "79927398713", "79927398712", "4539578763621486", "453957876362148", strings.Repeat("5", 5000))
	return append(l, manyStrings()...)
}

func TestP10Luhn(t *testing.T) {
	if impl.Luhn("7992739871") != 3 {
		t.Error("the document's example")
	}
	for _, s := range cardNumbers() {
		if got, want := impl.Luhn(s), luhnByHand(s); got != want {
			t.Errorf("Luhn(%q) = %d; want %d", s, got, want)
		}
	}
}

func TestP10LuhnOk(t *testing.T) {
	for _, s := range cardNumbers() {
		want := len(s) >= 2 && impl.Digits(s) && s[len(s)-1:] == strconv.Itoa(luhnByHand(s[:len(s)-1]))
		if got := impl.LuhnOk(s); got != want {
			t.Errorf("LuhnOk(%q) = %v", s, got)
		}
	}
	for _, s := range []string{"", "0", "5", "79927398713 ", " 79927398713", "7992739871x", "x0", "0x", "-1", "\u0660\u0660"} {
		if impl.LuhnOk(s) {
			t.Errorf("LuhnOk(%q) is true", s)
		}
	}
	if !impl.LuhnOk("00") || !impl.LuhnOk("18") || !impl.LuhnOk("79927398713") || !impl.LuhnOk("4539578763621486") {
		t.Error("a number with its check digit is refused")
	}
}

func TestP4ChangedDigitIsDetected(t *testing.T) {
	for _, s := range []string{"0", "9", "12", "7992739871", "453957876362148", "000000000000000000", "999999999999999999"} {
		whole := s + strconv.Itoa(impl.Luhn(s))
		if !impl.LuhnOk(whole) {
			t.Errorf("LuhnOk(%q) is false", whole)
		}
		for i := range whole {
			for d := byte('0'); d <= '9'; d++ {
				changed := whole[:i] + string(rune(d)) + whole[i+1:]
				if changed != whole && impl.LuhnOk(changed) {
					t.Errorf("LuhnOk(%q) is true, as LuhnOk(%q) is", changed, whole)
				}
			}
		}
	}
}
