package tests

import (
	"bytes"
	"encoding/binary"
	"encoding/hex"
	"fmt"
	"math"
	"regexp"
	"slices"
	"strconv"
	"strings"
	"testing"

	"loop.example/g00735/impl"
)

// The expectations are computed with encoding/hex, encoding/binary and regular expressions, so that they share nothing with the program.

var bcdForm = regexp.MustCompile(`\A[0-9]{1,38}\z`)

func bcdByHand(s string) ([]byte, bool) {
	if !bcdForm.MatchString(s) {
		return nil, false
	}
	b, err := hex.DecodeString(strings.Repeat("0", len(s)%2) + s)
	return b, err == nil
}

// getBcdByHand takes the only digits that can be meant, and compares their encoding.
func getBcdByHand(b []byte, at int, n int) (string, int, bool) {
	if n < 1 || n > 38 || at < 0 || at > len(b) || len(b)-at < (n+1)/2 {
		return "", 0, false
	}
	part := b[at:][:(n+1)/2]
	s := hex.EncodeToString(part)[n%2:]
	if again, ok := bcdByHand(s); !ok || !bytes.Equal(again, part) {
		return "", 0, false
	}
	return s, at + (n+1)/2, true
}

// someBytes follow a short rule, so that every run checks the same ones.
func someBytes(seed uint64, n int) []byte {
	b := make([]byte, n)
	for i := range b {
		seed = seed*6364136223846793005 + 1442695040888963407
		b[i] = byte(seed >> 56)
	}
	return b
}

// edgePlaces are offsets around the ends of a slice of length n, and the edges of int.
func edgePlaces(n int) []int {
	l := append(edgeInts(), -8, -2)
	for k := range n + 4 {
		l = append(l, k-1)
	}
	return l
}

func digitTexts() []string {
	l := append(manyStrings(), "123", "0123", "4539578763621486", "12345678901234567890123456789012345678")
	for n := range 41 {
		l = append(l, strings.Repeat("1234567890", 5)[:n], strings.Repeat("9876543210", 5)[:n])
	}
	return l
}

func checkGetBcd(t *testing.T, b []byte, at int, n int) {
	t.Helper()
	s, end, ok := impl.GetBcd(b, at, n)
	wantS, wantEnd, want := getBcdByHand(b, at, n)
	if s != wantS || end != wantEnd || ok != want {
		t.Errorf("GetBcd(%x, %d, %d) = %q, %d, %v; want %q, %d, %v", b, at, n, s, end, ok, wantS, wantEnd, want)
	}
}

func TestP4DigitsAreRecovered(t *testing.T) {
	for _, s := range digitTexts() {
		b, ok := impl.PutBcd(s)
		if !ok {
			continue
		}
		for _, ahead := range []int{0, 1, 7} {
			for _, behind := range []int{0, 1, 7} {
				whole := slices.Concat(bytes.Repeat([]byte{0x99}, ahead), b, bytes.Repeat([]byte{0x55}, behind))
				back, end, ok := impl.GetBcd(whole, ahead, len(s))
				if back != s || end != ahead+len(b) || !ok {
					t.Errorf("GetBcd(%x, %d, %d) = %q, %d, %v", whole, ahead, len(s), back, end, ok)
				}
			}
		}
	}
}

func TestP4OnlyEncodingsAreReadAsDigits(t *testing.T) {
	meant := map[string]string{}
	for _, s := range stringsOf(4, "0", "1", "2", "3", "4", "5", "6", "7", "8", "9") {
		if b, ok := bcdByHand(s); ok {
			meant[strconv.Itoa(len(s))+string(b)] = s
		}
	}
	for x := range 1 << 16 {
		b := []byte{byte(x >> 8), byte(x)}
		for n := 1; n <= 4; n++ {
			at := 2 - (n+1)/2
			want, exists := meant[strconv.Itoa(n)+string(b[at:])]
			s, end, ok := impl.GetBcd(b, at, n)
			if ok != exists || s != want || ok && end != 2 || !ok && end != 0 {
				t.Fatalf("GetBcd(%x, %d, %d) = %q, %d, %v; want %q, %v", b, at, n, s, end, ok, want, exists)
			}
		}
	}
}

func TestP10PutBcd(t *testing.T) {
	if b, ok := impl.PutBcd("123"); !ok || !bytes.Equal(b, []byte{0x01, 0x23}) {
		t.Errorf("PutBcd(123) = %x, %v", b, ok)
	}
	if b, ok := impl.PutBcd("4539"); !ok || !bytes.Equal(b, []byte{0x45, 0x39}) {
		t.Errorf("PutBcd(4539) = %x, %v", b, ok)
	}
	for _, s := range append(digitTexts(), "", "a", "1a", "f", "0f", "12f4", "-123", strings.Repeat("1", 37)+"a") {
		want, fine := bcdByHand(s)
		if b, ok := impl.PutBcd(s); !bytes.Equal(b, want) || ok != fine {
			t.Errorf("PutBcd(%q) = %x, %v; want %x, %v", s, b, ok, want, fine)
		}
	}
}

func TestP10GetBcd(t *testing.T) {
	digits, _ := hex.DecodeString("0123456789012345678901234567890123456789")
	wrong, _ := hex.DecodeString("00000a00a01000f1")
	for _, b := range [][]byte{nil, {}, {0x07}, {0x17}, {0x0a}, {0xa0}, {0x00, 0x00}, digits, wrong} {
		for _, at := range edgePlaces(len(b)) {
			for _, n := range edgePlaces(41) {
				checkGetBcd(t, b, at, n)
			}
		}
	}
}

func TestP10GetBcdChecksEveryHalf(t *testing.T) {
	for n := 1; n <= 38; n++ {
		b := make([]byte, (n+1)/2)
		for i := range b {
			for x := range 256 {
				b[i] = byte(x)
				checkGetBcd(t, b, 0, n)
			}
			b[i] = 0
		}
	}
}

func TestP4LengthsAreRecovered(t *testing.T) {
	for digits, most := range map[int]int{2: 99, 3: 999} {
		for n := range most + 1 {
			b, ok := impl.PutLen(n, digits)
			back, end, also := impl.GetLen(slices.Concat([]byte{0xff}, b, []byte{0xff}), 1, digits)
			if !ok || !also || back != n || end != 1+len(b) {
				t.Errorf("GetLen of PutLen(%d, %d) = %d, %d, %v", n, digits, back, end, also)
			}
		}
	}
}

func TestP10PutLen(t *testing.T) {
	numbers := edgeInts()
	for n := range 1100 {
		numbers = append(numbers, n)
	}
	for _, n := range numbers {
		for _, digits := range []int{math.MinInt, -2, 0, 1, 2, 3, 4, 5, 18, 19, math.MaxInt} {
			var want []byte
			fine := n >= 0 && (digits == 2 && n < 100 || digits == 3 && n < 1000)
			if fine {
				want, _ = hex.DecodeString(fmt.Sprintf("%0*d", digits+digits%2, n))
			}
			if b, ok := impl.PutLen(n, digits); !bytes.Equal(b, want) || ok != fine {
				t.Errorf("PutLen(%d, %d) = %x, %v; want %x, %v", n, digits, b, ok, want, fine)
			}
		}
	}
}

func TestP10GetLen(t *testing.T) {
	for x := range 1 << 16 {
		b := []byte{0x99, byte(x >> 8), byte(x), 0x99}
		for _, digits := range []int{2, 3} {
			s, wantEnd, want := getBcdByHand(b, 1, digits)
			wantN, _ := strconv.Atoi(s)
			if n, end, ok := impl.GetLen(b, 1, digits); n != wantN || end != wantEnd || ok != want {
				t.Fatalf("GetLen(%x, 1, %d) = %d, %d, %v; want %d, %d, %v", b, digits, n, end, ok, wantN, wantEnd, want)
			}
		}
	}
}

func TestP10GetLenRefusesOtherPlacesAndWidths(t *testing.T) {
	for _, b := range [][]byte{nil, {0x07}, {0x00, 0x07}, {0x01, 0x23, 0x45, 0x67}} {
		for _, at := range edgePlaces(len(b)) {
			for _, digits := range []int{math.MinInt, -3, -2, -1, 0, 1, 2, 3, 4, 5, 6, 18, 38, math.MaxInt} {
				s, wantEnd, want := "", 0, false
				if digits == 2 || digits == 3 {
					s, wantEnd, want = getBcdByHand(b, at, digits)
				}
				wantN, _ := strconv.Atoi(s)
				if n, end, ok := impl.GetLen(b, at, digits); n != wantN || end != wantEnd || ok != want {
					t.Errorf("GetLen(%x, %d, %d) = %d, %d, %v; want %d, %d, %v", b, at, digits, n, end, ok, wantN, wantEnd, want)
				}
			}
		}
	}
}

// bitsByHand writes the bitmap as 64 binary digits, the first of which is bit 1.
func bitsByHand(l []int) []byte {
	text := []byte(strings.Repeat("0", 64))
	for _, k := range l {
		if 1 <= k && k <= 64 {
			text[k-1] = '1'
		}
	}
	x, _ := strconv.ParseUint(string(text), 2, 64)
	return binary.BigEndian.AppendUint64(nil, x)
}

// bitNumbers are the places of the ones in the 64 binary digits of b.
func bitNumbers(b []byte) []int {
	var l []int
	for i, c := range fmt.Sprintf("%064b", binary.BigEndian.Uint64(b)) {
		if c == '1' {
			l = append(l, i+1)
		}
	}
	return l
}

func TestP4BitmapsAreRecovered(t *testing.T) {
	var all []int
	for k := 1; k <= 64; k++ {
		all = append(all, k)
	}
	lists := [][]int{nil, all}
	for k := 1; k <= 64; k++ {
		lists = append(lists, []int{k}, all[:k], all[k:], slices.Concat(all[:k-1], all[k:]))
		if k > 1 {
			lists = append(lists, []int{1, k})
		}
	}
	for _, l := range lists {
		b := impl.PutBits(l)
		for _, ahead := range []int{0, 1, 9} {
			whole := slices.Concat(bytes.Repeat([]byte{0xff}, ahead), b, []byte{0xff})
			back, end, ok := impl.GetBits(whole, ahead)
			if !slices.Equal(back, l) || end != ahead+8 || !ok {
				t.Errorf("GetBits(%x, %d) = %v, %d, %v; want %v", whole, ahead, back, end, ok, l)
			}
		}
	}
	for seed := range uint64(2000) {
		b := someBytes(seed, 8)
		l, _, ok := impl.GetBits(b, 0)
		if again := impl.PutBits(l); !ok || !bytes.Equal(again, b) {
			t.Errorf("PutBits(GetBits(%x)) = %x, %v", b, again, ok)
		}
	}
}

func TestP10PutBits(t *testing.T) {
	for _, l := range [][]int{
		nil, {}, {1}, {8}, {9}, {64}, {9, 1, 8, 65}, {0}, {65}, {-1, -7, -8, -63, -64, 128}, {3, 3, 3}, {64, 2, 33, 2, 0, 64},
		edgeInts(), {math.MinInt, math.MaxInt, 5},
	} {
		if b, want := impl.PutBits(l), bitsByHand(l); !bytes.Equal(b, want) {
			t.Errorf("PutBits(%v) = %x; want %x", l, b, want)
		}
	}
	for j := -140; j <= 140; j++ {
		for k := -70; k <= 140; k++ {
			if b, want := impl.PutBits([]int{j, k}), bitsByHand([]int{j, k}); !bytes.Equal(b, want) {
				t.Errorf("PutBits(%d, %d) = %x; want %x", j, k, b, want)
			}
		}
	}
}

func TestP10GetBits(t *testing.T) {
	b := []byte{0xff, 0x81, 0x80, 0, 0, 0, 0, 0, 0x01, 0xff}
	if l, end, ok := impl.GetBits(b, 1); !slices.Equal(l, []int{1, 8, 9, 64}) || end != 9 || !ok {
		t.Errorf("GetBits(%x, 1) = %v, %d, %v", b, l, end, ok)
	}
	for n := range 20 {
		b := someBytes(uint64(n), n)
		for _, at := range edgePlaces(n) {
			var want []int
			wantEnd, fine := 0, at >= 0 && at <= n && n-at >= 8
			if fine {
				want, wantEnd = bitNumbers(b[at:at+8]), at+8
			}
			if l, end, ok := impl.GetBits(b, at); !slices.Equal(l, want) || end != wantEnd || ok != fine {
				t.Errorf("GetBits(%x, %d) = %v, %d, %v; want %v, %d, %v", b, at, l, end, ok, want, wantEnd, fine)
			}
		}
	}
}

func TestP10Printable(t *testing.T) {
	form := regexp.MustCompile(`\A[ -~]*\z`)
	for _, s := range manyStrings() {
		if got := impl.Printable(s); got != form.MatchString(s) {
			t.Errorf("Printable(%q) = %v", s, got)
		}
	}
	for x := range 256 {
		c := string([]byte{byte(x)})
		for _, s := range []string{c, c + "a b", "a" + c + "~", "a ~" + c} {
			if got := impl.Printable(s); got != (x >= 32 && x <= 126) {
				t.Errorf("Printable(%q) = %v", s, got)
			}
		}
	}
	if !impl.Printable("") {
		t.Error("every byte of the empty string is printable")
	}
}

func TestP10HexText(t *testing.T) {
	if s := impl.HexText([]byte{0x0f, 0xa0, 0x9b}); s != "0fa09b" {
		t.Error("HexText", s)
	}
	for n := range 300 {
		b := someBytes(uint64(n), n)
		if s := impl.HexText(b); s != hex.EncodeToString(b) {
			t.Errorf("HexText(%x) = %q", b, s)
		}
	}
	for x := range 256 {
		if s := impl.HexText([]byte{byte(x)}); s != hex.EncodeToString([]byte{byte(x)}) {
			t.Errorf("HexText(%x) = %q", x, s)
		}
	}
}

func TestP10TextHex(t *testing.T) {
	form := regexp.MustCompile(`\A([0-9a-f]{2})*\z`)
	l := append(manyStrings(), "0fa0", "0FA0", "0fA0", "0fa", "0x0f", "0g", "g0", "00 0", "0f0g", "fg", "`0", "0@", strings.Repeat("0f", 5000)+"F0")
	for x := range 1 << 16 {
		l = append(l, string([]byte{byte(x >> 8), byte(x)}))
	}
	for _, s := range l {
		var want []byte
		fine := form.MatchString(s)
		if fine {
			want, _ = hex.DecodeString(s)
		}
		if b, ok := impl.TextHex(s); !bytes.Equal(b, want) || ok != fine {
			t.Errorf("TextHex(%q) = %x, %v; want %x, %v", s, b, ok, want, fine)
		}
	}
}

func TestP4BytesAreRecoveredFromHexadecimal(t *testing.T) {
	for n := range 300 {
		b := someBytes(uint64(n), n)
		if back, ok := impl.TextHex(impl.HexText(b)); !bytes.Equal(back, b) || !ok {
			t.Errorf("TextHex(HexText(%x)) = %x, %v", b, back, ok)
		}
	}
}

func TestP10EncodingsAreNewMemory(t *testing.T) {
	for name, encode := range map[string]func() []byte{
		"PutBcd":  func() []byte { b, _ := impl.PutBcd("12345"); return b },
		"PutLen":  func() []byte { b, _ := impl.PutLen(123, 3); return b },
		"PutBits": func() []byte { return impl.PutBits([]int{1, 2, 3}) },
		"TextHex": func() []byte { b, _ := impl.TextHex("0fa0"); return b },
	} {
		one, two := encode(), encode()
		before := slices.Clone(two)
		one[0]++
		_ = append(one, 0xff)
		if !bytes.Equal(two, before) || !bytes.Equal(encode(), before) {
			t.Error("two results share memory:", name)
		}
	}
	b := bytes.Repeat([]byte{0xff}, 8)
	one, _, _ := impl.GetBits(b, 0)
	one[0] = 77
	if two, _, _ := impl.GetBits(b, 0); two[0] != 1 {
		t.Error("two results of GetBits share memory")
	}
}

func TestP10EncodersLeaveTheirArguments(t *testing.T) {
	whole := someBytes(1, 40)
	copy(whole, []byte{0x01, 0x23, 0x45})
	before := slices.Clone(whole)
	b := whole[:20]
	for at := range 20 {
		impl.GetBcd(b, at, 5)
		impl.GetLen(b, at, 3)
		impl.GetBits(b, at)
	}
	impl.HexText(b)
	if !bytes.Equal(whole, before) {
		t.Errorf("the bytes are now %x", whole)
	}
	numbers := []int{9, 1, 65, 8, 77, 77}
	impl.PutBits(numbers[:4])
	if !slices.Equal(numbers, []int{9, 1, 65, 8, 77, 77}) {
		t.Error("the numbers are now", numbers)
	}
}
