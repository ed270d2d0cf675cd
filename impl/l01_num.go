package impl

import (
	"errors"
	"strconv"
	"strings"
)

const MaxMoney = 4611686018427387904
const MaxLimit = 9007199254740992
const MaxTime = 1000000000

// maxWidth is the number of digits up to which every number is money.
const maxWidth = 18

const fnvStart = 2166136261
const fnvPrime = 16777619
const lowest32 = 1<<32 - 1

var errNotMoney = errors.New("not money")
var errNotDigits = errors.New("not digits")

// overflow has a type of its own because a saturating caller goes on with the
// limit, while every other error leaves it nothing to go on with.
type overflow struct {
	limit int
}

func (o overflow) Error() string {
	return "greater than " + strconv.Itoa(o.limit)
}

func isMoney(n int) bool {
	return n >= 0 && n <= MaxMoney
}

func clampMoney(n int) int {
	return min(max(n, 0), MaxMoney)
}

// moneySum compares before it adds: twice MaxMoney does not fit into an int.
func moneySum(a int, b int) (int, error) {
	if !isMoney(a) || !isMoney(b) {
		return 0, errNotMoney
	}
	if a > MaxMoney-b {
		return 0, overflow{MaxMoney}
	}
	return a + b, nil
}

func AddMoney(a int, b int) (int, bool) {
	sum, err := moneySum(a, b)
	return sum, err == nil
}

func SubMoney(a int, b int) (int, bool) {
	if !isMoney(a) || !isMoney(b) || a < b {
		return 0, false
	}
	return a - b, true
}

func AddSat(a int, b int) int {
	sum, err := moneySum(clampMoney(a), clampMoney(b))
	var over overflow
	if errors.As(err, &over) {
		return over.limit
	}
	return sum
}

func NumText(n int) string {
	if !isMoney(n) {
		return ""
	}
	return strconv.Itoa(n)
}

func isDigit(r rune) bool {
	return r >= '0' && r <= '9'
}

// scanMoney returns the money that s denotes, possibly with leading zeros.
func scanMoney(s string) (int, error) {
	if s == "" {
		return 0, errNotDigits
	}
	n := 0
	for _, r := range s {
		if !isDigit(r) {
			return 0, errNotDigits
		}
		d := int(r - '0')
		if n > (MaxMoney-d)/10 {
			return 0, overflow{MaxMoney}
		}
		n = 10*n + d
	}
	return n, nil
}

func TextNum(s string) (int, bool) {
	if len(s) > 1 && s[0] == '0' {
		return 0, false
	}
	n, err := scanMoney(s)
	return n, err == nil
}

func Digits(s string) bool {
	for _, r := range s {
		if !isDigit(r) {
			return false
		}
	}
	return s != ""
}

// Wide cannot build on NumText, which has no text for numbers above MaxMoney.
func Wide(n int, w int) string {
	if n < 0 || w < 1 || w > maxWidth {
		return ""
	}
	s := strconv.Itoa(n)
	if len(s) > w {
		return ""
	}
	return strings.Repeat("0", w-len(s)) + s
}

func Narrow(s string) (int, bool) {
	if len(s) > maxWidth {
		return 0, false
	}
	n, err := scanMoney(s)
	return n, err == nil
}

func Cut(s string) []string {
	return strings.Split(s, " ")
}

func Lines(s string) []string {
	l := strings.Split(s, "\n")
	last := len(l) - 1
	if l[last] == "" {
		return l[:last]
	}
	return l
}

func Fnv(s string) int {
	h := fnvStart
	for i := 0; i < len(s); i++ {
		h = (h ^ int(s[i])) * fnvPrime & lowest32
	}
	return h
}

func Luhn(s string) int {
	if !Digits(s) {
		return -1
	}
	// The last digit is a doubled one; so the first one is if their distance is even.
	double := len(s)%2 == 1
	sum := 0
	for _, r := range s {
		d := int(r - '0')
		if double {
			d = luhnDouble(d)
		}
		sum += d
		double = !double
	}
	return (10 - sum%10) % 10
}

func luhnDouble(d int) int {
	if d > 4 {
		return 2*d - 9
	}
	return 2 * d
}

func LuhnOk(s string) bool {
	if len(s) < 2 || !Digits(s) {
		return false
	}
	last := len(s) - 1
	return int(s[last]-'0') == Luhn(s[:last])
}
