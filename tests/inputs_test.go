package tests

import (
	"math"
	"strings"

	"loop.example/g00735/impl"
)

// edgeInts are the ends of the ranges that the document names, their neighbors, and the ends of int.
func edgeInts() []int {
	l := []int{math.MinInt, math.MinInt + 1, math.MaxInt - 1, math.MaxInt}
	for _, n := range []int{-impl.MaxMoney, 0, 10, 100, impl.MaxTime, 1 << 32, impl.MaxLimit, 999999999999999999, impl.MaxMoney / 2, impl.MaxMoney} {
		l = append(l, n-1, n, n+1)
	}
	return l
}

// stringsOf returns all strings of up to most of the parts.
func stringsOf(most int, parts ...string) []string {
	all := []string{""}
	last := all
	for range most {
		var next []string
		for _, s := range last {
			for _, p := range parts {
				next = append(next, s+p)
			}
		}
		all = append(all, next...)
		last = next
	}
	return all
}

// oddStrings are strings that are easily mistaken for digits, and strings that are not UTF-8.
func oddStrings() []string {
	return []string{
		" ", "\n", "+1", "-1", "1_0", "0x1", "1e3", "1.0", " 1", "1 ", "1\n", "1\x00", "12a", "a12", "1/2", "1:2",
		"\uff11", "1\uff11", "\u0661\u0662", "\u00b2", "\xff", "1\xff", "\xff1", "1\xc0\xb12", "\ufffd",
		strings.Repeat("9", 5000) + "x", strings.Repeat("\u00e9", 9),
	}
}

// numberStrings are strings of digits at the ends of the ranges that the document names.
func numberStrings() []string {
	l := []string{
		"4611686018427387903", "4611686018427387904", "4611686018427387905", "4611686018427387914", "04611686018427387904",
		"9223372036854775807", "9223372036854775808", "18446744073709551616", "18446744073709551617", "36893488147419103232",
		"9999999999999999999", "184467440737095516160",
	}
	for n := range 41 {
		l = append(l, strings.Repeat("0", n), strings.Repeat("9", n), strings.Repeat("0", n)+"7", "1"+strings.Repeat("0", n))
	}
	return append(l, strings.Repeat("0", 5000)+"1", strings.Repeat("1", 5000))
}

func manyStrings() []string {
	l := stringsOf(4, "0", "1", "9", "/", ":", "a", "\u0663")
	l = append(l, oddStrings()...)
	return append(l, numberStrings()...)
}
