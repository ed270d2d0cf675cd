package tests

import (
	"bytes"
	"fmt"
	"math"
	"math/big"
	"regexp"
	"slices"
	"strconv"
	"strings"
	"testing"

	"loop.example/g00735/impl"
)

var acctDigits = regexp.MustCompile(`\A[0-9]{2,19}\z`)

func acctIdOkByHand(s string) bool {
	return acctDigits.MatchString(s) && strings.HasSuffix(s, strconv.Itoa(luhnByHand(s[:len(s)-1])))
}

func limitByHand(n int) bool {
	return n >= 0 && n <= 9007199254740992
}

// usedByHand adds with big numbers, without a cap. It is for valid holds.
func usedByHand(posted int, l []impl.Hold) *big.Int {
	sum := big.NewInt(int64(posted))
	for _, h := range l {
		sum.Add(sum, big.NewInt(int64(h.Amount)))
	}
	return sum
}

func acctOkByHand(a impl.Acct) bool {
	return acctIdOkByHand(a.Id) && limitByHand(a.Limit) && limitByHand(a.MostSum) && a.Most >= 0 && a.Most <= 1000 && moneyByHand(a.Posted) &&
		holdsOkByHand(a.Holds) && ringOkByHand(a.Ring) && slotsOkByHand(a.Slots) &&
		usedByHand(a.Posted, a.Holds).Cmp(big.NewInt(int64(a.Limit))) <= 0
}

func roomByHand(a impl.Acct, now int) int {
	if !acctOkByHand(a) || !timeByHand(now) {
		return 0
	}
	used := usedByHand(a.Posted, liveByHand(a.Holds, now))
	return int(used.Sub(big.NewInt(int64(a.Limit)), used).Int64())
}

func sweptByHand(a impl.Acct, now int) impl.Acct {
	swept := clonedAcct(a)
	if acctOkByHand(a) && timeByHand(now) {
		swept.Holds = liveByHand(a.Holds, now)
	}
	return swept
}

func acctAtByHand(a impl.Acct, now int) impl.Acct {
	at := sweptByHand(a, now)
	if acctOkByHand(a) && timeByHand(now) {
		at.Ring = rollByHand(a.Ring, now)
	}
	return at
}

func clonedAcct(a impl.Acct) impl.Acct {
	a.Holds, a.Ring, a.Slots = slices.Clone(a.Holds), clonedRing(a.Ring), clonedSlots(a.Slots)
	return a
}

// acctText writes an account such that equal accounts, and only these, have one text.
func acctText(a impl.Acct) string {
	var b []byte
	number := func(n int) {
		b = append(strconv.AppendInt(b, int64(n), 10), ' ')
	}
	numbers := func(l []int) {
		number(len(l))
		for _, n := range l {
			number(n)
		}
	}
	b = strconv.AppendQuote(b, a.Id)
	numbers([]int{a.Limit, a.Posted, a.Most, a.MostSum, a.Ring.Span, a.Ring.Head})
	numbers(a.Ring.Counts)
	numbers(a.Ring.Sums)
	for _, h := range a.Holds {
		b = strconv.AppendQuote(b, h.Id)
		number(h.Amount)
		number(h.Due)
	}
	return string(b) + "/" + slotsText(a.Slots)
}

// someAcct has something of everything; 100 of its limit of 1000 are posted, and the holds reserve 7.
func someAcct() impl.Acct {
	return impl.Acct{
		Id: "79927398713", Limit: 1000, Posted: 100, Most: 9, MostSum: 5000,
		Holds: holdsWith("a", "b", "c"), Ring: ringWith(3, 5, 2), Slots: slotsFor("000001/0100", "000002/0100"),
	}
}

func changedAcct(change func(a *impl.Acct)) impl.Acct {
	a := someAcct()
	change(&a)
	return a
}

func acctWith(limit, posted int, l ...impl.Hold) impl.Acct {
	return changedAcct(func(a *impl.Acct) { a.Limit, a.Posted, a.Holds = limit, posted, l })
}

// candidates are accounts of which each part is taken from the good or odd ones of its layer, at and about the limit.
func candidates(holds [][]impl.Hold, rings []impl.Ring, slots [][]impl.Slot) []impl.Acct {
	var l []impl.Acct
	for _, some := range holds {
		stored := storedByHand(some)
		for _, posted := range []int{0, 7, 500} {
			for _, more := range []int{-1, 0, 1, 90} {
				l = append(l, acctWith(min(stored, impl.MaxLimit)+posted+more, posted, some...))
			}
		}
		l = append(l, acctWith(impl.MaxLimit, impl.MaxLimit-min(stored, impl.MaxLimit), some...))
	}
	for _, r := range rings {
		l = append(l, changedAcct(func(a *impl.Acct) { a.Ring = r }))
	}
	for _, some := range slots {
		l = append(l, changedAcct(func(a *impl.Acct) { a.Slots = some }))
	}
	return l
}

func goodAccts() []impl.Acct {
	const most = impl.MaxLimit
	l := []impl.Acct{
		someAcct(),
		{Id: "00", Ring: impl.Ring{Span: 1, Counts: []int{0}, Sums: []int{0}}},
		changedAcct(func(a *impl.Acct) { a.Id = strings.Repeat("0", 19) }),
		changedAcct(func(a *impl.Acct) { a.Most, a.MostSum = 0, 0 }),
		changedAcct(func(a *impl.Acct) { a.Most, a.MostSum = 1000, most }),
		changedAcct(func(a *impl.Acct) { a.Slots = fullSlots() }),
		acctWith(0, 0),
		acctWith(most, 0),
		acctWith(most, most),
		acctWith(most, most-1, hold("a", 1, 0)),
		acctWith(most, 0, hold("a", most, impl.MaxTime)),
		acctWith(most, 1, hold("a", 1, 5), hold("b", 1, 6), hold("c", 1, 7), hold("d", most-4, 8)),
	}
	l = append(l, candidates(goodHolds(), goodRings(), goodSlots())...)
	return slices.DeleteFunc(l, func(a impl.Acct) bool { return !acctOkByHand(a) })
}

func oddAccts() []impl.Acct {
	const most = impl.MaxMoney
	l := []impl.Acct{
		{},
		{Id: "18", Limit: 100},
		acctWith(0, 1),
		acctWith(0, 0, hold("a", 1, 0)),
		acctWith(impl.MaxLimit, impl.MaxLimit, hold("a", 1, 0)),
		acctWith(impl.MaxLimit, 1, hold("a", impl.MaxLimit, 0)),
		acctWith(impl.MaxLimit, impl.MaxLimit, hold("a", impl.MaxLimit, 9), hold("b", impl.MaxLimit, 9), hold("c", impl.MaxLimit, 9), hold("d", impl.MaxLimit, 9)),
		acctWith(100, most, hold("a", impl.MaxLimit, 9)),
		acctWith(100, math.MaxInt, hold("a", 1, 9)),
		acctWith(100, most, hold("a", most, 9)),
		acctWith(100, most, hold("a", most, 9), hold("b", most, 9)),
		acctWith(most, most),
		acctWith(100, 110, hold("a", -20, 9)),
		acctWith(100, -20, hold("a", 110, 9)),
	}
	for _, id := range []string{"", "0", "8", "17", "1 8", "18 ", "a18", "\u0661\u0668", strings.Repeat("0", 20)} {
		l = append(l, changedAcct(func(a *impl.Acct) { a.Id = id }))
	}
	for _, n := range edgeInts() {
		l = append(l,
			changedAcct(func(a *impl.Acct) { a.Limit = n }), changedAcct(func(a *impl.Acct) { a.Posted = n }),
			changedAcct(func(a *impl.Acct) { a.Most = n }), changedAcct(func(a *impl.Acct) { a.MostSum = n }))
	}
	l = append(l, candidates(allHolds(), oddRings(), oddSlots())...)
	return slices.DeleteFunc(l, acctOkByHand)
}

func allAccts() []impl.Acct {
	return slices.Concat(goodAccts(), oddAccts())
}

// fewAccts differ in everything that changes how long a part is or whether it is valid.
func fewAccts() []impl.Acct {
	l := []impl.Acct{
		someAcct(), {},
		acctWith(100, 20), acctWith(100, 20, hold("a", 80, 15)), acctWith(100, 20, hold("a", 80, 20)), acctWith(100, 20, hold("a", 81, 15)),
		acctWith(100, 20, holdsWith("a", "b", "c", "d")...), acctWith(100, 20, holdsWith("a", "b", "c", "d", "e")...),
		changedAcct(func(a *impl.Acct) { a.Ring = ringWith(1, 5, 2) }),
		changedAcct(func(a *impl.Acct) { a.Ring = ringWith(8, 5, 2) }),
		changedAcct(func(a *impl.Acct) { a.Ring = ringWith(9, 5, 2) }),
		changedAcct(func(a *impl.Acct) { a.Ring = impl.Ring{} }),
		changedAcct(func(a *impl.Acct) { a.Slots = nil }),
		changedAcct(func(a *impl.Acct) { a.Slots = fullSlots() }),
		changedAcct(func(a *impl.Acct) { a.Slots = append(fullSlots(), slot("1", "2", "")) }),
		changedAcct(func(a *impl.Acct) { a.Id = "19" }),
	}
	return l
}

func TestP10AcctIdOkByExample(t *testing.T) {
	for s, want := range map[string]bool{
		"00": true, "18": true, "26": true, "79927398713": true, "4539578763621486": true,
		strings.Repeat("0", 19): true, "4111111111111111111": false, "4111111111111111": true,
		"": false, "0": false, "8": false, "27": false, "19": false, "79927398712": false,
		strings.Repeat("0", 20): false, strings.Repeat("0", 18) + "18": false, strings.Repeat("0", 17) + "18": true,
		" 18": false, "18 ": false, "1 8": false, "18\n": false, "1x": false, "+18": false, "-18": false, "\u0661\u0668": false, "\xff": false,
	} {
		if got := impl.AcctIdOk(s); got != want {
			t.Errorf("AcctIdOk(%q) = %v", s, got)
		}
	}
}

func checkAcctId(t *testing.T, s string) {
	t.Helper()
	want := acctIdOkByHand(s)
	if got := impl.AcctIdOk(s); got != want {
		t.Errorf("AcctIdOk(%q) = %v", s, got)
	}
	if got := impl.AcctOk(changedAcct(func(a *impl.Acct) { a.Id = s })); got != want {
		t.Errorf("AcctOk with the number %q = %v", s, got)
	}
	if a, ok := impl.AcctNew(s, 100, 3, 60, 4, 5); ok != want || ok && a.Id != s {
		t.Errorf("AcctNew with the number %q = %+v, %v", s, a, ok)
	}
}

func TestP10AcctIdOk(t *testing.T) {
	for _, s := range cardNumbers() {
		checkAcctId(t, s)
	}
	for n := range 30 {
		digits := digitsOf(n)
		for last := range 10 {
			checkAcctId(t, digits+strconv.Itoa(last))
			checkAcctId(t, strings.Repeat("9", n)+strconv.Itoa(last))
		}
	}
	for _, s := range slices.Concat(everyByteIn("18"), everyByteIn("0000000000000000018"), everyByteIn("4539578763621486")) {
		checkAcctId(t, s)
	}
}

func TestP10AcctNewByExample(t *testing.T) {
	a, ok := impl.AcctNew("18", 100, 3, 60, 2, 5)
	want := impl.Acct{Id: "18", Limit: 100, Most: 3, MostSum: 60, Ring: impl.Ring{Span: 5, Counts: []int{0, 0}, Sums: []int{0, 0}}}
	if !ok || acctText(a) != acctText(want) {
		t.Errorf("AcctNew = %+v, %v", a, ok)
	}
	for name, made := range map[string]func() (impl.Acct, bool){
		"no number":             func() (impl.Acct, bool) { return impl.AcctNew("", 100, 3, 60, 2, 5) },
		"a wrong digit":         func() (impl.Acct, bool) { return impl.AcctNew("19", 100, 3, 60, 2, 5) },
		"a negative limit":      func() (impl.Acct, bool) { return impl.AcctNew("18", -1, 3, 60, 2, 5) },
		"too large a limit":     func() (impl.Acct, bool) { return impl.AcctNew("18", impl.MaxLimit+1, 3, 60, 2, 5) },
		"a negative number":     func() (impl.Acct, bool) { return impl.AcctNew("18", 100, -1, 60, 2, 5) },
		"too many requests":     func() (impl.Acct, bool) { return impl.AcctNew("18", 100, 1001, 60, 2, 5) },
		"a negative sum":        func() (impl.Acct, bool) { return impl.AcctNew("18", 100, 3, -1, 2, 5) },
		"too large a sum":       func() (impl.Acct, bool) { return impl.AcctNew("18", 100, 3, impl.MaxLimit+1, 2, 5) },
		"no buckets":            func() (impl.Acct, bool) { return impl.AcctNew("18", 100, 3, 60, 0, 5) },
		"too many buckets":      func() (impl.Acct, bool) { return impl.AcctNew("18", 100, 3, 60, 9, 5) },
		"no span":               func() (impl.Acct, bool) { return impl.AcctNew("18", 100, 3, 60, 2, 0) },
		"too long a span":       func() (impl.Acct, bool) { return impl.AcctNew("18", 100, 3, 60, 2, 1001) },
		"buckets for the span":  func() (impl.Acct, bool) { return impl.AcctNew("18", 100, 3, 60, 1000, 8) },
		"the limit as a number": func() (impl.Acct, bool) { return impl.AcctNew("18", 3, 2000, 60, 2, 5) },
	} {
		if a, ok := made(); ok || acctText(a) != acctText(impl.Acct{}) {
			t.Errorf("%s: AcctNew = %+v, %v", name, a, ok)
		}
	}
}

func checkAcctNew(t *testing.T, id string, limit, most, mostSum, buckets, span int) {
	t.Helper()
	want := impl.Acct{Id: id, Limit: limit, Most: most, MostSum: mostSum, Ring: impl.Ring{Span: span}}
	if buckets >= 0 && buckets <= 9 {
		want.Ring.Counts, want.Ring.Sums = make([]int, buckets), make([]int, buckets)
	}
	wantOk := acctOkByHand(want)
	if !wantOk {
		want = impl.Acct{}
	}
	got, ok := impl.AcctNew(id, limit, most, mostSum, buckets, span)
	if ok != wantOk || acctText(got) != acctText(want) || ok && !impl.AcctOk(got) {
		t.Errorf("AcctNew(%q, %d, %d, %d, %d, %d) = %+v, %v", id, limit, most, mostSum, buckets, span, got, ok)
	}
}

func TestP10AcctNew(t *testing.T) {
	for _, n := range append(edgeInts(), 2, 7, 8, 500, 999, 1000, 1001, 1002) {
		checkAcctNew(t, "18", n, 3, 60, 4, 5)
		checkAcctNew(t, "18", 100, n, 60, 4, 5)
		checkAcctNew(t, "18", 100, 3, n, 4, 5)
		checkAcctNew(t, "18", 100, 3, 60, n, 5)
		checkAcctNew(t, "18", 100, 3, 60, 4, n)
	}
	limits := []int{-1, 0, impl.MaxLimit, impl.MaxLimit + 1}
	for _, id := range []string{"", "18", "19", strings.Repeat("0", 19), strings.Repeat("0", 20)} {
		for _, limit := range limits {
			for _, mostSum := range limits {
				for _, most := range []int{-1, 0, 1000, 1001} {
					for _, buckets := range []int{0, 1, 8, 9} {
						for _, span := range []int{0, 1, 1000, 1001} {
							checkAcctNew(t, id, limit, most, mostSum, buckets, span)
						}
					}
				}
			}
		}
	}
}

func TestP10AcctOkByExample(t *testing.T) {
	for name, c := range map[string]struct {
		a    impl.Acct
		want bool
	}{
		"ordinary":             {someAcct(), true},
		"the zero value":       {impl.Acct{}, false},
		"no number":            {changedAcct(func(a *impl.Acct) { a.Id = "" }), false},
		"a wrong digit":        {changedAcct(func(a *impl.Acct) { a.Id = "79927398714" }), false},
		"a negative limit":     {acctWith(-1, 0), false},
		"no limit":             {acctWith(0, 0), true},
		"the greatest limit":   {acctWith(9007199254740992, 0), true},
		"too large a limit":    {acctWith(9007199254740993, 0), false},
		"all posted":           {acctWith(100, 100), true},
		"too much posted":      {acctWith(100, 101), false},
		"negative postings":    {acctWith(100, -1), false},
		"no requests":          {changedAcct(func(a *impl.Acct) { a.Most = 0 }), true},
		"1000 requests":        {changedAcct(func(a *impl.Acct) { a.Most = 1000 }), true},
		"1001 requests":        {changedAcct(func(a *impl.Acct) { a.Most = 1001 }), false},
		"negative requests":    {changedAcct(func(a *impl.Acct) { a.Most = -1 }), false},
		"no sum":               {changedAcct(func(a *impl.Acct) { a.MostSum = 0 }), true},
		"the greatest sum":     {changedAcct(func(a *impl.Acct) { a.MostSum = 9007199254740992 }), true},
		"too large a sum":      {changedAcct(func(a *impl.Acct) { a.MostSum = 9007199254740993 }), false},
		"a negative sum":       {changedAcct(func(a *impl.Acct) { a.MostSum = -1 }), false},
		"a sum over the limit": {changedAcct(func(a *impl.Acct) { a.MostSum = a.Limit + 1 }), true},
		"a descending hold":    {acctWith(100, 0, holdsWith("b", "a")...), false},
		"five holds":           {acctWith(100, 0, holdsWith("a", "b", "c", "d", "e")...), false},
		"no ring":              {changedAcct(func(a *impl.Acct) { a.Ring = impl.Ring{} }), false},
		"more counted than Most and MostSum": {changedAcct(func(a *impl.Acct) {
			a.Ring.Counts, a.Ring.Sums = []int{10, 0, 0}, []int{9000, 0, 0}
		}), true},
		"no slots":         {changedAcct(func(a *impl.Acct) { a.Slots = nil }), true},
		"a slot twice":     {changedAcct(func(a *impl.Acct) { a.Slots = slotsFor("000001/0100", "000001/0100") }), false},
		"six slots":        {changedAcct(func(a *impl.Acct) { a.Slots = fullSlots() }), true},
		"seven slots":      {changedAcct(func(a *impl.Acct) { a.Slots = append(fullSlots(), slot("000009", "0100", "x")) }), false},
		"a slot not valid": {changedAcct(func(a *impl.Acct) { a.Slots = slotsFor("1/0100") }), false},
	} {
		if got := impl.AcctOk(c.a); got != c.want {
			t.Errorf("%s: AcctOk(%+v) = %v", name, c.a, got)
		}
	}
}

func TestP10AcctOk(t *testing.T) {
	for _, a := range allAccts() {
		if got, want := impl.AcctOk(a), acctOkByHand(a); got != want {
			t.Errorf("AcctOk(%+v) = %v", a, got)
		}
	}
	lists := [][]impl.Hold{nil, holdsWith("a"), holdsWith("a", "b", "c", "d"), {hold("a", impl.MaxLimit-1, 7)}, {hold("a", impl.MaxLimit, 7), hold("b", impl.MaxLimit, 7)}}
	for _, limit := range edgeInts() {
		for _, posted := range edgeInts() {
			for _, holds := range lists {
				a := acctWith(limit, posted, holds...)
				if got, want := impl.AcctOk(a), acctOkByHand(a); got != want {
					t.Errorf("AcctOk(%+v) = %v", a, got)
				}
			}
		}
	}
}

func TestP2AllHoldsCountForTheLimit(t *testing.T) {
	for _, due := range []int{0, 1, 50, impl.MaxTime} {
		holds := []impl.Hold{hold("a", 30, due), hold("b", 40, 0), hold("c", 5, impl.MaxTime)}
		for posted := range 60 {
			a := acctWith(100, posted, holds...)
			if got, want := impl.AcctOk(a), posted <= 25; got != want {
				t.Errorf("AcctOk with %d posted and 75 held, due at %d, is %v", posted, due, got)
			}
			if got := impl.Room(a, 60); posted > 25 && got != 0 {
				t.Errorf("beyond its limit an account has room for %d", got)
			}
		}
	}
}

// TestP2NoSumOfPostedAndHeldIsTooLarge has sums that are no money, and sums that no int holds.
func TestP2NoSumOfPostedAndHeldIsTooLarge(t *testing.T) {
	const limit, most = impl.MaxLimit, impl.MaxMoney
	full := []impl.Hold{hold("a", limit, 9), hold("b", limit, 9), hold("c", limit, 9), hold("d", limit, 9)}
	for n := 1; n <= len(full); n++ {
		for _, posted := range []int{1, limit, limit + 1, most - n*limit, most - 1, most, most + 1, math.MaxInt - n*limit, math.MaxInt} {
			for _, bound := range []int{0, limit, most, math.MaxInt} {
				a := acctWith(bound, posted, full[:n]...)
				if impl.AcctOk(a) || impl.Room(a, 0) != 0 || impl.Room(a, 9) != 0 {
					t.Errorf("%+v is valid or has room", a)
				}
			}
		}
	}
}

func TestP2RoomByExample(t *testing.T) {
	a := acctWith(100, 30, hold("a", 20, 5), hold("b", 7, 9))
	for _, c := range []struct{ now, want int }{
		{0, 43}, {4, 43}, {5, 63}, {8, 63}, {9, 70}, {10, 70}, {impl.MaxTime, 70},
		{-1, 0}, {impl.MaxTime + 1, 0}, {math.MinInt, 0}, {math.MaxInt, 0},
	} {
		if got := impl.Room(a, c.now); got != c.want {
			t.Errorf("Room at %d = %d; want %d", c.now, got, c.want)
		}
	}
	for name, odd := range map[string]impl.Acct{
		"over the limit":          acctWith(100, 74, hold("a", 20, 5), hold("b", 7, 9)),
		"over the limit, all due": acctWith(100, 99, hold("a", 2, 0)),
		"a wrong digit":           changedAcct(func(a *impl.Acct) { a.Id = "79927398714" }),
		"a ring not valid":        changedAcct(func(a *impl.Acct) { a.Ring.Span = 0 }),
		"a slot not valid":        changedAcct(func(a *impl.Acct) { a.Slots = slotsFor("1/0100") }),
		"the zero value":          {},
	} {
		if got := impl.Room(odd, 9); got != 0 {
			t.Errorf("%s: Room = %d", name, got)
		}
	}
}

// acctTimes are the times at which something expires or leaves the window, times about these, and numbers that are no times.
func acctTimes(a impl.Acct) []int {
	l := append(timesAround(a.Ring), timesToTry()...)
	slices.Sort(l)
	return slices.Compact(l)
}

func checkAcctAt(t *testing.T, a impl.Acct, now int) {
	t.Helper()
	if got, want := impl.Room(a, now), roomByHand(a, now); got != want {
		t.Errorf("Room(%+v, %d) = %d; want %d", a, now, got, want)
	}
	if got, want := impl.AcctSwept(a, now), sweptByHand(a, now); acctText(got) != acctText(want) {
		t.Errorf("AcctSwept(%+v, %d) = %+v", a, now, got)
	}
	if got, want := impl.AcctAt(a, now), acctAtByHand(a, now); acctText(got) != acctText(want) {
		t.Errorf("AcctAt(%+v, %d) = %+v", a, now, got)
	}
}

func TestP10AcctsAtAllTimes(t *testing.T) {
	for _, a := range goodAccts() {
		for _, now := range acctTimes(a) {
			checkAcctAt(t, a, now)
		}
	}
}

func TestP10InvalidAcctsAreOnlyCopied(t *testing.T) {
	for _, a := range oddAccts() {
		text := acctText(a)
		for _, now := range []int{-1, 0, 10, 15, 20, 30, 1000, impl.MaxTime, impl.MaxTime + 1} {
			if got := impl.AcctSwept(a, now); acctText(got) != text {
				t.Errorf("AcctSwept(%+v, %d) = %+v", a, now, got)
			}
			if got := impl.AcctAt(a, now); acctText(got) != text {
				t.Errorf("AcctAt(%+v, %d) = %+v", a, now, got)
			}
			if got := impl.Room(a, now); got != 0 {
				t.Errorf("Room(%+v, %d) = %d", a, now, got)
			}
		}
	}
}

func TestP10AcctAtByExample(t *testing.T) {
	a := acctWith(100, 30, hold("a", 20, 10), hold("b", 7, 30))
	a.Ring = impl.Ring{Span: 10, Head: 1, Counts: []int{2, 1}, Sums: []int{27, 9}}
	for _, c := range []struct {
		now          int
		holds        []impl.Hold
		head         int
		counts, sums []int
	}{
		{0, a.Holds, 1, []int{2, 1}, []int{27, 9}},
		{9, a.Holds, 1, []int{2, 1}, []int{27, 9}},
		{10, a.Holds[1:], 1, []int{2, 1}, []int{27, 9}},
		{20, a.Holds[1:], 2, []int{0, 2}, []int{0, 27}},
		{29, a.Holds[1:], 2, []int{0, 2}, []int{0, 27}},
		{30, nil, 3, []int{0, 0}, []int{0, 0}},
		{-1, a.Holds, 1, []int{2, 1}, []int{27, 9}},
		{impl.MaxTime + 1, a.Holds, 1, []int{2, 1}, []int{27, 9}},
	} {
		want := clonedAcct(a)
		want.Holds = c.holds
		if got := impl.AcctSwept(a, c.now); acctText(got) != acctText(want) {
			t.Errorf("AcctSwept at %d = %+v", c.now, got)
		}
		want.Ring = impl.Ring{Span: 10, Head: c.head, Counts: c.counts, Sums: c.sums}
		if got := impl.AcctAt(a, c.now); acctText(got) != acctText(want) {
			t.Errorf("AcctAt at %d = %+v", c.now, got)
		}
	}
}

// TestP2RoomIsWhatCanBeReserved checks that the room, and nothing above it, can be held or posted once the expired holds are gone.
func TestP2RoomIsWhatCanBeReserved(t *testing.T) {
	for _, a := range goodAccts() {
		for _, now := range []int{0, 9, 10, 20, 25, 40, impl.MaxTime} {
			room, swept := impl.Room(a, now), impl.AcctSwept(a, now)
			if room < 0 || room > a.Limit || !impl.AcctOk(swept) {
				t.Fatalf("at %d, %+v has room for %d", now, a, room)
			}
			for amount, want := range map[int]bool{room: true, room + 1: false} {
				posted := swept
				posted.Posted += amount
				if impl.AcctOk(posted) != want {
					t.Errorf("with room for %d, posting %d is valid: %v", room, amount, !want)
				}
				held := swept
				put, ok := impl.HoldPut(swept.Holds, hold("zzz", amount, now))
				held.Holds = put
				if ok && impl.AcctOk(held) != want {
					t.Errorf("with room for %d, holding %d is valid: %v", room, amount, !want)
				}
			}
		}
	}
}

func TestP2SweepingKeepsPostingsAndLiveHolds(t *testing.T) {
	for _, a := range goodAccts() {
		for _, now := range acctTimes(a) {
			for _, got := range []impl.Acct{impl.AcctSwept(a, now), impl.AcctAt(a, now)} {
				if got.Posted != a.Posted || got.Limit != a.Limit || !impl.AcctOk(got) {
					t.Errorf("%+v at %d is %+v", a, now, got)
				}
				for _, h := range a.Holds {
					if h.Due > now && !slices.Contains(got.Holds, h) {
						t.Errorf("%+v at %d loses the hold %s", a, now, h.Id)
					}
				}
				if got.Posted+impl.Stored(got.Holds) > a.Posted+impl.Stored(a.Holds) {
					t.Errorf("%+v at %d uses more: %+v", a, now, got)
				}
			}
		}
	}
}

func TestP7SweepingAnAcctIsNotObservable(t *testing.T) {
	times := []int{0, 4, 5, 9, 10, 14, 15, 19, 20, 24, 25, 30, 35, 40, 1000, impl.MaxTime}
	for _, a := range goodAccts() {
		for i, early := range times {
			swept, at := impl.AcctSwept(a, early), impl.AcctAt(a, early)
			for _, late := range times[i:] {
				want := acctText(impl.AcctAt(a, late))
				if acctText(impl.AcctAt(swept, late)) != want || acctText(impl.AcctAt(at, late)) != want {
					t.Errorf("%+v swept at %d differs at %d", a, early, late)
				}
				room := impl.Room(a, late)
				if impl.Room(swept, late) != room || impl.Room(at, late) != room {
					t.Errorf("%+v swept at %d has other room at %d", a, early, late)
				}
			}
		}
	}
}

// acctChanges are changes after each of which an account like someAcct is another one.
func acctChanges() map[string]func(a *impl.Acct) {
	return map[string]func(a *impl.Acct){
		"Id":                  func(a *impl.Acct) { a.Id = "18" },
		"a zero before Id":    func(a *impl.Acct) { a.Id = "0" + a.Id },
		"Limit":               func(a *impl.Acct) { a.Limit++ },
		"Posted":              func(a *impl.Acct) { a.Posted++ },
		"Most":                func(a *impl.Acct) { a.Most++ },
		"MostSum":             func(a *impl.Acct) { a.MostSum++ },
		"Limit and Posted":    func(a *impl.Acct) { a.Limit, a.Posted = a.Posted, a.Limit },
		"Most and MostSum":    func(a *impl.Acct) { a.Most, a.MostSum = a.MostSum, a.Most },
		"no holds":            func(a *impl.Acct) { a.Holds = nil },
		"a hold less":         func(a *impl.Acct) { a.Holds = a.Holds[:2] },
		"the first hold less": func(a *impl.Acct) { a.Holds = a.Holds[1:] },
		"a hold more":         func(a *impl.Acct) { a.Holds = append(a.Holds, impl.Hold{}) },
		"holds exchanged":     func(a *impl.Acct) { slices.Reverse(a.Holds) },
		"an Id of a hold":     func(a *impl.Acct) { a.Holds[2].Id = "d" },
		"an Amount":           func(a *impl.Acct) { a.Holds[1].Amount++ },
		"a Due":               func(a *impl.Acct) { a.Holds[0].Due++ },
		"Span":                func(a *impl.Acct) { a.Ring.Span++ },
		"Head":                func(a *impl.Acct) { a.Ring.Head++ },
		"a count":             func(a *impl.Acct) { a.Ring.Counts[2]++ },
		"a count less":        func(a *impl.Acct) { a.Ring.Counts = a.Ring.Counts[:2] },
		"no counts":           func(a *impl.Acct) { a.Ring.Counts = nil },
		"a sum":               func(a *impl.Acct) { a.Ring.Sums[0]++ },
		"a sum more":          func(a *impl.Acct) { a.Ring.Sums = append(a.Ring.Sums, 0) },
		"counts and sums":     func(a *impl.Acct) { a.Ring.Counts, a.Ring.Sums = a.Ring.Sums, a.Ring.Counts },
		"no slots":            func(a *impl.Acct) { a.Slots = nil },
		"a slot less":         func(a *impl.Acct) { a.Slots = a.Slots[:1] },
		"a slot more":         func(a *impl.Acct) { a.Slots = append(a.Slots, impl.Slot{}) },
		"slots exchanged":     func(a *impl.Acct) { slices.Reverse(a.Slots) },
		"a trace":             func(a *impl.Acct) { a.Slots[1].Trace = "000003" },
		"a type":              func(a *impl.Acct) { a.Slots[0].Mti = "0200" },
		"a reply":             func(a *impl.Acct) { a.Slots[1].Reply[0]++ },
		"a longer reply":      func(a *impl.Acct) { a.Slots[1].Reply = append(a.Slots[1].Reply, 0) },
		"everything":          func(a *impl.Acct) { *a = impl.Acct{} },
	}
}

func TestP10AcctSameSeesEveryField(t *testing.T) {
	a := someAcct()
	if !impl.AcctSame(a, a) || !impl.AcctSame(a, someAcct()) {
		t.Error("an account is not the same as itself")
	}
	for name, change := range acctChanges() {
		b := changedAcct(change)
		if impl.AcctSame(a, b) || impl.AcctSame(b, a) {
			t.Errorf("%s: AcctSame does not see the change", name)
		}
		if !impl.AcctSame(b, changedAcct(change)) {
			t.Errorf("%s: %+v is not the same as itself", name, b)
		}
	}
}

func TestP10AcctSameTakesNoListForAnEmptyOne(t *testing.T) {
	without := impl.Acct{Id: "18", Limit: 7}
	empty := impl.Acct{Id: "18", Limit: 7, Holds: []impl.Hold{}, Ring: impl.Ring{Counts: []int{}, Sums: []int{}}, Slots: []impl.Slot{}}
	if !impl.AcctSame(without, empty) || !impl.AcctSame(empty, without) {
		t.Error("nil differs from an empty list")
	}
	without.Slots, empty.Slots = []impl.Slot{{Reply: nil}}, []impl.Slot{{Reply: []byte{}}}
	if !impl.AcctSame(without, empty) || !impl.AcctSame(empty, without) {
		t.Error("no reply differs from an empty one")
	}
}

func TestP10AcctSame(t *testing.T) {
	l := fewAccts()
	for i, a := range allAccts() {
		if i%7 == 0 {
			l = append(l, a)
		}
	}
	var texts []string
	for _, a := range l {
		texts = append(texts, acctText(a))
	}
	for i, a := range l {
		for j, b := range l {
			if got := impl.AcctSame(a, b); got != (texts[i] == texts[j]) {
				t.Errorf("AcctSame(%+v, %+v) = %v", a, b, got)
			}
		}
		if !impl.AcctSame(a, clonedAcct(a)) {
			t.Errorf("%+v is not the same as a copy", a)
		}
	}
}

// acctMemory is an account with all of its memory, which goes on behind every list.
type acctMemory struct {
	acct   impl.Acct
	holds  []impl.Hold
	counts []int
	sums   []int
	slots  slotMemory
}

func acctInMemory(a impl.Acct) acctMemory {
	m := acctMemory{acct: a, slots: slotsInMemory(a.Slots)}
	m.acct.Holds, m.holds = withHoldsBehind(a.Holds)
	m.acct.Ring.Counts, m.counts = withIntsBehind(a.Ring.Counts)
	m.acct.Ring.Sums, m.sums = withIntsBehind(a.Ring.Sums)
	m.acct.Slots = m.slots.list
	return m
}

func (m acctMemory) text() string {
	return fmt.Sprintf("%+v %v %v ", m.holds, m.counts, m.sums) + m.slots.text()
}

// spoilAcct overwrites everything that an account gives access to.
func spoilAcct(a impl.Acct) {
	spoilHolds(a.Holds)
	spoil(a.Ring.Counts)
	spoil(a.Ring.Sums)
	for i := range a.Slots {
		spoilBytes(a.Slots[i].Reply)
	}
	clear(a.Slots[:cap(a.Slots)])
}

// acctMakers are all ways to get an account.
func acctMakers() map[string]func(a impl.Acct) impl.Acct {
	l := map[string]func(a impl.Acct) impl.Acct{
		"AcctNew": func(impl.Acct) impl.Acct { a, _ := impl.AcctNew("18", 100, 3, 60, 4, 5); return a },
	}
	for _, now := range []int{-1, 0, 10, 15, 20, 1000} {
		l["AcctSwept at "+strconv.Itoa(now)] = func(a impl.Acct) impl.Acct { return impl.AcctSwept(a, now) }
		l["AcctAt at "+strconv.Itoa(now)] = func(a impl.Acct) impl.Acct { return impl.AcctAt(a, now) }
	}
	return l
}

func TestP10AcctsAreNewMemory(t *testing.T) {
	for name, made := range acctMakers() {
		for _, a := range slices.Concat(fewAccts(), oddAccts()) {
			m := acctInMemory(a)
			before := m.text()
			one, two := made(m.acct), made(m.acct)
			if m.text() != before {
				t.Errorf("%s changes its argument %+v", name, a)
			}
			want := acctText(two)
			spoilAcct(one)
			if acctText(two) != want {
				t.Errorf("%s: two results share memory: %+v", name, a)
			}
			if m.text() != before {
				t.Errorf("%s: a result shares memory with its argument %+v", name, a)
			}
		}
	}
}

func TestP10AcctsWhoseListsAreOne(t *testing.T) {
	for name, made := range acctMakers() {
		for _, head := range []int{2, -1} {
			numbers, reply := []int{1, 2, 3}, []byte("one reply")
			a := changedAcct(func(a *impl.Acct) {
				a.Ring = impl.Ring{Span: 5, Head: head, Counts: numbers, Sums: numbers}
				a.Slots = []impl.Slot{{Trace: "000001", Mti: "0100", Reply: reply}, {Trace: "000002", Mti: "0100", Reply: reply[:3]}}
			})
			got, want := made(a), made(clonedAcct(a))
			if acctText(got) != acctText(want) {
				t.Errorf("%s = %+v; want %+v", name, got, want)
			}
			spoil(got.Ring.Counts)
			if !slices.Equal(got.Ring.Sums, want.Ring.Sums) {
				t.Errorf("%s: the counts and the sums of the result share memory", name)
			}
			for i := range got.Slots {
				if !bytes.Equal(got.Slots[i].Reply, want.Slots[i].Reply) {
					t.Errorf("%s: the replies of the result share memory", name)
				}
				spoilBytes(got.Slots[i].Reply)
			}
			if !slices.Equal(numbers, []int{1, 2, 3}) || string(reply) != "one reply" {
				t.Errorf("%s: the argument is now %v, %q", name, numbers, reply)
			}
		}
	}
}

func TestP10AcctAnswersLeaveTheirArguments(t *testing.T) {
	for _, a := range slices.Concat(fewAccts(), oddAccts()) {
		m := acctInMemory(a)
		before := m.text()
		impl.AcctOk(m.acct)
		impl.AcctSame(m.acct, m.acct)
		impl.AcctSame(m.acct, someAcct())
		for _, now := range timesToTry() {
			impl.Room(m.acct, now)
		}
		if m.text() != before {
			t.Errorf("the account %+v has changed", a)
		}
	}
}
