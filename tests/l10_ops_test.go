package tests

import (
	"fmt"
	"maps"
	"math"
	"slices"
	"strings"
	"testing"

	"loop.example/g00735/impl"
)

// refusal is a condition and the code with which it refuses.
type refusal struct {
	code    int
	applies bool
}

func firstRefusal(l ...refusal) int {
	for _, r := range l {
		if r.applies {
			return r.code
		}
	}
	return impl.RsOk
}

// call has the arguments of an operation on an account; each operation uses some of them.
type call struct {
	id     string
	amount int
	ttl    int
	last   bool
	now    int
}

func formByHand(a impl.Acct, c call) refusal {
	return refusal{impl.RsForm, !acctOkByHand(a) || !timeByHand(c.now) || !holdIds.MatchString(c.id)}
}

func amountByHand(n int) refusal {
	return refusal{impl.RsBad, n < 1 || n > 9007199254740992}
}

func holdByHand(l []impl.Hold, id string) (impl.Hold, bool) {
	for _, h := range l {
		if h.Id == id {
			return h, true
		}
	}
	return impl.Hold{}, false
}

func limitsByHand(swept impl.Acct, c call) []refusal {
	count, sum := totalsByHand(swept.Ring, c.now)
	return []refusal{
		{impl.RsFunds, c.amount > roomByHand(swept, c.now)},
		{impl.RsCount, count >= swept.Most},
		{impl.RsSum, cappedSum(sum, c.amount) > swept.MostSum},
	}
}

func putHold(a impl.Acct, h impl.Hold) impl.Acct {
	a.Holds, _ = holdPutByHand(a.Holds, h)
	return a
}

func authorizeByHand(a impl.Acct, c call) (impl.Acct, int) {
	swept := sweptByHand(a, c.now)
	_, held := holdByHand(swept.Holds, c.id)
	code := firstRefusal(slices.Concat([]refusal{
		formByHand(a, c),
		amountByHand(c.amount),
		{impl.RsBad, c.ttl < 1 || c.ttl > 9999 || c.ttl > 1000000000-c.now},
		{impl.RsTwice, held},
		{impl.RsFull, len(swept.Holds) == 4},
	}, limitsByHand(swept, c))...)
	if code != impl.RsOk {
		return impl.Acct{}, code
	}
	swept.Ring = addByHand(swept.Ring, c.now, c.amount)
	return putHold(swept, hold(c.id, c.amount, c.now+c.ttl)), impl.RsOk
}

func moreByHand(a impl.Acct, c call) (impl.Acct, int) {
	swept := sweptByHand(a, c.now)
	h, held := holdByHand(swept.Holds, c.id)
	l := []refusal{formByHand(a, c), amountByHand(c.amount), {impl.RsHold, !held}}
	code := firstRefusal(slices.Concat(l, limitsByHand(swept, c))...)
	if code != impl.RsOk {
		return impl.Acct{}, code
	}
	swept.Ring = addByHand(swept.Ring, c.now, c.amount)
	return putHold(swept, hold(h.Id, h.Amount+c.amount, h.Due)), impl.RsOk
}

func captureByHand(a impl.Acct, c call) (impl.Acct, int) {
	swept := sweptByHand(a, c.now)
	h, held := holdByHand(swept.Holds, c.id)
	code := firstRefusal(formByHand(a, c), amountByHand(c.amount), refusal{impl.RsHold, !held}, refusal{impl.RsFunds, c.amount > h.Amount})
	if code != impl.RsOk {
		return impl.Acct{}, code
	}
	swept.Posted += c.amount
	swept.Holds = dropByHand(swept.Holds, c.id)
	if h.Amount > c.amount && !c.last {
		swept = putHold(swept, hold(h.Id, h.Amount-c.amount, h.Due))
	}
	return swept, impl.RsOk
}

func freeByHand(a impl.Acct, c call) (impl.Acct, int) {
	swept := sweptByHand(a, c.now)
	_, held := holdByHand(swept.Holds, c.id)
	if code := firstRefusal(formByHand(a, c), refusal{impl.RsHold, !held}); code != impl.RsOk {
		return impl.Acct{}, code
	}
	swept.Holds = dropByHand(swept.Holds, c.id)
	return swept, impl.RsOk
}

func moveByHand(a, b impl.Acct, c call) (impl.Acct, impl.Acct, int) {
	from, to := sweptByHand(a, c.now), sweptByHand(b, c.now)
	h, held := holdByHand(from.Holds, c.id)
	_, taken := holdByHand(to.Holds, c.id)
	code := firstRefusal(
		formByHand(a, c), formByHand(b, c),
		refusal{impl.RsBad, a.Id == b.Id},
		refusal{impl.RsHold, !held},
		refusal{impl.RsTwice, taken},
		refusal{impl.RsFull, len(to.Holds) == 4},
		refusal{impl.RsFunds, h.Amount > roomByHand(to, c.now)},
	)
	if code != impl.RsOk {
		return impl.Acct{}, impl.Acct{}, code
	}
	from.Holds = dropByHand(from.Holds, c.id)
	return from, putHold(to, h), impl.RsOk
}

func sweepByHand(a impl.Acct, c call) (impl.Acct, int) {
	if !acctOkByHand(a) || !timeByHand(c.now) {
		return impl.Acct{}, impl.RsForm
	}
	return sweptByHand(a, c.now), impl.RsOk
}

func askByHand(a impl.Acct, now int) (string, int) {
	if !acctOkByHand(a) || !timeByHand(now) {
		return "", impl.RsForm
	}
	return fmt.Sprintf("%016d %016d", roomByHand(a, now), a.Posted), impl.RsOk
}

type change func(a impl.Acct, c call) (impl.Acct, int)

type operation struct {
	name string
	do   change
	hand change
}

// partner is the other account of a move.
func partner(l ...impl.Hold) impl.Acct {
	a := acctWith(500, 20, l...)
	a.Id = "26"
	return a
}

// partnerOf has a hold that can be moved as long as no other argument forbids it.
func partnerOf(c call) impl.Acct {
	return partner(hold(c.id, min(max(c.amount, 1), 480), 7000))
}

// operations are all functions that change an account; a move is one at each end.
func operations() []operation {
	return []operation{
		{"Authorize", func(a impl.Acct, c call) (impl.Acct, int) { return impl.Authorize(a, c.id, c.amount, c.ttl, c.now) }, authorizeByHand},
		{"More", func(a impl.Acct, c call) (impl.Acct, int) { return impl.More(a, c.id, c.amount, c.now) }, moreByHand},
		{"Capture", func(a impl.Acct, c call) (impl.Acct, int) { return impl.Capture(a, c.id, c.amount, c.last, c.now) }, captureByHand},
		{"Free", func(a impl.Acct, c call) (impl.Acct, int) { return impl.Free(a, c.id, c.now) }, freeByHand},
		{"Move from", func(a impl.Acct, c call) (impl.Acct, int) {
			x, _, code := impl.Move(a, partner(), c.id, c.now)
			return x, code
		}, func(a impl.Acct, c call) (impl.Acct, int) {
			x, _, code := moveByHand(a, partner(), c)
			return x, code
		}},
		{"Move to", func(a impl.Acct, c call) (impl.Acct, int) {
			_, y, code := impl.Move(partnerOf(c), a, c.id, c.now)
			return y, code
		}, func(a impl.Acct, c call) (impl.Acct, int) {
			_, y, code := moveByHand(partnerOf(c), a, c)
			return y, code
		}},
		{"Sweep", func(a impl.Acct, c call) (impl.Acct, int) { return impl.Sweep(a, c.now) }, sweepByHand},
	}
}

func checkCall(t *testing.T, a impl.Acct, c call) {
	t.Helper()
	for _, op := range operations() {
		got, code := op.do(a, c)
		want, wantCode := op.hand(a, c)
		if code != wantCode || acctText(got) != acctText(want) {
			t.Fatalf("%s of %+v with %+v = %+v, %d; want %+v, %d", op.name, a, c, got, code, want, wantCode)
		}
		if code == impl.RsOk && !impl.AcctOk(got) {
			t.Fatalf("%s of %+v with %+v is not valid: %+v", op.name, a, c, got)
		}
	}
	got, code := impl.Ask(a, c.now)
	if want, wantCode := askByHand(a, c.now); got != want || code != wantCode {
		t.Fatalf("Ask(%+v, %d) = %q, %d; want %q, %d", a, c.now, got, code, want, wantCode)
	}
}

// servedAccts are at and about each limit: of the amount, of the requests, of their sum and of the holds.
func servedAccts() []impl.Acct {
	const most = impl.MaxLimit
	l := append(fewAccts(),
		changedAcct(func(a *impl.Acct) { a.Holds = holdsWith("a", "b", "c", "d") }),
		changedAcct(func(a *impl.Acct) { a.Holds = holdsWith("b", "c", "d", "e") }),
		acctWith(most, 0), acctWith(most, most), acctWith(most, most-1),
		acctWith(most, 1, hold("a", most-2, 25)),
		acctWith(most, 0, hold("a", most, impl.MaxTime)),
		acctWith(most, most-1, hold("a", 1, 20)),
	)
	for _, n := range []int{0, 4, 5, 6, 7, 1000} {
		l = append(l, changedAcct(func(a *impl.Acct) { a.Most = n }))
	}
	for _, n := range []int{0, 99, 300, 301, 600, 601, 607, most} {
		l = append(l, changedAcct(func(a *impl.Acct) { a.MostSum = n }))
	}
	for _, more := range []int{0, 1, 2, 9} {
		l = append(l, acctWith(27+more, 20, holdsWith("a", "b", "c")...))
	}
	for _, r := range append(fullRings(), ringWith(2, 1000, impl.MaxTime), ringWith(2, 10, 0), ringWith(8, 1, 3)) {
		l = append(l, changedAcct(func(a *impl.Acct) { a.Ring, a.Most, a.MostSum = r, 1000, most }))
	}
	return l
}

// amountsAround are the amounts at the ends of their range, and at the ends of what the account permits.
func amountsAround(a impl.Acct, c call) []int {
	l := []int{math.MinInt, -1, 0, 1, 2, impl.MaxLimit - 1, impl.MaxLimit, impl.MaxLimit + 1, impl.MaxMoney, math.MaxInt}
	h, _ := holdByHand(a.Holds, c.id)
	_, sum := totalsByHand(a.Ring, c.now)
	for _, n := range []int{h.Amount, roomByHand(a, c.now), a.MostSum - sum} {
		l = append(l, n-1, n, n+1)
	}
	slices.Sort(l)
	return slices.Compact(l)
}

func TestP10ConstantsOfChapter11(t *testing.T) {
	if impl.MaxTtl != 9999 {
		t.Error("MaxTtl is", impl.MaxTtl)
	}
}

func TestP10OperationsWithEveryAmount(t *testing.T) {
	for _, a := range servedAccts() {
		for _, now := range []int{0, 10, 19, 20, 45} {
			for _, id := range []string{"a", "b", "d", "x"} {
				c := call{id: id, ttl: 30, now: now}
				for _, c.amount = range amountsAround(a, c) {
					c.last = !c.last
					checkCall(t, a, c)
				}
			}
		}
	}
}

func TestP10OperationsAtEveryTime(t *testing.T) {
	for i, a := range servedAccts() {
		for j, now := range acctTimes(a) {
			checkCall(t, a, call{[]string{"a", "b", "c", "x"}[(i+j)%4], 1, 1 + j%3, i%2 == 0, now})
		}
	}
	for i, a := range allAccts() {
		if i%5 == 0 {
			checkCall(t, a, call{"a", 1, 10, false, 9})
			checkCall(t, a, call{"x", 1, 10, true, 10})
		}
	}
}

func TestP10OperationsWithEveryId(t *testing.T) {
	l := goodHolds()
	for i, id := range slices.Concat(idsToTry(), oddStrings(), everyByteIn("a0z")) {
		for _, now := range []int{0, 10, 20} {
			checkCall(t, someAcct(), call{id, 1, 10, false, now})
			checkCall(t, acctWith(100, 0, l[i%len(l)]...), call{id, 2, 10, true, now})
		}
	}
	for _, holds := range l {
		for _, id := range []string{"0", "00", "aa", "b1", "z"} {
			checkCall(t, acctWith(impl.MaxLimit, 0, holds...), call{id, 1, 10, false, 5})
		}
	}
}

func TestP10AuthorizeForEveryTtl(t *testing.T) {
	latest := []int{impl.MaxTime - 9999, impl.MaxTime - 9998, impl.MaxTime - 1, impl.MaxTime}
	for _, now := range append(latest, -1, 0, 15, math.MinInt, math.MaxInt, impl.MaxTime+1) {
		for _, ttl := range append(edgeInts(), 2, 500, 9997, 9998, 9999, 10000, 10001, impl.MaxTime-now, impl.MaxTime-now+1) {
			checkCall(t, someAcct(), call{"x", 7, ttl, false, now})
		}
	}
}

// flags returns all lists of n flags.
func flags(n int) [][]bool {
	var l [][]bool
	for mask := range 1 << n {
		var some []bool
		for i := range n {
			some = append(some, mask>>i&1 == 1)
		}
		l = append(l, some)
	}
	return l
}

// refused returns the code of the first flag that is set.
func refused(set []bool, codes ...int) int {
	if i := slices.Index(set, true); i >= 0 {
		return codes[i]
	}
	return impl.RsOk
}

// crowded has the holds a to c, and d if full is set, for 10 each until 50, and as much room as is asked for.
func crowded(full bool, room int) impl.Acct {
	ids := "abc"
	if full {
		ids = "abcd"
	}
	a := impl.Acct{Id: "18", Posted: 5, Most: 3, MostSum: 120, Ring: impl.Ring{Span: 100, Counts: []int{2}, Sums: []int{100}}}
	for _, id := range ids {
		a.Holds = append(a.Holds, hold(string(id), 10, 50))
	}
	a.Limit = a.Posted + storedByHand(a.Holds) + room
	return a
}

// limited makes the conditions of the limit checks true or false for the amount 20, whose account has room for 20.
func limited(a impl.Acct, funds, count, sum bool) impl.Acct {
	if funds {
		a.Limit--
	}
	if count {
		a.Ring.Counts[0]++
	}
	if sum {
		a.Ring.Sums[0]++
	}
	return a
}

// checkCode takes zero values to be the result of every refusal.
func checkCode(t *testing.T, what string, got impl.Acct, code, want int) {
	t.Helper()
	if code != want || code != impl.RsOk && acctText(got) != acctText(impl.Acct{}) {
		t.Errorf("%s: %+v, %d; want %d", what, got, code, want)
	}
}

func TestP2AuthorizeIsRefusedByTheFirstCodeThatApplies(t *testing.T) {
	for _, f := range flags(10) {
		a, c := limited(crowded(f[6], 20), f[7], f[8], f[9]), call{"x", 20, 30, false, 40}
		if f[0] {
			a.Id = "19"
		}
		if f[1] {
			c.now = -1
		}
		if f[5] {
			c.id = "b"
		}
		if f[2] {
			c.id = "B"
		}
		if f[3] {
			c.amount = impl.MaxLimit + 1
		}
		if f[4] {
			c.ttl = 0
		}
		got, code := impl.Authorize(a, c.id, c.amount, c.ttl, c.now)
		want := refused(f, impl.RsForm, impl.RsForm, impl.RsForm, impl.RsBad, impl.RsBad, impl.RsTwice, impl.RsFull, impl.RsFunds, impl.RsCount, impl.RsSum)
		checkCode(t, fmt.Sprint("Authorize with ", f), got, code, want)
	}
}

func TestP2MoreIsRefusedByTheFirstCodeThatApplies(t *testing.T) {
	for _, f := range flags(8) {
		a, c := limited(crowded(true, 20), f[5], f[6], f[7]), call{"c", 20, 0, false, 40}
		if f[0] {
			a.Posted = a.Limit + 1
		}
		if f[1] {
			c.now = impl.MaxTime + 1
		}
		if f[4] {
			c.id = "x"
		}
		if f[2] {
			c.id = ""
		}
		if f[3] {
			c.amount = 0
		}
		got, code := impl.More(a, c.id, c.amount, c.now)
		want := refused(f, impl.RsForm, impl.RsForm, impl.RsForm, impl.RsBad, impl.RsHold, impl.RsFunds, impl.RsCount, impl.RsSum)
		checkCode(t, fmt.Sprint("More with ", f), got, code, want)
	}
}

func TestP2CaptureAndFreeAreRefusedByTheFirstCodeThatApplies(t *testing.T) {
	for _, f := range flags(6) {
		a, c := crowded(true, 0), call{"c", 10, 0, f[5], 40}
		if f[5] {
			c.amount = 11
		}
		if f[0] {
			a.Slots = slotsFor("1/0100")
		}
		if f[1] {
			c.now = -1
		}
		if f[4] {
			c.id = "x"
		}
		if f[2] {
			c.id = "a b"
		}
		if f[3] {
			c.amount = impl.MaxLimit + 1
		}
		got, code := impl.Capture(a, c.id, c.amount, c.last, c.now)
		want := refused(f, impl.RsForm, impl.RsForm, impl.RsForm, impl.RsBad, impl.RsHold, impl.RsFunds)
		checkCode(t, fmt.Sprint("Capture with ", f), got, code, want)
		got, code = impl.Free(a, c.id, c.now)
		f[3] = false
		checkCode(t, fmt.Sprint("Free with ", f), got, code, refused(f[:5], impl.RsForm, impl.RsForm, impl.RsForm, 0, impl.RsHold))
	}
}

func TestP2MoveIsRefusedByTheFirstCodeThatApplies(t *testing.T) {
	for _, f := range flags(9) {
		a, b, c := partner(hold("a", 10, 50), hold("x", 20, 50)), crowded(f[7], 20), call{"x", 0, 0, false, 40}
		if f[8] {
			b.Limit--
		}
		if f[6] {
			b.Holds[len(b.Holds)-1].Id = "x"
		}
		if f[5] {
			a.Holds = a.Holds[:1]
		}
		if f[4] {
			a.Id = b.Id
		}
		if f[0] {
			a.Limit = a.Posted + storedByHand(a.Holds) - 1
		}
		if f[1] {
			b.Ring.Span = 0
		}
		if f[2] {
			c.now = -1
		}
		if f[3] {
			c.id = "toolong"
		}
		x, y, code := impl.Move(a, b, c.id, c.now)
		want := refused(f, impl.RsForm, impl.RsForm, impl.RsForm, impl.RsForm, impl.RsBad, impl.RsHold, impl.RsTwice, impl.RsFull, impl.RsFunds)
		checkCode(t, fmt.Sprint("Move with ", f), x, code, want)
		checkCode(t, fmt.Sprint("Move with ", f), y, code, want)
	}
}

func TestP2AuthorizeByExample(t *testing.T) {
	a := acctWith(100, 30, hold("b", 20, 10), hold("d", 7, 30))
	a.Ring, a.Most, a.MostSum = impl.Ring{Span: 10, Head: 0, Counts: []int{2, 1}, Sums: []int{27, 9}}, 4, 70
	for _, c := range []struct {
		call
		code int
	}{
		{call{"c", 43, 1, false, 9}, impl.RsSum},
		{call{"c", 34, 1, false, 9}, impl.RsOk},
		{call{"c", 35, 1, false, 9}, impl.RsSum},
		{call{"c", 44, 1, false, 9}, impl.RsFunds},
		{call{"c", 43, 1, false, 10}, impl.RsOk},
		{call{"c", 44, 1, false, 10}, impl.RsSum},
		{call{"c", 64, 1, false, 10}, impl.RsFunds},
		{call{"c", 63, 1, false, 20}, impl.RsOk},
		{call{"b", 1, 1, false, 9}, impl.RsTwice},
		{call{"b", 1, 1, false, 10}, impl.RsOk},
		{call{"d", 1, 1, false, 29}, impl.RsTwice},
		{call{"d", 70, 1, false, 30}, impl.RsOk},
		{call{"d", 71, 1, false, 30}, impl.RsFunds},
		{call{"c", 0, 1, false, 9}, impl.RsBad},
		{call{"c", -1, 1, false, 9}, impl.RsBad},
		{call{"c", 1, 0, false, 9}, impl.RsBad},
		{call{"c", 1, 9999, false, 9}, impl.RsOk},
		{call{"c", 1, 10000, false, 9}, impl.RsBad},
		{call{"c", 1, 9999, false, impl.MaxTime - 9999}, impl.RsOk},
		{call{"c", 1, 9999, false, impl.MaxTime - 9998}, impl.RsBad},
		{call{"c", 1, 1, false, impl.MaxTime}, impl.RsBad},
		{call{"c", 1, 1, false, impl.MaxTime + 1}, impl.RsForm},
		{call{"c", 1, 1, false, -1}, impl.RsForm},
		{call{"C", 1, 1, false, 9}, impl.RsForm},
	} {
		got, code := impl.Authorize(a, c.id, c.amount, c.ttl, c.now)
		checkCode(t, fmt.Sprintf("Authorize with %+v", c), got, code, c.code)
	}
	got, _ := impl.Authorize(a, "c", 43, 5, 10)
	want := clonedAcct(a)
	want.Holds = []impl.Hold{hold("c", 43, 15), hold("d", 7, 30)}
	want.Ring = impl.Ring{Span: 10, Head: 1, Counts: []int{1, 2}, Sums: []int{43, 27}}
	if acctText(got) != acctText(want) {
		t.Errorf("Authorize = %+v", got)
	}
}

func TestP2AuthorizeWithAllHoldsInUse(t *testing.T) {
	a := acctWith(100, 0, holdsWith("a", "b", "c", "d")...)
	for now, want := range map[int]int{0: impl.RsFull, 9: impl.RsFull, 10: impl.RsOk, 39: impl.RsOk, 40: impl.RsOk} {
		got, code := impl.Authorize(a, "x", 1, 1, now)
		checkCode(t, fmt.Sprint("Authorize of a fifth hold at ", now), got, code, want)
	}
	if _, code := impl.Authorize(a, "a", 1, 1, 9); code != impl.RsTwice {
		t.Errorf("Authorize of one of four holds again: %d", code)
	}
}

func TestP2MoreByExample(t *testing.T) {
	a := acctWith(100, 30, hold("b", 20, 10), hold("d", 7, 30))
	a.Ring, a.Most, a.MostSum = impl.Ring{Span: 10, Head: 0, Counts: []int{2, 1}, Sums: []int{27, 9}}, 4, 70
	for _, c := range []struct {
		id                string
		amount, now, code int
	}{
		{"b", 34, 9, impl.RsOk}, {"b", 35, 9, impl.RsSum}, {"b", 43, 9, impl.RsSum}, {"b", 44, 9, impl.RsFunds},
		{"b", 34, 10, impl.RsHold}, {"c", 34, 9, impl.RsHold}, {"d", 43, 10, impl.RsOk}, {"d", 64, 10, impl.RsFunds},
		{"b", 0, 9, impl.RsBad}, {"c", 0, 9, impl.RsBad}, {"b", impl.MaxLimit, 9, impl.RsFunds}, {"b", impl.MaxLimit + 1, 9, impl.RsBad},
		{"b", 1, -1, impl.RsForm}, {"", 1, 9, impl.RsForm},
	} {
		got, code := impl.More(a, c.id, c.amount, c.now)
		checkCode(t, fmt.Sprintf("More with %+v", c), got, code, c.code)
	}
	got, _ := impl.More(a, "d", 43, 10)
	want := clonedAcct(a)
	want.Holds = []impl.Hold{hold("d", 50, 30)}
	want.Ring = impl.Ring{Span: 10, Head: 1, Counts: []int{1, 2}, Sums: []int{43, 27}}
	if acctText(got) != acctText(want) {
		t.Errorf("More = %+v", got)
	}
}

func TestP2CaptureByExample(t *testing.T) {
	b, d := hold("b", 20, 10), hold("d", 7, 30)
	a := acctWith(57, 30, b, d)
	a.Most, a.MostSum = 0, 0
	for _, c := range []struct {
		call
		code   int
		posted int
		holds  []impl.Hold
	}{
		{call{"b", 5, 0, false, 9}, impl.RsOk, 35, []impl.Hold{hold("b", 15, 10), d}},
		{call{"b", 5, 0, true, 9}, impl.RsOk, 35, []impl.Hold{d}},
		{call{"b", 19, 0, false, 9}, impl.RsOk, 49, []impl.Hold{hold("b", 1, 10), d}},
		{call{"b", 20, 0, false, 9}, impl.RsOk, 50, []impl.Hold{d}},
		{call{"b", 20, 0, true, 9}, impl.RsOk, 50, []impl.Hold{d}},
		{call{"b", 21, 0, false, 9}, impl.RsFunds, 0, nil},
		{call{"b", 21, 0, true, 9}, impl.RsFunds, 0, nil},
		{call{"b", 1, 0, false, 10}, impl.RsHold, 0, nil},
		{call{"c", 1, 0, false, 9}, impl.RsHold, 0, nil},
		{call{"d", 7, 0, false, 10}, impl.RsOk, 37, nil},
		{call{"d", 1, 0, false, 10}, impl.RsOk, 31, []impl.Hold{hold("d", 6, 30)}},
		{call{"b", 0, 0, true, 9}, impl.RsBad, 0, nil},
		{call{"b", impl.MaxLimit + 1, 0, true, 9}, impl.RsBad, 0, nil},
		{call{"b", impl.MaxLimit, 0, true, 9}, impl.RsFunds, 0, nil},
		{call{"b", 1, 0, true, impl.MaxTime + 1}, impl.RsForm, 0, nil},
	} {
		got, code := impl.Capture(a, c.id, c.amount, c.last, c.now)
		want := impl.Acct{}
		if c.code == impl.RsOk {
			want = clonedAcct(a)
			want.Posted, want.Holds = c.posted, c.holds
		}
		if code != c.code || acctText(got) != acctText(want) {
			t.Errorf("Capture with %+v = %+v, %d", c.call, got, code)
		}
	}
}

func TestP10FreeAndSweepByExample(t *testing.T) {
	b, d := hold("b", 20, 10), hold("d", 7, 30)
	a := acctWith(57, 30, b, d)
	for _, c := range []struct {
		id   string
		now  int
		code int
		left []impl.Hold
	}{
		{"b", 9, impl.RsOk, []impl.Hold{d}}, {"d", 9, impl.RsOk, []impl.Hold{b}}, {"d", 10, impl.RsOk, nil},
		{"b", 10, impl.RsHold, nil}, {"d", 30, impl.RsHold, nil}, {"c", 9, impl.RsHold, nil},
		{"b", -1, impl.RsForm, nil}, {"b ", 9, impl.RsForm, nil},
	} {
		got, code := impl.Free(a, c.id, c.now)
		checkCode(t, fmt.Sprintf("Free with %+v", c), got, code, c.code)
		if !slices.Equal(got.Holds, c.left) || code == impl.RsOk && (got.Posted != 30 || !sameRing(got.Ring, a.Ring)) {
			t.Errorf("Free with %+v = %+v", c, got)
		}
	}
	for now, left := range map[int][]impl.Hold{0: {b, d}, 9: {b, d}, 10: {d}, 29: {d}, 30: nil, impl.MaxTime: nil} {
		want := clonedAcct(a)
		want.Holds = left
		if got, code := impl.Sweep(a, now); code != impl.RsOk || acctText(got) != acctText(want) {
			t.Errorf("Sweep at %d = %+v, %d", now, got, code)
		}
	}
	for _, now := range []int{-1, impl.MaxTime + 1, math.MinInt, math.MaxInt} {
		got, code := impl.Sweep(a, now)
		checkCode(t, fmt.Sprint("Sweep at ", now), got, code, impl.RsForm)
	}
}

func TestP10MoveByExample(t *testing.T) {
	a := acctWith(100, 30, hold("b", 20, 15), hold("d", 7, 30))
	b := partner(hold("a", 3, 40), hold("c", 470, 10))
	a.Most, a.MostSum, b.Most, b.MostSum = 0, 0, 0, 0
	x, y, code := impl.Move(a, b, "b", 10)
	left, got := clonedAcct(a), clonedAcct(b)
	left.Holds, got.Holds = []impl.Hold{hold("d", 7, 30)}, []impl.Hold{hold("a", 3, 40), hold("b", 20, 15)}
	if code != impl.RsOk || acctText(x) != acctText(left) || acctText(y) != acctText(got) {
		t.Errorf("Move = %+v, %+v, %d", x, y, code)
	}
	own, other := clonedAcct(a), clonedAcct(a)
	other.Limit = 1000
	other.Holds = nil
	for name, c := range map[string]struct {
		a, b impl.Acct
		id   string
		now  int
		code int
	}{
		"no room":                 {a, b, "b", 9, impl.RsFunds},
		"too late":                {a, b, "b", 15, impl.RsHold},
		"the later one":           {a, b, "d", 15, impl.RsOk},
		"no such hold":            {a, b, "a", 9, impl.RsHold},
		"the same account":        {own, own, "b", 10, impl.RsBad},
		"accounts with one Id":    {own, other, "b", 10, impl.RsBad},
		"one Id and no such hold": {own, other, "x", 10, impl.RsBad},
		"taken":                   {a, partner(hold("b", 1, 11)), "b", 10, impl.RsTwice},
		"taken until now":         {a, partner(hold("b", 1, 10)), "b", 10, impl.RsOk},
		"all holds in use":        {a, partner(holdsWith("e", "f", "g", "h")...), "b", 9, impl.RsFull},
		"one of them expired":     {a, partner(holdsWith("e", "f", "g", "h")...), "b", 10, impl.RsOk},
		"exactly enough":          {a, partner(hold("c", 460, 11)), "b", 10, impl.RsOk},
		"one too much":            {a, partner(hold("c", 461, 11)), "b", 10, impl.RsFunds},
		"no time":                 {a, b, "b", -1, impl.RsForm},
		"no name":                 {a, b, "", 10, impl.RsForm},
		"the first not valid":     {impl.Acct{}, b, "b", 10, impl.RsForm},
		"the second not valid":    {a, impl.Acct{}, "b", 10, impl.RsForm},
		"both not valid":          {impl.Acct{}, impl.Acct{}, "b", 10, impl.RsForm},
	} {
		x, y, code := impl.Move(c.a, c.b, c.id, c.now)
		checkCode(t, name, x, code, c.code)
		checkCode(t, name, y, code, c.code)
	}
}

func TestP10MoveBetweenAllAccts(t *testing.T) {
	l := servedAccts()
	for i := range l {
		if i%2 == 1 && acctOkByHand(l[i]) {
			l[i].Id = "26"
		}
	}
	for _, a := range l {
		for _, b := range l {
			for _, c := range []call{{id: "a", now: 9}, {id: "b", now: 10}, {id: "d", now: 30}} {
				x, y, code := impl.Move(a, b, c.id, c.now)
				wantX, wantY, want := moveByHand(a, b, c)
				if code != want || acctText(x) != acctText(wantX) || acctText(y) != acctText(wantY) {
					t.Fatalf("Move(%+v, %+v, %q, %d) = %+v, %+v, %d; want %d", a, b, c.id, c.now, x, y, code, want)
				}
				if code == impl.RsOk && x.Posted+y.Posted != a.Posted+b.Posted {
					t.Fatalf("Move(%+v, %+v, %q, %d) posts", a, b, c.id, c.now)
				}
			}
		}
	}
}

func TestP10AskByExample(t *testing.T) {
	a := acctWith(100, 30, hold("b", 20, 10), hold("d", 7, 30))
	for _, c := range []struct {
		a    impl.Acct
		now  int
		text string
		code int
	}{
		{a, 9, "0000000000000043 0000000000000030", impl.RsOk},
		{a, 10, "0000000000000063 0000000000000030", impl.RsOk},
		{a, 30, "0000000000000070 0000000000000030", impl.RsOk},
		{acctWith(0, 0), 0, "0000000000000000 0000000000000000", impl.RsOk},
		{acctWith(impl.MaxLimit, 0), impl.MaxTime, "9007199254740992 0000000000000000", impl.RsOk},
		{acctWith(impl.MaxLimit, impl.MaxLimit), 0, "0000000000000000 9007199254740992", impl.RsOk},
		{a, -1, "", impl.RsForm},
		{a, impl.MaxTime + 1, "", impl.RsForm},
		{acctWith(0, 1), 0, "", impl.RsForm},
		{impl.Acct{}, 0, "", impl.RsForm},
	} {
		if text, code := impl.Ask(c.a, c.now); text != c.text || code != c.code {
			t.Errorf("Ask(%+v, %d) = %q, %d", c.a, c.now, text, code)
		}
	}
}

// ledger is what has happened to an account. It never rolls a window and never sweeps.
type ledger struct {
	posted   int
	holds    map[string]impl.Hold
	arrivals []arrival
}

func (l ledger) live(now int) map[string]impl.Hold {
	live := maps.Clone(l.holds)
	maps.DeleteFunc(live, func(_ string, h impl.Hold) bool { return h.Due <= now })
	return live
}

func (l ledger) reserved(now int) int {
	sum := 0
	for _, h := range l.live(now) {
		sum += h.Amount
	}
	return sum
}

const bookLimit, bookMost, bookMostSum, bookBuckets, bookSpan = 12, 3, 13, 2, 5

func (l ledger) refusedByLimits(c call) int {
	count, sum := withinWindow(l.arrivals, bookBuckets, bookSpan, c.now)
	return firstRefusal(
		refusal{impl.RsFunds, l.posted+l.reserved(c.now)+c.amount > bookLimit},
		refusal{impl.RsCount, count == bookMost},
		refusal{impl.RsSum, sum+c.amount > bookMostSum},
	)
}

// after returns the ledger with a hold set, or removed if its amount is 0.
func (l ledger) after(h impl.Hold) ledger {
	l.holds = maps.Clone(l.holds)
	l.holds[h.Id] = h
	if h.Amount == 0 {
		delete(l.holds, h.Id)
	}
	return l
}

func (l ledger) arrived(c call) ledger {
	l.arrivals = append(slices.Clone(l.arrivals), arrival{c.now, c.amount})
	return l
}

func (l ledger) authorize(c call) (ledger, int) {
	live := l.live(c.now)
	_, held := live[c.id]
	code := firstRefusal(refusal{impl.RsTwice, held}, refusal{impl.RsFull, len(live) == 4}, refusal{l.refusedByLimits(c), l.refusedByLimits(c) != impl.RsOk})
	if code != impl.RsOk {
		return l, code
	}
	return l.after(hold(c.id, c.amount, c.now+c.ttl)).arrived(c), impl.RsOk
}

func (l ledger) more(c call) (ledger, int) {
	h, held := l.live(c.now)[c.id]
	if !held {
		return l, impl.RsHold
	}
	if code := l.refusedByLimits(c); code != impl.RsOk {
		return l, code
	}
	return l.after(hold(h.Id, h.Amount+c.amount, h.Due)).arrived(c), impl.RsOk
}

func (l ledger) capture(c call) (ledger, int) {
	h, held := l.live(c.now)[c.id]
	if code := firstRefusal(refusal{impl.RsHold, !held}, refusal{impl.RsFunds, c.amount > h.Amount}); code != impl.RsOk {
		return l, code
	}
	l.posted += c.amount
	h.Amount -= c.amount
	if c.last {
		h.Amount = 0
	}
	return l.after(h), impl.RsOk
}

func (l ledger) free(c call) (ledger, int) {
	if _, held := l.live(c.now)[c.id]; !held {
		return l, impl.RsHold
	}
	return l.after(hold(c.id, 0, 0)), impl.RsOk
}

// entry is an operation on an account and on its ledger.
type entry struct {
	name   string
	do     change
	ledger func(l ledger, c call) (ledger, int)
	call   call
}

func entries() []entry {
	do := map[string]change{}
	for _, op := range operations() {
		do[op.name] = op.do
	}
	return []entry{
		{"Authorize", do["Authorize"], ledger.authorize, call{id: "a", amount: 4, ttl: 6}},
		{"Authorize", do["Authorize"], ledger.authorize, call{id: "b", amount: 3, ttl: 2}},
		{"More", do["More"], ledger.more, call{id: "a", amount: 5}},
		{"Capture", do["Capture"], ledger.capture, call{id: "a", amount: 2}},
		{"Capture", do["Capture"], ledger.capture, call{id: "b", amount: 1, last: true}},
		{"Free", do["Free"], ledger.free, call{id: "a"}},
		{"Sweep", do["Sweep"], func(l ledger, _ call) (ledger, int) { return l, impl.RsOk }, call{}},
	}
}

// checkBooks compares an account with its ledger; the time of the last change may lie before now.
func checkBooks(t *testing.T, a impl.Acct, l ledger, now int) {
	t.Helper()
	var live []impl.Hold
	for _, h := range l.live(now) {
		live = append(live, h)
	}
	slices.SortFunc(live, func(x, y impl.Hold) int { return strings.Compare(x.Id, y.Id) })
	count, sum := withinWindow(l.arrivals, bookBuckets, bookSpan, now)
	if a.Posted != l.posted || !slices.Equal(impl.LiveOnes(a.Holds, now), live) {
		t.Fatalf("at %d: %+v; want %d posted and the holds %+v", now, a, l.posted, live)
	}
	if impl.RingCount(a.Ring, now) != count || impl.RingSum(a.Ring, now) != sum {
		t.Fatalf("at %d: %+v; %d requests for %d are within the window", now, a, count, sum)
	}
	if !impl.AcctOk(a) || a.Limit != bookLimit || a.Posted+storedByHand(a.Holds) > bookLimit {
		t.Fatalf("at %d, beyond its limit or not valid: %+v", now, a)
	}
}

// tryAll executes every sequence of that many entries, with the time advancing in between or not, up to its first refusal, which changes nothing.
func tryAll(t *testing.T, a impl.Acct, l ledger, now, depth int) {
	checkBooks(t, a, l, now)
	if depth == 0 {
		return
	}
	for _, e := range entries() {
		for _, pass := range []int{0, 3} {
			c := e.call
			c.now = now + pass
			got, code := e.do(a, c)
			next, want := e.ledger(l, c)
			checkCode(t, fmt.Sprintf("%s of %+v with %+v", e.name, a, c), got, code, want)
			checkGrowth(t, e, a, got, c)
			if code == impl.RsOk {
				tryAll(t, got, next, c.now, depth-1)
			}
			if t.Failed() {
				return
			}
		}
	}
}

// checkGrowth takes a refusal to post nothing.
func checkGrowth(t *testing.T, e entry, a, got impl.Acct, c call) {
	t.Helper()
	grown := got.Posted - a.Posted
	if got.Id == "" || grown == 0 {
		return
	}
	h, _ := holdByHand(impl.LiveOnes(a.Holds, c.now), c.id)
	if e.name != "Capture" || grown != c.amount || grown > h.Amount {
		t.Errorf("%s with %+v posts %d, the hold is %+v", e.name, c, grown, h)
	}
}

func TestP2EverySequenceKeepsTheLimit(t *testing.T) {
	a, ok := impl.AcctNew("18", bookLimit, bookMost, bookMostSum, bookBuckets, bookSpan)
	if !ok {
		t.Fatal("AcctNew fails")
	}
	tryAll(t, a, ledger{holds: map[string]impl.Hold{}}, 0, 5)
}

// TestP2WhatIsAuthorizedIsReserved takes the room before and after; only what is reserved can be captured.
func TestP2WhatIsAuthorizedIsReserved(t *testing.T) {
	a := acctWith(100, 30, hold("b", 20, 10))
	for amount := 1; amount <= 70; amount++ {
		got, code := impl.Authorize(a, "x", amount, 5, 8)
		if (code == impl.RsOk) != (amount <= 50) {
			t.Fatalf("Authorize of %d = %d", amount, code)
		}
		if code != impl.RsOk {
			continue
		}
		if impl.Room(got, 8) != 50-amount || impl.Room(got, 12) != 70-amount || impl.Room(got, 13) != 70 {
			t.Errorf("the room for %d is not reserved: %+v", amount, got)
		}
		if posted, code := impl.Capture(got, "x", amount, false, 12); code != impl.RsOk || posted.Posted != 30+amount || len(posted.Holds) != 0 {
			t.Errorf("Capture of %d = %+v, %d", amount, posted, code)
		}
		if _, code := impl.Capture(got, "x", amount+1, false, 12); code != impl.RsFunds {
			t.Errorf("Capture of %d of %d = %d", amount+1, amount, code)
		}
	}
}

func TestP7AnExpiredHoldIsGone(t *testing.T) {
	for _, due := range []int{0, 1, 20, 21, impl.MaxTime - 1, impl.MaxTime} {
		a := acctWith(100, 0, hold("a", 100, due))
		for _, now := range []int{due - 1, due, due + 1, impl.MaxTime} {
			if !timeByHand(now) {
				continue
			}
			live := due > now
			for _, op := range operations()[2:5] {
				if _, code := op.do(a, call{"a", 1, 1, false, now}); (code == impl.RsOk) != live || !live && code != impl.RsHold {
					t.Errorf("%s of a hold until %d, at %d: %d", op.name, due, now, code)
				}
			}
			if _, code := impl.More(a, "a", 1, now); live && code != impl.RsFunds || !live && code != impl.RsHold {
				t.Errorf("More of a hold until %d, at %d: %d", due, now, code)
			}
			_, code := impl.Authorize(a, "a", 100, 1, now)
			if live && code != impl.RsTwice || !live && now < impl.MaxTime && code != impl.RsOk {
				t.Errorf("Authorize after a hold until %d, at %d: %d", due, now, code)
			}
		}
	}
}

func TestP7SweepingIsNotObservableToOperations(t *testing.T) {
	times := []int{0, 9, 10, 19, 20, 25, 30, 1000}
	for _, a := range servedAccts() {
		for i, early := range times {
			swept, code := impl.Sweep(a, early)
			if code != impl.RsOk {
				continue
			}
			for _, late := range times[i:] {
				for _, c := range []call{{"a", 1, 9, false, late}, {"b", 2, 1, true, late}, {"x", 50, 9, false, late}} {
					checkSwept(t, a, []impl.Acct{swept, impl.AcctSwept(a, late), impl.AcctAt(a, early)}, c)
				}
			}
		}
	}
}

// checkSwept compares the results as they are seen at the time of the call, since not every operation rolls the window.
func checkSwept(t *testing.T, a impl.Acct, swept []impl.Acct, c call) {
	t.Helper()
	for _, op := range operations() {
		want, wantCode := op.do(a, c)
		for _, b := range swept {
			got, code := op.do(b, c)
			if code != wantCode || acctText(impl.AcctAt(got, c.now)) != acctText(impl.AcctAt(want, c.now)) {
				t.Errorf("%s of %+v with %+v depends on whether it was swept", op.name, a, c)
			}
		}
	}
	told, _ := impl.Ask(a, c.now)
	for _, b := range swept {
		if got, _ := impl.Ask(b, c.now); got != told {
			t.Errorf("Ask of %+v at %d depends on whether it was swept", a, c.now)
		}
	}
}

// TestP7OnlyRequestsForMoneyMoveTheWindow checks that the other operations leave the ring as it is, not even rolled.
func TestP7OnlyRequestsForMoneyMoveTheWindow(t *testing.T) {
	a := someAcct()
	for _, now := range []int{0, 10, 15, 25, 29} {
		for _, op := range operations() {
			got, code := op.do(a, call{"c", 1, 5, false, now})
			if op.name == "Move to" {
				got, code = op.do(a, call{"x", 1, 5, false, now})
			}
			if op.name == "Authorize" {
				got, code = op.do(a, call{"x", 1, 5, false, now})
			}
			want := a.Ring
			if op.name == "Authorize" || op.name == "More" {
				want = addByHand(a.Ring, now, 1)
			}
			if code != impl.RsOk || !sameRing(got.Ring, want) {
				t.Errorf("%s at %d: %d, %+v", op.name, now, code, got.Ring)
			}
		}
	}
}

// callsInMemory are calls of which some succeed and some are refused.
func callsInMemory() []call {
	return []call{
		{"a", 1, 5, false, 9}, {"b", 2, 5, true, 10}, {"x", 1, 5, false, 9}, {"0", 3, 5, true, 25},
		{"a", 1, 5, false, 0}, {"c", 4, 5, false, 1000}, {"zz", 1, 0, false, 9}, {"", 1, 5, false, 9}, {"a", 1, 5, false, -1},
	}
}

func TestP10ChangedAcctsAreNewMemory(t *testing.T) {
	for _, op := range operations() {
		for _, a := range slices.Concat(servedAccts(), goodAccts()[:60]) {
			for _, c := range callsInMemory() {
				m := acctInMemory(a)
				before := m.text()
				one, _ := op.do(m.acct, c)
				two, _ := op.do(m.acct, c)
				if m.text() != before {
					t.Errorf("%s with %+v changes its argument %+v", op.name, c, a)
				}
				want := acctText(two)
				spoilAcct(one)
				if acctText(two) != want {
					t.Errorf("%s with %+v: two results share memory: %+v", op.name, c, a)
				}
				if m.text() != before {
					t.Errorf("%s with %+v: a result shares memory with its argument %+v", op.name, c, a)
				}
			}
		}
	}
}

// TestP10MovedAcctsAreNewMemory has accounts that share all of their memory, in which a hold can be moved at 15.
func TestP10MovedAcctsAreNewMemory(t *testing.T) {
	m := acctInMemory(someAcct())
	a, b := m.acct, m.acct
	b.Id = "26"
	b.Holds = b.Holds[:1]
	before := m.text()
	for _, c := range []call{{id: "b", now: 15}, {id: "c", now: 9}, {id: "x", now: 9}, {id: "a", now: 9}} {
		x, y, code := impl.Move(a, b, c.id, c.now)
		wantX, wantY, want := moveByHand(someAcct(), changedAcct(func(a *impl.Acct) { a.Id, a.Holds = "26", a.Holds[:1] }), c)
		if code != want || acctText(x) != acctText(wantX) || acctText(y) != acctText(wantY) {
			t.Errorf("Move with %+v = %+v, %+v, %d", c, x, y, code)
		}
		spoilAcct(x)
		if acctText(y) != acctText(wantY) {
			t.Errorf("Move with %+v: the two accounts share memory", c)
		}
		spoilAcct(y)
		if m.text() != before {
			t.Errorf("Move with %+v changes its arguments, or its results share their memory", c)
		}
	}
}

func TestP10ChangedAcctsWhoseListsAreOne(t *testing.T) {
	for _, op := range operations() {
		for _, c := range callsInMemory() {
			numbers, reply := []int{1, 2, 3}, []byte("one reply")
			a := changedAcct(func(a *impl.Acct) {
				a.Ring = impl.Ring{Span: 5, Head: 2, Counts: numbers, Sums: numbers}
				a.Slots = []impl.Slot{{Trace: "000001", Mti: "0100", Reply: reply}, {Trace: "000002", Mti: "0100", Reply: reply[:3]}}
			})
			got, _ := op.do(a, c)
			want, _ := op.hand(clonedAcct(a), c)
			if acctText(got) != acctText(want) {
				t.Errorf("%s with %+v = %+v; want %+v", op.name, c, got, want)
			}
			spoil(got.Ring.Counts)
			if !slices.Equal(got.Ring.Sums, want.Ring.Sums) {
				t.Errorf("%s with %+v: the counts and the sums of the result share memory", op.name, c)
			}
			for i := range got.Slots {
				if string(got.Slots[i].Reply) != string(want.Slots[i].Reply) {
					t.Errorf("%s with %+v: the replies of the result share memory", op.name, c)
				}
				spoilBytes(got.Slots[i].Reply)
			}
			if !slices.Equal(numbers, []int{1, 2, 3}) || string(reply) != "one reply" {
				t.Errorf("%s with %+v: the argument is now %v, %q", op.name, c, numbers, reply)
			}
		}
	}
}

func TestP10AskLeavesItsArgument(t *testing.T) {
	for _, a := range slices.Concat(fewAccts(), oddAccts()) {
		m := acctInMemory(a)
		before := m.text()
		for _, now := range []int{-1, 0, 10, 20, 1000} {
			impl.Ask(m.acct, now)
		}
		if m.text() != before {
			t.Errorf("Ask changes its argument %+v", a)
		}
	}
}
