package tests

import (
	"fmt"
	"hash/fnv"
	"maps"
	"math"
	"slices"
	"strings"
	"testing"

	"loop.example/g00735/impl"
)

func stripeNoByHand(id string, n int) int {
	if n <= 0 {
		return 0
	}
	h := fnv.New32a()
	h.Write([]byte(id))
	return int(uint64(h.Sum32()) % uint64(n))
}

func lockSetByHand(ids []string, n int) []int {
	numbers := map[int]bool{}
	for _, id := range ids {
		numbers[stripeNoByHand(id, n)] = true
	}
	return slices.Sorted(maps.Keys(numbers))
}

func stripe(owner int, l ...impl.Acct) impl.Stripe {
	return impl.Stripe{Owner: owner, Accts: l}
}

func clonedStripes(l []impl.Stripe) []impl.Stripe {
	var cloned []impl.Stripe
	for _, s := range l {
		cloned = append(cloned, stripe(s.Owner, clonedBook(bookOf(s.Accts...)).Accts...))
	}
	return cloned
}

// stripesText writes stripes such that equal lists, and only these, have one text.
func stripesText(l []impl.Stripe) string {
	var text strings.Builder
	for _, s := range l {
		fmt.Fprintf(&text, "owner %d\n%s", s.Owner, bookText(bookOf(s.Accts...)))
	}
	return text.String()
}

// spreadByHand goes through the whole book for every stripe, whether it is valid or not.
func spreadByHand(b impl.Book, n int) []impl.Stripe {
	var l []impl.Stripe
	for k := range n {
		own := slices.DeleteFunc(clonedBook(b).Accts, func(a impl.Acct) bool { return stripeNoByHand(a.Id, n) != k })
		l = append(l, stripe(-1, own...))
	}
	return l
}

// gatherByHand takes the first of the least accounts that are left, again and again.
func gatherByHand(l []impl.Stripe) impl.Book {
	var left []impl.Acct
	for _, s := range clonedStripes(l) {
		left = append(left, s.Accts...)
	}
	var b impl.Book
	for len(left) > 0 {
		least := 0
		for i, a := range left {
			if strings.Compare(a.Id, left[least].Id) < 0 {
				least = i
			}
		}
		b.Accts = append(b.Accts, left[least])
		left = slices.Delete(left, least, least+1)
	}
	return b
}

// stripesOkByHand compares all pairs of accounts of a stripe.
func stripesOkByHand(l []impl.Stripe) bool {
	if len(l) < 1 || len(l) > 5 {
		return false
	}
	for k, s := range l {
		if s.Owner < -1 || s.Owner > 11 {
			return false
		}
		for i, a := range s.Accts {
			if stripeNoByHand(a.Id, len(l)) != k {
				return false
			}
			for _, later := range s.Accts[i+1:] {
				if strings.Compare(a.Id, later.Id) >= 0 {
					return false
				}
			}
		}
	}
	return bookOkByHand(gatherByHand(l))
}

func takeByHand(l []impl.Stripe, k, task int) ([]impl.Stripe, bool) {
	if k < 0 || k >= len(l) || l[k].Owner != -1 || task < 0 || task > 11 {
		return nil, false
	}
	taken := clonedStripes(l)
	taken[k].Owner = task
	return taken, true
}

func giveByHand(l []impl.Stripe, k, task int) ([]impl.Stripe, bool) {
	if k < 0 || k >= len(l) || task < 0 || l[k].Owner != task {
		return nil, false
	}
	given := clonedStripes(l)
	given[k].Owner = -1
	return given, true
}

func partByHand(l []impl.Stripe, set []int) impl.Book {
	wanted := map[int]bool{}
	for _, k := range set {
		wanted[k] = true
	}
	part := clonedStripes(l)
	for k := range part {
		if !wanted[k] {
			part[k].Accts = nil
		}
	}
	return gatherByHand(part)
}

// layByHand goes through the places instead of the accounts that are laid.
func layByHand(l []impl.Stripe, b impl.Book) []impl.Stripe {
	laid := clonedStripes(l)
	for k, s := range laid {
		for i, old := range s.Accts {
			if stripeNoByHand(old.Id, len(l)) != k || bookAtByHand(bookOf(s.Accts...), old.Id) != i {
				continue
			}
			for _, a := range b.Accts {
				if a.Id == old.Id {
					s.Accts[i] = clonedAcct(a)
				}
			}
		}
	}
	return laid
}

// locked gives a list owners, of which every second one or so is none.
func locked(l []impl.Stripe, seed int) []impl.Stripe {
	for k := range l {
		l[k].Owner = max(-1, (seed*7+k*5)%25-13)
	}
	return l
}

// goodStripes are all books of some of the six accounts over all numbers of stripes.
func goodStripes() [][]impl.Stripe {
	var all [][]impl.Stripe
	for i, b := range goodBooks() {
		for n := 1; n <= 5; n++ {
			all = append(all, locked(spreadByHand(b, n), i+n))
		}
	}
	return all
}

func oddOwners() []int {
	return []int{math.MinInt, -12, -2, 12, 13, 1 << 32, 1<<32 - 1, math.MaxInt}
}

// changedStripes returns the six accounts over n stripes after a change at every account.
func changedStripes(n int, change func(l []impl.Stripe, k, i int)) [][]impl.Stripe {
	var all [][]impl.Stripe
	for k, s := range spreadByHand(sixAccts(), n) {
		for i := range s.Accts {
			l := locked(spreadByHand(sixAccts(), n), k)
			change(l, k, i)
			all = append(all, l)
		}
	}
	return all
}

// oddStripes differ from good ones in one way.
func oddStripes() [][]impl.Stripe {
	all := [][]impl.Stripe{nil, {}, spreadByHand(sixAccts(), 6), spreadByHand(impl.Book{}, 6), spreadByHand(sixAccts(), 40)}
	for n := 1; n <= 5; n++ {
		for k := range n {
			for _, owner := range oddOwners() {
				l := locked(spreadByHand(sixAccts(), n), k)
				l[k].Owner = owner
				all = append(all, l)
			}
			all = append(all, slices.Delete(spreadByHand(sixAccts(), n), k, k+1), slices.Insert(spreadByHand(sixAccts(), n), k, stripe(-1)))
		}
		all = append(all, spreadByHand(bookOf(append(sixAccts().Accts, named("91", someAcct()))...), n))
		all = append(all, changedStripes(n, func(l []impl.Stripe, k, i int) { l[k].Accts = append(l[k].Accts, l[k].Accts[i]) })...)
		all = append(all, changedStripes(n, func(l []impl.Stripe, k, i int) { l[k].Accts[i] = l[k].Accts[0] })...)
		all = append(all, changedStripes(n, func(l []impl.Stripe, k, i int) {
			l[k].Accts[i], l[k].Accts[0] = l[k].Accts[0], l[k].Accts[i]
		})...)
		all = append(all, changedStripes(n, func(l []impl.Stripe, k, i int) {
			to := (k + 1 + i%2) % n
			l[to].Accts = slices.SortedFunc(slices.Values(append(l[to].Accts, l[k].Accts[i])), func(a, b impl.Acct) int { return strings.Compare(a.Id, b.Id) })
			l[k].Accts = slices.Delete(l[k].Accts, i, i+1)
		})...)
		all = append(all, changedStripes(n, func(l []impl.Stripe, k, i int) {
			to := (k + 1) % n
			l[to].Accts = append(l[to].Accts, named(l[k].Accts[i].Id, acctWith(77, 7)))
		})...)
		for _, id := range otherIds() {
			all = append(all, changedStripes(n, func(l []impl.Stripe, k, i int) { l[k].Accts[i].Id = id })...)
		}
		for _, wrong := range []impl.Acct{{}, acctWith(10, 11), acctWith(-1, 0), changedAcct(func(a *impl.Acct) { a.Ring.Span = 0 })} {
			all = append(all, changedStripes(n, func(l []impl.Stripe, k, i int) { l[k].Accts[i] = named(l[k].Accts[i].Id, wrong) })...)
		}
	}
	return slices.DeleteFunc(all, stripesOkByHand)
}

func allStripes() [][]impl.Stripe {
	return slices.Concat(goodStripes(), oddStripes())
}

// someStripes are fewer lists of all kinds.
func someStripes() [][]impl.Stripe {
	some := [][]impl.Stripe{nil, {}, {stripe(-1)}, {stripe(-2), stripe(12), stripe(-1), stripe(5), stripe(-1), stripe(-1), stripe(3)}}
	for i, l := range allStripes() {
		if i%11 == 0 {
			some = append(some, l)
		}
	}
	return some
}

func numbersOfStripes() []int {
	return append(edgeInts(), -1, 0, 1, 2, 3, 4, 5, 6, 7, 8, 13, 40, 1000)
}

func TestP10ConstantsOfChapter14(t *testing.T) {
	if impl.MaxStripes != 5 || impl.MaxTasks != 12 {
		t.Error("the constants are", impl.MaxStripes, impl.MaxTasks)
	}
}

func TestP10StripeNoByExample(t *testing.T) {
	for _, c := range []struct {
		id      string
		n, want int
	}{
		{"", 1, 0}, {"", 2, 1}, {"", 10000000000, 2166136261},
		{"18", 1, 0}, {"18", 2, 0}, {"18", 3, 2}, {"18", 5, 0}, {"18", 1000, 660}, {"18", math.MaxInt, 334175660},
		{"00", 3, 2}, {"00", 334175660, 569209421 - 334175660}, {"000", 4, 3}, {"000", 5, 4},
		{"foobar", 1 << 32, 0xbf9cf968}, {"foobar", 0xbf9cf968, 0}, {"foobar", 0xbf9cf967, 1},
		{"18", 0, 0}, {"18", -1, 0}, {"18", -7, 0}, {"18", math.MinInt, 0},
	} {
		if got := impl.StripeNo(c.id, c.n); got != c.want {
			t.Errorf("StripeNo(%q, %d) = %d; want %d", c.id, c.n, got, c.want)
		}
	}
}

func TestP10StripeNo(t *testing.T) {
	for _, id := range slices.Concat(bookIds(), otherIds(), oddStrings(), cardNumbers()) {
		for _, n := range numbersOfStripes() {
			if got, want := impl.StripeNo(id, n), stripeNoByHand(id, n); got != want {
				t.Errorf("StripeNo(%q, %d) = %d; want %d", id, n, got, want)
			}
		}
	}
}

func TestP10LockSetByExample(t *testing.T) {
	for _, c := range []struct {
		ids  []string
		n    int
		want []int
	}{
		{nil, 5, nil},
		{[]string{}, 1, nil},
		{nil, 0, nil},
		{[]string{"18"}, 1, []int{0}},
		{[]string{"18", "26"}, 1, []int{0}},
		{[]string{"18", "26"}, 2, []int{0, 1}},
		{[]string{"26", "18"}, 2, []int{0, 1}},
		{[]string{"18", "26"}, 5, []int{0}},
		{[]string{"000", "26", "000", "109", "18"}, 5, []int{0, 3, 4}},
		{[]string{"000", "26", "79927398713", "18"}, 4, []int{0, 1, 2, 3}},
		{[]string{"foobar", "18"}, math.MaxInt, []int{334175660, 0xbf9cf968}},
		{[]string{"18", "26", "000"}, 0, []int{0}},
		{[]string{"18", "26", "000"}, -5, []int{0}},
		{[]string{"", "a", ""}, 2, []int{0, 1}},
	} {
		if got := impl.LockSet(c.ids, c.n); !slices.Equal(got, c.want) {
			t.Errorf("LockSet(%q, %d) = %d; want %d", c.ids, c.n, got, c.want)
		}
	}
}

// idLists are lists of all sizes, in all kinds of order, with and without repetitions.
func idLists() [][]string {
	ids := slices.Concat(bookIds(), otherIds(), []string{"42", "59", "67", "75", "83", "91"})
	var all [][]string
	for from := range ids {
		for n := range len(ids) - from {
			l := slices.Clone(ids[from : from+n])
			all = append(all, l, slices.Concat(l, l))
			slices.Reverse(l)
			all = append(all, slices.Clone(l))
		}
	}
	return append(all, slices.Repeat(ids, 50))
}

// TestP3LocksAreAscending checks what keeps tasks from waiting for each other in a circle.
func TestP3LocksAreAscending(t *testing.T) {
	for _, ids := range idLists() {
		for _, n := range append(numbersOfStripes(), 50) {
			got := impl.LockSet(ids, n)
			if want := lockSetByHand(ids, n); !slices.Equal(got, want) {
				t.Fatalf("LockSet(%q, %d) = %d; want %d", ids, n, got, want)
			}
			for i := 1; i < len(got); i++ {
				if got[i-1] >= got[i] {
					t.Fatalf("LockSet(%q, %d) = %d is not ascending", ids, n, got)
				}
			}
		}
	}
}

func TestP10LockSetIsNewMemory(t *testing.T) {
	for _, ids := range idLists() {
		behind := append(slices.Clone(ids), "behind", "it")
		one, two := impl.LockSet(behind[:len(ids)], 5), impl.LockSet(ids, 5)
		spoil(one)
		if !slices.Equal(two, lockSetByHand(ids, 5)) || !slices.Equal(behind, append(slices.Clone(ids), "behind", "it")) {
			t.Fatalf("LockSet(%q, 5) shares memory", ids)
		}
	}
}

func TestP10SpreadByExample(t *testing.T) {
	id := func(ids ...string) []impl.Acct {
		var l []impl.Acct
		for i, id := range ids {
			l = append(l, named(id, acctWith(100+i, i)))
		}
		return l
	}
	b := bookOf(id("00", "000", "109", "18", "26", "34")...)
	l := b.Accts
	for n, want := range map[int][]impl.Stripe{
		math.MinInt: nil, -1: nil, 0: nil,
		1: {stripe(-1, l...)},
		2: {stripe(-1, l[3], l[5]), stripe(-1, l[0], l[1], l[2], l[4])},
		3: {stripe(-1, l[2], l[5]), stripe(-1), stripe(-1, l[0], l[1], l[3], l[4])},
		4: {stripe(-1, l[3]), stripe(-1, l[0], l[4]), stripe(-1, l[5]), stripe(-1, l[1], l[2])},
		5: {stripe(-1, l[3], l[4], l[5]), stripe(-1, l[0]), stripe(-1), stripe(-1, l[2]), stripe(-1, l[1])},
		6: nil, 12: nil, math.MaxInt: nil,
	} {
		if got := impl.Spread(b, n); stripesText(got) != stripesText(want) {
			t.Errorf("Spread over %d stripes = %+v; want %+v", n, got, want)
		}
	}
	if got := impl.Spread(impl.Book{}, 2); stripesText(got) != "owner -1\nowner -1\n" {
		t.Errorf("Spread of no account = %+v", got)
	}
	for name, b := range map[string]impl.Book{
		"exchanged accounts":    bookOf(id("26", "18")...),
		"an account twice":      bookOf(id("18", "18")...),
		"an account of no kind": bookOf(impl.Acct{}),
		"an overdrawn account":  bookOf(named("18", acctWith(10, 11))),
		"seven accounts":        bookOf(id("00", "000", "109", "18", "26", "34", "42")...),
	} {
		if got := impl.Spread(b, 2); len(got) != 0 {
			t.Errorf("Spread of %s = %+v", name, got)
		}
	}
}

func TestP10Spread(t *testing.T) {
	for _, b := range allBooks() {
		for _, n := range []int{math.MinInt, -1, 0, 1, 2, 3, 4, 5, 6, 1 << 32, math.MaxInt} {
			var want []impl.Stripe
			if bookOkByHand(b) && n >= 1 && n <= 5 {
				want = spreadByHand(b, n)
			}
			if got := impl.Spread(b, n); stripesText(got) != stripesText(want) {
				t.Errorf("Spread(%+v, %d) = %+v; want %+v", b, n, got, want)
			}
		}
	}
}

// TestP8SpreadAccountsAreGatheredAgain checks that no number of stripes changes what is gathered.
func TestP8SpreadAccountsAreGatheredAgain(t *testing.T) {
	for _, b := range goodBooks() {
		for n := 1; n <= 5; n++ {
			l := impl.Spread(b, n)
			if got := impl.Gather(l); bookText(got) != bookText(b) || !impl.BookSame(got, b) {
				t.Errorf("%+v over %d stripes is gathered as %+v", b, n, got)
			}
			if len(l) != n || !impl.StripesOk(l) {
				t.Errorf("%+v over %d stripes is not valid: %+v", b, n, l)
			}
		}
	}
}

func TestP10GatherByExample(t *testing.T) {
	acct := func(id string, limit int) impl.Acct { return impl.Acct{Id: id, Limit: limit} }
	for name, c := range map[string]struct {
		l    []impl.Stripe
		want impl.Book
	}{
		"no stripe":               {nil, impl.Book{}},
		"stripes without account": {[]impl.Stripe{stripe(3), stripe(-1)}, impl.Book{}},
		"one stripe":              {[]impl.Stripe{stripe(3, acct("18", 1), acct("26", 2))}, bookOf(acct("18", 1), acct("26", 2))},
		"one without an order":    {[]impl.Stripe{stripe(3, acct("26", 2), acct("18", 1))}, bookOf(acct("18", 1), acct("26", 2))},
		"two stripes":             {[]impl.Stripe{stripe(-1, acct("26", 2)), stripe(-1, acct("18", 1), acct("34", 3))}, bookOf(acct("18", 1), acct("26", 2), acct("34", 3))},
		"a prefix":                {[]impl.Stripe{stripe(0, acct("000", 2), acct("18", 3)), stripe(1, acct("00", 1))}, bookOf(acct("00", 1), acct("000", 2), acct("18", 3))},
		"equal Ids":               {[]impl.Stripe{stripe(0, acct("18", 9), acct("26", 8)), stripe(0, acct("26", 7), acct("18", 6)), stripe(0, acct("18", 7))}, bookOf(acct("18", 9), acct("18", 6), acct("18", 7), acct("26", 8), acct("26", 7))},
		"equal Ids of a stripe":   {[]impl.Stripe{stripe(0, acct("18", 9), acct("", 0), acct("18", 8), acct("18", 10))}, bookOf(acct("", 0), acct("18", 9), acct("18", 8), acct("18", 10))},
		"bytes above 127":         {[]impl.Stripe{stripe(0, acct("\xff", 1), acct("\u00e9", 2), acct("z", 3))}, bookOf(acct("z", 3), acct("\u00e9", 2), acct("\xff", 1))},
	} {
		if got := impl.Gather(c.l); bookText(got) != bookText(c.want) {
			t.Errorf("%s: Gather = %+v; want %+v", name, got, c.want)
		}
	}
}

func TestP10Gather(t *testing.T) {
	for _, l := range allStripes() {
		for range 2 {
			if got, want := impl.Gather(l), gatherByHand(l); bookText(got) != bookText(want) {
				t.Errorf("Gather(%+v) = %+v; want %+v", l, got, want)
			}
			slices.Reverse(l)
		}
	}
}

// TestP10GatherKeepsTheOrderOfManyEqualIds has more accounts than a sort that forgets their order would leave in place.
func TestP10GatherKeepsTheOrderOfManyEqualIds(t *testing.T) {
	var l []impl.Stripe
	for i, x := range someBytes(7, 400) {
		if i%8 == 0 {
			l = append(l, stripe(i))
		}
		last := &l[len(l)-1]
		last.Accts = append(last.Accts, impl.Acct{Id: bookIds()[int(x)%6], Limit: i})
	}
	if got, want := impl.Gather(l), gatherByHand(l); bookText(got) != bookText(want) {
		t.Errorf("Gather = %+v; want %+v", got, want)
	}
}

func TestP10StripesOkByExample(t *testing.T) {
	id := func(ids ...string) []impl.Acct {
		var l []impl.Acct
		for _, id := range ids {
			l = append(l, named(id, someAcct()))
		}
		return l
	}
	// Over two stripes, these accounts belong to the first or to the second one.
	first, second := id("18", "34", "67"), id("00", "109", "26")
	for name, c := range map[string]struct {
		l    []impl.Stripe
		want bool
	}{
		"no stripe":                 {nil, false},
		"one":                       {[]impl.Stripe{stripe(-1)}, true},
		"five":                      {slices.Repeat([]impl.Stripe{stripe(-1)}, 5), true},
		"six":                       {slices.Repeat([]impl.Stripe{stripe(-1)}, 6), false},
		"many":                      {slices.Repeat([]impl.Stripe{stripe(-1)}, 600), false},
		"the first task":            {[]impl.Stripe{stripe(0)}, true},
		"the last task":             {[]impl.Stripe{stripe(11)}, true},
		"a task that is not one":    {[]impl.Stripe{stripe(12)}, false},
		"a negative one":            {[]impl.Stripe{stripe(-2)}, false},
		"the greatest one":          {[]impl.Stripe{stripe(math.MaxInt)}, false},
		"the least one":             {[]impl.Stripe{stripe(math.MinInt)}, false},
		"one task, two locks":       {[]impl.Stripe{stripe(4), stripe(4), stripe(-1), stripe(4)}, true},
		"the fifth one not a task":  {[]impl.Stripe{stripe(4), stripe(4), stripe(-1), stripe(4), stripe(12)}, false},
		"the fifth one negative":    {[]impl.Stripe{stripe(-1), stripe(-1), stripe(-1), stripe(-1), stripe(-2)}, false},
		"six accounts":              {[]impl.Stripe{stripe(-1, first...), stripe(7, second...)}, true},
		"six in one stripe":         {[]impl.Stripe{stripe(-1, id(bookIds()...)...)}, true},
		"seven accounts":            {[]impl.Stripe{stripe(-1, first...), stripe(-1, id("00", "000", "109", "26")...)}, false},
		"exchanged stripes":         {[]impl.Stripe{stripe(-1, second...), stripe(-1, first...)}, false},
		"a stripe more":             {[]impl.Stripe{stripe(-1, first...), stripe(-1, second...), stripe(-1)}, false},
		"a stripe less":             {[]impl.Stripe{stripe(-1, first...)}, true},
		"the other one less":        {[]impl.Stripe{stripe(-1, second...)}, true},
		"one account moved":         {[]impl.Stripe{stripe(-1, id("34", "67")...), stripe(-1, id("00", "109", "18", "26")...)}, false},
		"exchanged accounts":        {[]impl.Stripe{stripe(-1, id("34", "18")...), stripe(-1, second...)}, false},
		"exchanged in the last one": {[]impl.Stripe{stripe(-1, first...), stripe(-1, id("00", "26", "109")...)}, false},
		"an account twice":          {[]impl.Stripe{stripe(-1, id("18", "18")...), stripe(-1)}, false},
		"an account in both":        {[]impl.Stripe{stripe(-1, id("18")...), stripe(-1, id("18")...)}, false},
		"an overdrawn account":      {[]impl.Stripe{stripe(-1, named("18", acctWith(10, 11))), stripe(-1)}, false},
		"no Id":                     {[]impl.Stripe{stripe(-1), stripe(-1, id("")...)}, false},
		"an Id of no account":       {[]impl.Stripe{stripe(-1, id("19")...)}, false},
		"the zero value":            {[]impl.Stripe{{}}, true},
	} {
		if got := impl.StripesOk(c.l); got != c.want {
			t.Errorf("%s: StripesOk = %v", name, got)
		}
	}
}

func TestP10StripesOk(t *testing.T) {
	for _, l := range goodStripes() {
		if !impl.StripesOk(l) {
			t.Errorf("StripesOk(%+v) = false", l)
		}
	}
	for _, l := range oddStripes() {
		if impl.StripesOk(l) {
			t.Errorf("StripesOk(%+v) = true", l)
		}
	}
	for _, a := range allAccts() {
		l := spreadByHand(bookOf(a), 5)
		if got, want := impl.StripesOk(l), acctOkByHand(a); got != want {
			t.Errorf("StripesOk of %+v alone = %v", a, got)
		}
	}
}

func TestP10PartByExample(t *testing.T) {
	accts := sixAccts().Accts
	// The six accounts as they are spread over four stripes.
	l := []impl.Stripe{stripe(3, accts[3]), stripe(-1, accts[0], accts[4]), stripe(-1, accts[5]), stripe(0, accts[1], accts[2])}
	for _, c := range []struct {
		set  []int
		want impl.Book
	}{
		{nil, impl.Book{}},
		{[]int{}, impl.Book{}},
		{[]int{0}, bookOf(accts[3])},
		{[]int{1}, bookOf(accts[0], accts[4])},
		{[]int{0, 1}, bookOf(accts[0], accts[3], accts[4])},
		{[]int{1, 0}, bookOf(accts[0], accts[3], accts[4])},
		{[]int{3, 3, 3}, bookOf(accts[1], accts[2])},
		{[]int{3, 2, 1, 0}, sixAccts()},
		{[]int{0, 1, 2, 3, 0, 1, 2, 3}, sixAccts()},
		{[]int{-1, 4, 2, math.MaxInt, math.MinInt}, bookOf(accts[5])},
		{[]int{-1, 4}, impl.Book{}},
	} {
		if got := impl.Part(l, c.set); bookText(got) != bookText(c.want) {
			t.Errorf("Part(%d) = %+v; want %+v", c.set, got, c.want)
		}
	}
}

func sets() [][]int {
	all := [][]int{nil, {-1}, {9, 5}, {math.MinInt, 0, math.MaxInt}, {4, 3, 2, 1, 0}, {2, 2}, {1, 0, 1}, {6, 0}}
	for mask := range 1 << 5 {
		var set []int
		for k := range 5 {
			if mask>>k&1 == 1 {
				set = append(set, k)
			}
		}
		all = append(all, set)
	}
	return all
}

func TestP10Part(t *testing.T) {
	for _, l := range someStripes() {
		for _, set := range sets() {
			behind := append(slices.Clone(set), 0, 1)
			got, want := impl.Part(l, behind[:len(set)]), partByHand(l, set)
			if bookText(got) != bookText(want) || !slices.Equal(behind, append(slices.Clone(set), 0, 1)) {
				t.Errorf("Part(%+v, %d) = %+v; want %+v", l, set, got, want)
			}
		}
	}
}

func TestP10LayByExample(t *testing.T) {
	acct := func(id string, limit int) impl.Acct { return impl.Acct{Id: id, Limit: limit} }
	// Over two stripes, 18 and 34 belong to the first one, and 00 and 26 to the second one.
	l := []impl.Stripe{stripe(3, acct("18", 1), acct("34", 2)), stripe(-1, acct("00", 3), acct("26", 4))}
	for name, c := range map[string]struct {
		l    []impl.Stripe
		b    impl.Book
		want []impl.Stripe
	}{
		"nothing":                    {l, impl.Book{}, l},
		"one":                        {l, bookOf(acct("34", 9)), []impl.Stripe{stripe(3, acct("18", 1), acct("34", 9)), l[1]}},
		"two":                        {l, bookOf(acct("00", 8), acct("18", 9)), []impl.Stripe{stripe(3, acct("18", 9), acct("34", 2)), stripe(-1, acct("00", 8), acct("26", 4))}},
		"two without an order":       {l, bookOf(acct("26", 8), acct("00", 9)), []impl.Stripe{l[0], stripe(-1, acct("00", 9), acct("26", 8))}},
		"one twice":                  {l, bookOf(acct("26", 8), acct("26", 9)), []impl.Stripe{l[0], stripe(-1, acct("00", 3), acct("26", 9))}},
		"one without a place":        {l, bookOf(acct("000", 8), acct("26", 9)), []impl.Stripe{l[0], stripe(-1, acct("00", 3), acct("26", 9))}},
		"one without a number":       {l, bookOf(acct("", 8)), l},
		"a place in another stripe":  {[]impl.Stripe{l[1], l[0]}, bookOf(acct("18", 8), acct("26", 9)), []impl.Stripe{l[1], l[0]}},
		"two places":                 {[]impl.Stripe{stripe(3, acct("18", 1), acct("18", 2)), stripe(4, acct("18", 3))}, bookOf(acct("18", 8)), []impl.Stripe{stripe(3, acct("18", 8), acct("18", 2)), stripe(4, acct("18", 3))}},
		"two places, not the first":  {[]impl.Stripe{stripe(3, acct("34", 1), acct("18", 1), acct("18", 2)), stripe(4)}, bookOf(acct("18", 8), acct("18", 9)), []impl.Stripe{stripe(3, acct("34", 1), acct("18", 9), acct("18", 2)), stripe(4)}},
		"no stripe":                  {nil, bookOf(acct("18", 8)), nil},
		"stripes without accounts":   {[]impl.Stripe{stripe(1), stripe(2)}, bookOf(acct("18", 8)), []impl.Stripe{stripe(1), stripe(2)}},
		"owners that are not tasks":  {[]impl.Stripe{stripe(99, acct("18", 1))}, bookOf(acct("18", 8)), []impl.Stripe{stripe(99, acct("18", 8))}},
		"more stripes than are good": {[]impl.Stripe{stripe(0), stripe(1), stripe(2), stripe(3), stripe(4), stripe(5), stripe(6, acct("26", 4))}, bookOf(acct("26", 8)), layByHand([]impl.Stripe{stripe(0), stripe(1), stripe(2), stripe(3), stripe(4), stripe(5), stripe(6, acct("26", 4))}, bookOf(acct("26", 8)))},
	} {
		if got := impl.Lay(c.l, c.b); stripesText(got) != stripesText(c.want) {
			t.Errorf("%s: Lay = %+v; want %+v", name, got, c.want)
		}
	}
}

// booksToLay have other contents than the six accounts have under their numbers.
func booksToLay() []impl.Book {
	other := sixAccts()
	for i := range other.Accts {
		other.Accts[i] = named(other.Accts[i].Id, acctWith(5000+i, 7*i, hold("lay", i+1, 99)))
	}
	all := []impl.Book{{}, other, bookOf(slices.Repeat(other.Accts, 3)...), bookOf(named("18", impl.Acct{}), named("18", acctWith(1, 2))), bookOf(impl.Acct{}, named("34", someAcct()))}
	for i := range other.Accts {
		all = append(all, bookOf(other.Accts[i]), bookOf(other.Accts[i:]...))
	}
	last := clonedBook(other)
	slices.Reverse(last.Accts)
	return append(all, last, bookOf(slices.Concat(last.Accts, sixAccts().Accts)...))
}

func TestP10Lay(t *testing.T) {
	for _, l := range someStripes() {
		for _, b := range booksToLay() {
			if got, want := impl.Lay(l, b), layByHand(l, b); stripesText(got) != stripesText(want) {
				t.Errorf("Lay(%+v, %+v) = %+v; want %+v", l, b, got, want)
			}
		}
	}
}

// TestP8APartIsLaidBack checks that laying a part back in its place, changed or not, is not lost and affects no other account.
func TestP8APartIsLaidBack(t *testing.T) {
	for _, l := range goodStripes() {
		for _, set := range sets() {
			part := impl.Part(l, set)
			if got := impl.Lay(l, part); stripesText(got) != stripesText(l) {
				t.Fatalf("a part of %+v in %d is laid back as %+v", l, set, got)
			}
			want := gatherByHand(l)
			for i, a := range part.Accts {
				part.Accts[i].Limit++
				want.Accts[bookAtByHand(want, a.Id)].Limit++
			}
			laid := impl.Lay(l, part)
			if got := impl.Gather(laid); bookText(got) != bookText(want) {
				t.Fatalf("a part of %+v in %d is changed and laid back as %+v", l, set, laid)
			}
		}
	}
}

// stripesMemory is a list of stripes with all of its memory, which goes on behind every list.
type stripesMemory struct {
	list  []impl.Stripe
	whole []impl.Stripe
	books []bookMemory
}

func stripesInMemory(l []impl.Stripe) stripesMemory {
	var m stripesMemory
	for _, s := range slices.Concat(l, []impl.Stripe{stripe(3), stripe(-1, someAcct())}) {
		one := bookInMemory(bookOf(s.Accts...))
		m.books = append(m.books, one)
		m.whole = append(m.whole, stripe(s.Owner, one.book.Accts...))
	}
	m.list = m.whole[:len(l)]
	return m
}

func (m stripesMemory) text() string {
	text := stripesText(m.whole)
	for _, b := range m.books {
		text += b.text() + "\n"
	}
	return text
}

// spoilStripes overwrites everything that a list of stripes gives access to.
func spoilStripes(l []impl.Stripe) {
	for _, s := range l {
		spoilBook(bookOf(s.Accts...))
	}
	clear(l[:cap(l)])
}

// stripeMakers are all ways to get stripes or a book from stripes.
func stripeMakers() map[string]func(l []impl.Stripe) ([]impl.Stripe, impl.Book) {
	made := map[string]func(l []impl.Stripe) ([]impl.Stripe, impl.Book){
		"Gather": func(l []impl.Stripe) ([]impl.Stripe, impl.Book) { return nil, impl.Gather(l) },
		"Spread": func(l []impl.Stripe) ([]impl.Stripe, impl.Book) {
			if len(l) == 0 {
				return nil, impl.Book{}
			}
			return impl.Spread(bookOf(l[0].Accts...), 3), impl.Book{}
		},
		"Lay of its own": func(l []impl.Stripe) ([]impl.Stripe, impl.Book) { return impl.Lay(l, impl.Gather(l)), impl.Book{} },
		"Lay of nothing": func(l []impl.Stripe) ([]impl.Stripe, impl.Book) { return impl.Lay(l, impl.Book{}), impl.Book{} },
	}
	for k := range 3 {
		made[fmt.Sprint("TakeLock of ", k)] = func(l []impl.Stripe) ([]impl.Stripe, impl.Book) {
			l, _ = impl.TakeLock(l, k, 5)
			return l, impl.Book{}
		}
		made[fmt.Sprint("GiveLock of ", k)] = func(l []impl.Stripe) ([]impl.Stripe, impl.Book) {
			l, _ = impl.GiveLock(l, k, 4)
			return l, impl.Book{}
		}
		made[fmt.Sprint("Part of ", k)] = func(l []impl.Stripe) ([]impl.Stripe, impl.Book) {
			return nil, impl.Part(l, []int{k, 1})
		}
		made[fmt.Sprint("Lay of an account in ", k)] = func(l []impl.Stripe) ([]impl.Stripe, impl.Book) {
			if k >= len(l) || len(l[k].Accts) == 0 {
				return impl.Lay(l, impl.Book{}), impl.Book{}
			}
			return impl.Lay(l, bookOf(l[k].Accts[0], l[k].Accts[0])), impl.Book{}
		}
	}
	return made
}

// stripesWithOwners are lists in which some locks are free, some are held by task 4, and some by others.
func stripesWithOwners() [][]impl.Stripe {
	all := [][]impl.Stripe{nil, {stripe(-1)}, {stripe(-1, impl.Acct{}), stripe(4, sixAccts().Accts...)}}
	for n := 1; n <= 6; n++ {
		for _, owners := range [][]int{{-1, 4, -1}, {4, -1, 4}, {-2, 7, 12}} {
			l := spreadByHand(sixAccts(), n)
			for k := range min(n, 3) {
				l[k].Owner = owners[k]
			}
			all = append(all, l)
		}
	}
	return all
}

func TestP10StripesAreNewMemory(t *testing.T) {
	for name, made := range stripeMakers() {
		for _, l := range stripesWithOwners() {
			m := stripesInMemory(l)
			before := m.text()
			one, oneBook := made(m.list)
			two, twoBook := made(m.list)
			if m.text() != before {
				t.Errorf("%s changes its argument %+v", name, l)
			}
			want, wantBook := stripesText(two), bookText(twoBook)
			spoilStripes(one)
			spoilBook(oneBook)
			if stripesText(two) != want || bookText(twoBook) != wantBook {
				t.Errorf("%s: two results share memory: %+v", name, l)
			}
			if m.text() != before {
				t.Errorf("%s: a result shares memory with its argument %+v", name, l)
			}
		}
	}
}

// TestP10AcctsOfStripesAreApart spoils one account of a result after the other, all of which share their memory in the argument.
func TestP10AcctsOfStripesAreApart(t *testing.T) {
	for name, made := range stripeMakers() {
		one := acctInMemory(someAcct())
		shared := []impl.Acct{one.acct, one.acct, one.acct, one.acct}
		for i, id := range []string{"18", "34", "00", "26"} {
			shared[i].Id = id
		}
		before := one.text()
		l := []impl.Stripe{stripe(-1, shared[:2]...), stripe(4, shared[2:]...), stripe(-1, shared...)}
		got, gotBook := made(l)
		want, wantBook := made(clonedStripes(l))
		accts, wantAccts := gotBook.Accts, wantBook.Accts
		for k := range got {
			accts, wantAccts = append(accts, got[k].Accts...), append(wantAccts, want[k].Accts...)
		}
		if len(accts) != len(wantAccts) {
			t.Fatalf("%s: %d accounts; want %d", name, len(accts), len(wantAccts))
		}
		for i := range accts {
			if acctText(accts[i]) != acctText(wantAccts[i]) {
				t.Errorf("%s: account %d is %+v; want %+v", name, i, accts[i], wantAccts[i])
			}
			spoilAcct(accts[i])
		}
		if one.text() != before {
			t.Errorf("%s: a result shares memory with its argument", name)
		}
	}
}

func TestP10SpreadAndLayKeepNoBook(t *testing.T) {
	for _, b := range append(booksToLay(), goodBooks()...) {
		for n := 1; n <= 5; n++ {
			m := bookInMemory(b)
			before := m.text()
			spoilStripes(impl.Spread(m.book, n))
			spoilStripes(impl.Lay(spreadByHand(sixAccts(), n), m.book))
			if m.text() != before {
				t.Errorf("the book %+v over %d stripes has changed", b, n)
			}
		}
	}
}

func TestP10StripesOkLeavesItsArgument(t *testing.T) {
	for _, l := range someStripes() {
		m := stripesInMemory(l)
		before := m.text()
		impl.StripesOk(m.list)
		if m.text() != before {
			t.Errorf("the stripes %+v have changed", l)
		}
	}
}
