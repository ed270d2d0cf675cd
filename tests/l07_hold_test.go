package tests

import (
	"math"
	"math/big"
	"regexp"
	"slices"
	"strings"
	"testing"

	"loop.example/g00735/impl"
)

var holdIds = regexp.MustCompile(`\A[0-9a-z]{1,6}\z`)

func holdOkByHand(h impl.Hold) bool {
	return holdIds.MatchString(h.Id) && h.Amount >= 1 && h.Amount <= 9007199254740992 && h.Due >= 0 && h.Due <= 1000000000
}

// holdsOkByHand looks at all pairs, so that it does not depend on what comes first.
func holdsOkByHand(l []impl.Hold) bool {
	if len(l) > 4 {
		return false
	}
	for i, h := range l {
		if !holdOkByHand(h) {
			return false
		}
		for _, later := range l[i+1:] {
			if h.Id >= later.Id {
				return false
			}
		}
	}
	return true
}

// holdPutByHand sorts all holds anew instead of looking for a place.
func holdPutByHand(l []impl.Hold, h impl.Hold) ([]impl.Hold, bool) {
	if !holdsOkByHand(l) {
		return nil, false
	}
	byId := map[string]impl.Hold{}
	for _, old := range l {
		byId[old.Id] = old
	}
	byId[h.Id] = h
	var put []impl.Hold
	for _, held := range byId {
		put = append(put, held)
	}
	slices.SortFunc(put, func(a, b impl.Hold) int { return strings.Compare(a.Id, b.Id) })
	if !holdsOkByHand(put) {
		return nil, false
	}
	return put, true
}

func dropByHand(l []impl.Hold, id string) []impl.Hold {
	var left []impl.Hold
	for _, h := range l {
		if h.Id != id {
			left = append(left, h)
		}
	}
	return left
}

func liveByHand(l []impl.Hold, now int) []impl.Hold {
	var live []impl.Hold
	for _, h := range l {
		if h.Due > now {
			live = append(live, h)
		}
	}
	return live
}

// storedByHand adds with big numbers and caps once: with amounts that are clamped first, that is the same as capping after every step.
func storedByHand(l []impl.Hold) int {
	sum := new(big.Int)
	for _, h := range l {
		sum.Add(sum, clamped(h.Amount))
	}
	if !bigMoney(sum) {
		return impl.MaxMoney
	}
	return int(sum.Int64())
}

func hold(id string, amount, due int) impl.Hold {
	return impl.Hold{Id: id, Amount: amount, Due: due}
}

// holdsWith has a hold per Id, in the order given; the amounts are powers of two, of which no two sets have one sum.
func holdsWith(ids ...string) []impl.Hold {
	var l []impl.Hold
	for i, id := range ids {
		l = append(l, hold(id, 1<<i, 10*(i+1)))
	}
	return l
}

// goodHolds are all valid lists of up to four of some Ids, and lists at the ends of the ranges.
func goodHolds() [][]impl.Hold {
	ids := []string{"0", "09", "9zzzzz", "a", "aa", "b1"}
	var l [][]impl.Hold
	for mask := range 1 << len(ids) {
		var some []string
		for i, id := range ids {
			if mask>>i&1 == 1 {
				some = append(some, id)
			}
		}
		if len(some) <= 4 {
			l = append(l, holdsWith(some...))
		}
	}
	const most = impl.MaxLimit
	return append(l,
		[]impl.Hold{},
		[]impl.Hold{hold("a", 1, 0)},
		[]impl.Hold{hold("a", most, impl.MaxTime)},
		[]impl.Hold{hold("000000", most, 7), hold("00000z", most, 7), hold("zzzzz", most, 7), hold("zzzzzz", most, 7)},
		[]impl.Hold{hold("a", 5, 40), hold("b", 5, 10), hold("c", 7, 40), hold("d", 1, 0)},
	)
}

// changedHolds returns a good list of three holds with one thing changed in one of them.
func changedHolds(i int, change func(h *impl.Hold)) []impl.Hold {
	l := holdsWith("a", "b", "c")
	change(&l[i])
	return l
}

func oddHolds() [][]impl.Hold {
	l := [][]impl.Hold{
		{{}},
		{{}, {}},
		holdsWith("b", "a"),
		holdsWith("a", "a"),
		holdsWith("c", "c", "c", "c"),
		holdsWith("a", "b", "b"),
		holdsWith("a", "c", "b"),
		holdsWith("b", "a", "c"),
		holdsWith("a", "b", "a"),
		holdsWith("d", "c", "b", "a"),
		holdsWith("aa", "a"),
		holdsWith("a", "9"),
		holdsWith("a", "b", "c", "d", "e"),
		holdsWith("e", "a", "d", "a", "c", "a", "b"),
		holdsWith("", "a"),
		holdsWith("A", "a"),
		holdsWith("a", "toolong"),
		slices.Repeat(holdsWith("a"), 50),
		{hold("a", impl.MaxMoney, 5), hold("b", 1, 5)},
		{hold("a", impl.MaxMoney-1, 5), hold("b", 1, 6)},
		{hold("b", impl.MaxMoney/2, 5), hold("a", impl.MaxMoney/2, 6)},
		{hold("b", -3, 5), hold("a", 10, 6), hold("a", -3, 7)},
		{hold("a", math.MaxInt, math.MaxInt), hold("a", math.MaxInt, math.MinInt), hold("b", math.MinInt, 0)},
	}
	for i := range 3 {
		for _, n := range []int{math.MinInt, -1, 0, impl.MaxLimit + 1, impl.MaxMoney, impl.MaxMoney + 1, math.MaxInt} {
			l = append(l, changedHolds(i, func(h *impl.Hold) { h.Amount = n }))
		}
		for _, n := range []int{math.MinInt, -1, impl.MaxTime + 1, math.MaxInt} {
			l = append(l, changedHolds(i, func(h *impl.Hold) { h.Due = n }))
		}
		for _, s := range []string{"", "B", " ", "b ", "b\xff", "\u00e9", "1234567"} {
			l = append(l, changedHolds(i, func(h *impl.Hold) { h.Id = s }))
		}
	}
	return l
}

func allHolds() [][]impl.Hold {
	return slices.Concat(goodHolds(), oddHolds())
}

// idsToTry are the Ids of the lists, others that belong before, between and behind them, and strings that are none.
func idsToTry() []string {
	return []string{"0", "00", "09", "1", "9zzzzz", "a", "a0", "aa", "b", "b1", "b10", "c", "e", "z", "zzzzzz", "", "A", "B", " ", "a ", "toolong", "\xff"}
}

// timesToTry are the times at and about which a hold of the lists expires, and numbers that are no times.
func timesToTry() []int {
	return append(edgeInts(), 4, 5, 6, 7, 19, 20, 21, 29, 30, 31, 39, 40, 41, 50, 70, 499, 500, 501)
}

func TestP10ConstantsOfChapter8(t *testing.T) {
	if impl.MaxHolds != 4 {
		t.Error("MaxHolds is", impl.MaxHolds)
	}
}

func TestP10HoldIdOkByExample(t *testing.T) {
	for s, want := range map[string]bool{
		"a": true, "z": true, "0": true, "9": true, "h1": true, "1h": true, "abcdef": true, "zzzzzz": true, "000000": true,
		"": false, "abcdefg": false, "0000000": false, "A": false, "Z": false, "H1": false, "a ": false, " a": false, "a b": false,
		"a-b": false, "a_b": false, "a\n": false, "\u00e9": false, "\u0663": false, "\uff11": false, "a\xff": false, "a\x00": false,
		"`": false, "{": false, "/": false, ":": false,
	} {
		if got := impl.HoldIdOk(s); got != want {
			t.Errorf("HoldIdOk(%q) = %v", s, got)
		}
	}
}

func TestP10HoldIdOk(t *testing.T) {
	l := append(manyStrings(), stringsOf(7, "a", "9")...)
	for n := range 9 {
		for at := range n {
			for b := range 256 {
				s := []byte(strings.Repeat("m", n))
				s[at] = byte(b)
				l = append(l, string(s))
			}
		}
	}
	for _, s := range l {
		if got, want := impl.HoldIdOk(s), holdIds.MatchString(s); got != want {
			t.Errorf("HoldIdOk(%q) = %v", s, got)
		}
	}
}

func TestP10HoldOkByExample(t *testing.T) {
	for _, c := range []struct {
		h    impl.Hold
		want bool
	}{
		{hold("a", 5, 10), true},
		{hold("a", 1, 0), true},
		{hold("zzzzzz", 9007199254740992, 1000000000), true},
		{hold("a", 0, 10), false},
		{hold("a", -1, 10), false},
		{hold("a", 9007199254740993, 10), false},
		{hold("a", 5, -1), false},
		{hold("a", 5, 1000000001), false},
		{hold("", 5, 10), false},
		{hold("A", 5, 10), false},
		{hold("abcdefg", 5, 10), false},
		{impl.Hold{}, false},
	} {
		if got := impl.HoldOk(c.h); got != c.want {
			t.Errorf("HoldOk(%+v) = %v", c.h, got)
		}
	}
}

func TestP10HoldOk(t *testing.T) {
	for _, id := range idsToTry() {
		for _, amount := range edgeInts() {
			for _, due := range edgeInts() {
				h := hold(id, amount, due)
				if got, want := impl.HoldOk(h), holdOkByHand(h); got != want {
					t.Errorf("HoldOk(%+v) = %v", h, got)
				}
			}
		}
	}
}

func TestP10HoldsOkByExample(t *testing.T) {
	for name, c := range map[string]struct {
		l    []impl.Hold
		want bool
	}{
		"none":                    {nil, true},
		"an empty list":           {[]impl.Hold{}, true},
		"one":                     {holdsWith("a"), true},
		"four":                    {holdsWith("a", "b", "c", "d"), true},
		"a prefix first":          {holdsWith("a", "aa"), true},
		"a digit first":           {holdsWith("9", "a"), true},
		"expired ones":            {[]impl.Hold{hold("a", 5, 0), hold("b", 5, 0)}, true},
		"more than one limit":     {[]impl.Hold{hold("a", impl.MaxLimit, 1), hold("b", impl.MaxLimit, 1)}, true},
		"five":                    {holdsWith("a", "b", "c", "d", "e"), false},
		"two of one name":         {holdsWith("a", "a"), false},
		"one again later":         {holdsWith("a", "b", "a"), false},
		"descending":              {holdsWith("b", "a"), false},
		"a prefix last":           {holdsWith("aa", "a"), false},
		"the last two descending": {holdsWith("a", "b", "d", "c"), false},
		"an invalid first one":    {[]impl.Hold{hold("a", 0, 1), hold("b", 1, 1)}, false},
		"an invalid last one":     {[]impl.Hold{hold("a", 1, 1), hold("b", 1, -1)}, false},
		"no name":                 {holdsWith("", "a"), false},
		"the zero value":          {[]impl.Hold{{}}, false},
	} {
		if got := impl.HoldsOk(c.l); got != c.want {
			t.Errorf("%s: HoldsOk(%+v) = %v", name, c.l, got)
		}
	}
}

func TestP10HoldsOk(t *testing.T) {
	l := allHolds()
	ids := []string{"a", "b", "c", "d", "e"}
	for _, s := range stringsOf(5, ids...) {
		l = append(l, holdsWith(strings.Split(s, "")...))
	}
	for _, holds := range l {
		if got, want := impl.HoldsOk(holds), holdsOkByHand(holds); got != want {
			t.Errorf("HoldsOk(%+v) = %v", holds, got)
		}
	}
}

func TestP7LiveByExample(t *testing.T) {
	for _, c := range []struct {
		due, now int
		want     bool
	}{
		{10, 9, true}, {10, 10, false}, {10, 11, false}, {0, 0, false}, {1, 0, true}, {0, -1, true},
		{impl.MaxTime, impl.MaxTime - 1, true}, {impl.MaxTime, impl.MaxTime, false},
		{math.MaxInt, math.MaxInt - 1, true}, {math.MaxInt, math.MinInt, true}, {math.MinInt, math.MaxInt, false},
	} {
		if got := impl.Live(hold("a", 5, c.due), c.now); got != c.want {
			t.Errorf("a hold due at %d is live at %d: %v", c.due, c.now, got)
		}
	}
}

func TestP7Live(t *testing.T) {
	for _, due := range timesToTry() {
		for _, now := range timesToTry() {
			for _, h := range []impl.Hold{hold("a", 5, due), hold("", 0, due), hold("A", -1, due)} {
				if got := impl.Live(h, now); got != (due > now) {
					t.Errorf("Live(%+v, %d) = %v", h, now, got)
				}
			}
		}
	}
}

func TestP10HoldAtByExample(t *testing.T) {
	for _, c := range []struct {
		ids  []string
		id   string
		want int
	}{
		{nil, "a", -1},
		{nil, "", -1},
		{[]string{"a"}, "a", 0},
		{[]string{"a", "b", "c"}, "b", 1},
		{[]string{"a", "b", "c"}, "c", 2},
		{[]string{"a", "b", "c"}, "0", -1},
		{[]string{"a", "b", "c"}, "bb", -1},
		{[]string{"a", "b", "c"}, "d", -1},
		{[]string{"a", "b", "c"}, "", -1},
		{[]string{"a", "b", "c"}, "B", -1},
		{[]string{"c", "b", "a"}, "a", 2},
		{[]string{"c", "b", "a"}, "c", 0},
		{[]string{"b", "a", "b", "a"}, "a", 1},
		{[]string{"b", "b", "b"}, "b", 0},
		{[]string{"b", "", "A"}, "", 1},
		{[]string{"b", "", "A"}, "A", 2},
		{[]string{"a", "b", "c", "d", "e", "f"}, "f", 5},
	} {
		if got := impl.HoldAt(holdsWith(c.ids...), c.id); got != c.want {
			t.Errorf("HoldAt of %q in %q = %d; want %d", c.id, c.ids, got, c.want)
		}
	}
}

func TestP10HoldAt(t *testing.T) {
	for _, l := range allHolds() {
		for _, id := range idsToTry() {
			want := slices.IndexFunc(l, func(h impl.Hold) bool { return h.Id == id })
			if got := impl.HoldAt(l, id); got != want {
				t.Errorf("HoldAt(%+v, %q) = %d; want %d", l, id, got, want)
			}
		}
	}
}

func TestP2StoredByExample(t *testing.T) {
	const most = impl.MaxMoney
	for _, c := range []struct {
		amounts []int
		want    int
	}{
		{nil, 0},
		{[]int{5}, 5},
		{[]int{5, 7, 9, 11}, 32},
		{[]int{impl.MaxLimit, impl.MaxLimit, impl.MaxLimit, impl.MaxLimit}, 36028797018963968},
		{[]int{most}, most},
		{[]int{most - 1, 1}, most},
		{[]int{most, 1}, most},
		{[]int{most, most, most}, most},
		{[]int{most + 1}, most},
		{[]int{math.MaxInt, math.MaxInt}, most},
		{[]int{-5}, 0},
		{[]int{10, -5}, 10},
		{[]int{-5, 10}, 10},
		{[]int{math.MinInt, 3, math.MinInt}, 3},
		{[]int{most, -1, 5}, most},
	} {
		var l []impl.Hold
		for _, amount := range c.amounts {
			l = append(l, hold("a", amount, 10))
		}
		if got := impl.Stored(l); got != c.want {
			t.Errorf("Stored of %v = %d; want %d", c.amounts, got, c.want)
		}
	}
}

func TestP2StoredCountsExpiredHoldsToo(t *testing.T) {
	for _, l := range allHolds() {
		if got, want := impl.Stored(l), storedByHand(l); got != want {
			t.Errorf("Stored(%+v) = %d; want %d", l, got, want)
		}
		for _, due := range timesToTry() {
			moved := slices.Clone(l)
			for i := range moved {
				moved[i].Due = due
			}
			if got, want := impl.Stored(moved), storedByHand(l); got != want {
				t.Errorf("with all holds due at %d, Stored(%+v) = %d; want %d", due, moved, got, want)
			}
		}
	}
}

func TestP7LiveSumByExample(t *testing.T) {
	l := []impl.Hold{hold("a", 1, 10), hold("b", 2, 30), hold("c", 4, 20), hold("d", 8, 10)}
	for _, c := range []struct{ now, want int }{
		{-1, 15}, {0, 15}, {9, 15}, {10, 6}, {11, 6}, {19, 6}, {20, 2}, {29, 2}, {30, 0}, {31, 0},
		{impl.MaxTime, 0}, {math.MaxInt, 0}, {math.MinInt, 15},
	} {
		if got := impl.LiveSum(l, c.now); got != c.want {
			t.Errorf("LiveSum at %d = %d; want %d", c.now, got, c.want)
		}
		if got := impl.Stored(l); got != 15 {
			t.Errorf("Stored = %d", got)
		}
	}
}

func TestP7ExpiredHoldsAreNotCounted(t *testing.T) {
	for _, l := range allHolds() {
		for _, now := range timesToTry() {
			live := liveByHand(l, now)
			if got := impl.LiveOnes(l, now); !slices.Equal(got, live) {
				t.Errorf("LiveOnes(%+v, %d) = %+v; want %+v", l, now, got, live)
			}
			if got, want := impl.LiveSum(l, now), storedByHand(live); got != want {
				t.Errorf("LiveSum(%+v, %d) = %d; want %d", l, now, got, want)
			}
		}
	}
}

func TestP7LiveOnesByExample(t *testing.T) {
	l := []impl.Hold{hold("a", 1, 10), hold("b", 2, 30), hold("c", 4, 20), hold("d", 8, 10)}
	for _, c := range []struct {
		now  int
		want []impl.Hold
	}{
		{0, l}, {9, l}, {-1, l},
		{10, l[1:3]}, {19, l[1:3]},
		{20, l[1:2]}, {29, l[1:2]},
		{30, nil}, {impl.MaxTime, nil}, {math.MaxInt, nil},
	} {
		if got := impl.LiveOnes(l, c.now); !slices.Equal(got, c.want) {
			t.Errorf("LiveOnes at %d = %+v; want %+v", c.now, got, c.want)
		}
	}
	odd := []impl.Hold{hold("b", 2, 30), hold("a", -1, 30), hold("b", 2, 10), hold("b", 2, 30)}
	want := []impl.Hold{hold("b", 2, 30), hold("a", -1, 30), hold("b", 2, 30)}
	if got := impl.LiveOnes(odd, 10); !slices.Equal(got, want) {
		t.Errorf("LiveOnes(%+v, 10) = %+v", odd, got)
	}
}

func TestP7SweepingHoldsIsNotObservable(t *testing.T) {
	for _, l := range allHolds() {
		for early := range 60 {
			swept := impl.LiveOnes(l, early)
			if impl.HoldsOk(l) && !impl.HoldsOk(swept) {
				t.Errorf("LiveOnes(%+v, %d) = %+v, which is not valid", l, early, swept)
			}
			for _, late := range []int{early, early + 1, early + 7, early + 20, impl.MaxTime} {
				if got, want := impl.LiveOnes(swept, late), impl.LiveOnes(l, late); !slices.Equal(got, want) {
					t.Errorf("%+v swept at %d: the live ones at %d are %+v; want %+v", l, early, late, got, want)
				}
				if got, want := impl.LiveSum(swept, late), impl.LiveSum(l, late); got != want {
					t.Errorf("%+v swept at %d: LiveSum at %d is %d; want %d", l, early, late, got, want)
				}
			}
			if got, want := impl.Stored(swept), impl.LiveSum(l, early); got != want {
				t.Errorf("%+v swept at %d stores %d; want %d", l, early, got, want)
			}
		}
	}
}

func TestP10HoldPutByExample(t *testing.T) {
	b := hold("b", 50, 99)
	for name, c := range map[string]struct {
		l    []impl.Hold
		h    impl.Hold
		want []impl.Hold
	}{
		"the first one":            {nil, b, []impl.Hold{b}},
		"into an empty list":       {[]impl.Hold{}, b, []impl.Hold{b}},
		"before":                   {[]impl.Hold{hold("c", 7, 4)}, b, []impl.Hold{b, hold("c", 7, 4)}},
		"behind":                   {[]impl.Hold{hold("a", 7, 4)}, b, []impl.Hold{hold("a", 7, 4), b}},
		"between":                  {[]impl.Hold{hold("a", 7, 4), hold("c", 8, 5)}, b, []impl.Hold{hold("a", 7, 4), b, hold("c", 8, 5)}},
		"behind a prefix":          {[]impl.Hold{hold("a", 7, 4), hold("b1", 8, 5)}, b, []impl.Hold{hold("a", 7, 4), b, hold("b1", 8, 5)}},
		"instead of another":       {[]impl.Hold{hold("b", 7, 4)}, b, []impl.Hold{b}},
		"instead of the first one": {[]impl.Hold{hold("b", 7, 4), hold("c", 8, 5)}, b, []impl.Hold{b, hold("c", 8, 5)}},
		"instead of the last one":  {[]impl.Hold{hold("a", 7, 4), hold("b", 8, 5)}, b, []impl.Hold{hold("a", 7, 4), b}},
		"the fourth":               {holdsWith("a", "c", "d"), b, []impl.Hold{hold("a", 1, 10), b, hold("c", 2, 20), hold("d", 4, 30)}},
		"one of four":              {holdsWith("a", "b", "c", "d"), b, []impl.Hold{hold("a", 1, 10), b, hold("c", 4, 30), hold("d", 8, 40)}},
		"an expired one":           {nil, hold("b", 1, 0), []impl.Hold{hold("b", 1, 0)}},
	} {
		if got, ok := impl.HoldPut(c.l, c.h); !ok || !slices.Equal(got, c.want) {
			t.Errorf("%s: HoldPut(%+v, %+v) = %+v, %v; want %+v", name, c.l, c.h, got, ok, c.want)
		}
	}
	for name, c := range map[string]struct {
		l []impl.Hold
		h impl.Hold
	}{
		"a fifth":                        {holdsWith("a", "c", "d", "e"), b},
		"one of five":                    {holdsWith("a", "b", "c", "d", "e"), b},
		"no amount":                      {holdsWith("a"), hold("b", 0, 9)},
		"too large an amount":            {holdsWith("a"), hold("b", impl.MaxLimit+1, 9)},
		"no time":                        {holdsWith("a"), hold("b", 1, -1)},
		"too late a time":                {holdsWith("a"), hold("b", 1, impl.MaxTime+1)},
		"no name":                        {holdsWith("a"), hold("", 1, 9)},
		"a capital":                      {holdsWith("a"), hold("B", 1, 9)},
		"an invalid one for a valid one": {holdsWith("a", "b"), hold("b", 0, 9)},
		"a valid one for an invalid one": {[]impl.Hold{hold("a", 1, 9), hold("b", 0, 9)}, b},
		"beside an invalid one":          {[]impl.Hold{hold("a", 0, 9)}, b},
		"into a descending list":         {holdsWith("c", "a"), b},
		"in place of two of one name":    {holdsWith("b", "b"), b},
		"the zero value":                 {nil, impl.Hold{}},
	} {
		if got, ok := impl.HoldPut(c.l, c.h); ok || len(got) != 0 {
			t.Errorf("%s: HoldPut(%+v, %+v) = %+v, %v", name, c.l, c.h, got, ok)
		}
	}
}

func TestP10HoldPut(t *testing.T) {
	for _, l := range allHolds() {
		for _, id := range idsToTry() {
			for _, h := range []impl.Hold{
				hold(id, 512, 77), hold(id, 1, 0), hold(id, impl.MaxLimit, impl.MaxTime),
				hold(id, 0, 77), hold(id, impl.MaxLimit+1, 77), hold(id, 512, -1), hold(id, 512, impl.MaxTime+1),
			} {
				got, ok := impl.HoldPut(l, h)
				want, wantOk := holdPutByHand(l, h)
				if ok != wantOk || !slices.Equal(got, want) {
					t.Errorf("HoldPut(%+v, %+v) = %+v, %v; want %+v, %v", l, h, got, ok, want, wantOk)
				}
			}
		}
	}
}

func TestP10HoldDropByExample(t *testing.T) {
	for _, c := range []struct {
		l    []impl.Hold
		id   string
		want []impl.Hold
	}{
		{nil, "a", nil},
		{holdsWith("a"), "a", nil},
		{holdsWith("a", "b", "c"), "a", []impl.Hold{hold("b", 2, 20), hold("c", 4, 30)}},
		{holdsWith("a", "b", "c"), "b", []impl.Hold{hold("a", 1, 10), hold("c", 4, 30)}},
		{holdsWith("a", "b", "c"), "c", []impl.Hold{hold("a", 1, 10), hold("b", 2, 20)}},
		{holdsWith("a", "b", "c"), "d", holdsWith("a", "b", "c")},
		{holdsWith("a", "b", "c"), "", holdsWith("a", "b", "c")},
		{holdsWith("a", "b", "c"), "B", holdsWith("a", "b", "c")},
		{holdsWith("b", "a", "b", "a", "b"), "b", []impl.Hold{hold("a", 2, 20), hold("a", 8, 40)}},
		{holdsWith("b", "b", "b"), "b", nil},
		{holdsWith("", "b", ""), "", []impl.Hold{hold("b", 2, 20)}},
	} {
		if got := impl.HoldDrop(c.l, c.id); !slices.Equal(got, c.want) {
			t.Errorf("HoldDrop(%+v, %q) = %+v; want %+v", c.l, c.id, got, c.want)
		}
	}
}

func TestP10HoldDrop(t *testing.T) {
	for _, l := range allHolds() {
		for _, id := range idsToTry() {
			got := impl.HoldDrop(l, id)
			if want := dropByHand(l, id); !slices.Equal(got, want) {
				t.Errorf("HoldDrop(%+v, %q) = %+v; want %+v", l, id, got, want)
			}
			if impl.HoldsOk(l) && !impl.HoldsOk(got) {
				t.Errorf("HoldDrop(%+v, %q) = %+v, which is not valid", l, id, got)
			}
		}
	}
}

// TestP2StoredFollowsPutAndDrop checks that no amount is reserved but by HoldPut, and none released but by replacing or dropping its hold.
func TestP2StoredFollowsPutAndDrop(t *testing.T) {
	for _, l := range goodHolds() {
		for _, id := range idsToTry() {
			before, at := impl.Stored(l), impl.HoldAt(l, id)
			old := 0
			if at >= 0 {
				old = l[at].Amount
			}
			if got := impl.Stored(impl.HoldDrop(l, id)); got != before-old {
				t.Errorf("without %q, %+v stores %d; want %d", id, l, got, before-old)
			}
			put, ok := impl.HoldPut(l, hold(id, 1000, 0))
			if !ok {
				continue
			}
			if got := impl.Stored(put); got != before-old+1000 {
				t.Errorf("with 1000 for %q, %+v stores %d; want %d", id, l, got, before-old+1000)
			}
			if got := put[impl.HoldAt(put, id)]; got != hold(id, 1000, 0) {
				t.Errorf("%+v holds %+v", put, got)
			}
			if got, want := impl.HoldDrop(put, id), impl.HoldDrop(l, id); !slices.Equal(got, want) {
				t.Errorf("HoldDrop after HoldPut of %q = %+v; want %+v", id, got, want)
			}
		}
	}
}

// holdMakers are all ways to get a list of holds from another one.
func holdMakers() map[string]func(l []impl.Hold) []impl.Hold {
	put := func(id string) func(l []impl.Hold) []impl.Hold {
		return func(l []impl.Hold) []impl.Hold {
			put, _ := impl.HoldPut(l, hold(id, 512, 77))
			return put
		}
	}
	return map[string]func(l []impl.Hold) []impl.Hold{
		"HoldPut before":        put("0"),
		"HoldPut between":       put("a0"),
		"HoldPut behind":        put("zz"),
		"HoldPut instead":       put("a"),
		"HoldPut of no hold":    put("A"),
		"HoldDrop":              func(l []impl.Hold) []impl.Hold { return impl.HoldDrop(l, "a") },
		"HoldDrop of none":      func(l []impl.Hold) []impl.Hold { return impl.HoldDrop(l, "x") },
		"LiveOnes":              func(l []impl.Hold) []impl.Hold { return impl.LiveOnes(l, 10) },
		"LiveOnes, all of them": func(l []impl.Hold) []impl.Hold { return impl.LiveOnes(l, math.MinInt) },
		"LiveOnes, none":        func(l []impl.Hold) []impl.Hold { return impl.LiveOnes(l, math.MaxInt) },
	}
}

// withHoldsBehind returns a slice equal to l and all of its memory, which goes on behind the slice.
func withHoldsBehind(l []impl.Hold) ([]impl.Hold, []impl.Hold) {
	whole := slices.Concat(l, []impl.Hold{hold("y1", 71, 72), hold("y2", 73, 74), hold("y3", 75, 76)})
	return whole[:len(l)], whole
}

// spoilHolds overwrites everything that a slice gives access to.
func spoilHolds(l []impl.Hold) {
	l = l[:cap(l)]
	for i := range l {
		l[i] = hold("spoilt", -77, -77)
	}
}

func TestP10HoldsAreNewMemory(t *testing.T) {
	for name, made := range holdMakers() {
		for _, l := range allHolds() {
			given, whole := withHoldsBehind(l)
			before := slices.Clone(whole)
			one, two := made(given), made(given)
			if !slices.Equal(whole, before) {
				t.Errorf("%s changes its argument %+v to %+v", name, before, whole)
			}
			expected := slices.Clone(two)
			spoilHolds(one)
			if !slices.Equal(two, expected) {
				t.Errorf("%s: two results share memory: %+v", name, l)
			}
			if !slices.Equal(whole, before) {
				t.Errorf("%s: a result shares memory with its argument %+v", name, l)
			}
		}
	}
}

func TestP10HoldAnswersLeaveTheirArguments(t *testing.T) {
	for _, l := range allHolds() {
		given, whole := withHoldsBehind(l)
		before := slices.Clone(whole)
		impl.HoldsOk(given)
		impl.Stored(given)
		for _, id := range idsToTry() {
			impl.HoldAt(given, id)
		}
		for _, now := range timesToTry() {
			impl.LiveSum(given, now)
		}
		if !slices.Equal(whole, before) {
			t.Errorf("the holds %+v are now %+v", before, whole)
		}
	}
}
