package tests

import (
	"math"
	"math/big"
	"slices"
	"testing"

	"loop.example/g00735/impl"
)

// arrival is what a window has to count: the expectations below start from
// these and from the numbers of intervals, and never move a bucket.
type arrival struct {
	time   int
	amount int
}

func sameRing(a, b impl.Ring) bool {
	return a.Span == b.Span && a.Head == b.Head && slices.Equal(a.Counts, b.Counts) && slices.Equal(a.Sums, b.Sums)
}

func zeroRing(r impl.Ring) bool {
	return r.Span == 0 && r.Head == 0 && len(r.Counts) == 0 && len(r.Sums) == 0
}

func clonedRing(r impl.Ring) impl.Ring {
	return impl.Ring{Span: r.Span, Head: r.Head, Counts: slices.Clone(r.Counts), Sums: slices.Clone(r.Sums)}
}

func timeByHand(n int) bool {
	return n >= 0 && n <= 1000000000
}

func moneyByHand(n int) bool {
	return n >= 0 && n <= 4611686018427387904
}

func ringOkByHand(r impl.Ring) bool {
	if r.Span < 1 || r.Span > 1000 || len(r.Counts) < 1 || len(r.Counts) > 8 || len(r.Sums) != len(r.Counts) || !timeByHand(r.Head) {
		return false
	}
	return !slices.ContainsFunc(slices.Concat(r.Counts, r.Sums), func(n int) bool { return !moneyByHand(n) })
}

// cappedSum adds with big numbers and caps once: with money only, that is the same as capping after every step.
func cappedSum(l ...int) int {
	sum := new(big.Int)
	for _, n := range l {
		sum.Add(sum, big.NewInt(int64(n)))
	}
	if !bigMoney(sum) {
		return impl.MaxMoney
	}
	return int(sum.Int64())
}

// inInterval returns what the bucket of an interval contains, 0 if the ring has no such bucket.
func inInterval(l []int, head, interval int) int {
	if i := head - interval; i >= 0 && i < len(l) {
		return l[i]
	}
	return 0
}

func rollByHand(r impl.Ring, now int) impl.Ring {
	if !ringOkByHand(r) || !timeByHand(now) || now/r.Span <= r.Head {
		return clonedRing(r)
	}
	rolled := impl.Ring{Span: r.Span, Head: now / r.Span}
	for i := range r.Counts {
		rolled.Counts = append(rolled.Counts, inInterval(r.Counts, r.Head, rolled.Head-i))
		rolled.Sums = append(rolled.Sums, inInterval(r.Sums, r.Head, rolled.Head-i))
	}
	return rolled
}

func addByHand(r impl.Ring, now, amount int) impl.Ring {
	if !ringOkByHand(r) || !timeByHand(now) || !moneyByHand(amount) {
		return clonedRing(r)
	}
	added := rollByHand(r, now)
	added.Counts[0] = cappedSum(added.Counts[0], 1)
	added.Sums[0] = cappedSum(added.Sums[0], amount)
	return added
}

func totalsByHand(r impl.Ring, now int) (int, int) {
	if !ringOkByHand(r) || !timeByHand(now) {
		return 0, 0
	}
	rolled := rollByHand(r, now)
	return cappedSum(rolled.Counts...), cappedSum(rolled.Sums...)
}

func checkRing(t *testing.T, r impl.Ring, now int) {
	t.Helper()
	if got, want := impl.RingRoll(r, now), rollByHand(r, now); !sameRing(got, want) {
		t.Errorf("RingRoll(%+v, %d) = %+v; want %+v", r, now, got, want)
	}
	count, sum := totalsByHand(r, now)
	if got := impl.RingCount(r, now); got != count {
		t.Errorf("RingCount(%+v, %d) = %d; want %d", r, now, got, count)
	}
	if got := impl.RingSum(r, now); got != sum {
		t.Errorf("RingSum(%+v, %d) = %d; want %d", r, now, got, sum)
	}
}

func checkAdd(t *testing.T, r impl.Ring, now, amount int) {
	t.Helper()
	if got, want := impl.RingAdd(r, now, amount), addByHand(r, now, amount); !sameRing(got, want) {
		t.Errorf("RingAdd(%+v, %d, %d) = %+v; want %+v", r, now, amount, got, want)
	}
}

// ringWith has buckets that all differ: bucket i counts i + 1 requests for 100 each.
func ringWith(buckets, span, head int) impl.Ring {
	r := impl.Ring{Span: span, Head: head}
	for i := range buckets {
		r.Counts = append(r.Counts, i+1)
		r.Sums = append(r.Sums, 100*(i+1))
	}
	return r
}

// goodRings have every number of buckets, and heads that no time reaches too.
func goodRings() []impl.Ring {
	var l []impl.Ring
	for buckets := 1; buckets <= 8; buckets++ {
		for _, span := range []int{1, 2, 7, 999, 1000} {
			for _, head := range []int{0, 1, 5, impl.MaxTime/span - 1, impl.MaxTime / span, impl.MaxTime - 1, impl.MaxTime} {
				l = append(l, ringWith(buckets, span, head))
			}
		}
	}
	return append(l, fullRings()...)
}

// fullRings hold amounts whose sums leave the range of money, or stay just within it.
func fullRings() []impl.Ring {
	const most, half = impl.MaxMoney, impl.MaxMoney / 2
	return []impl.Ring{
		{Span: 5, Head: 2, Counts: []int{most}, Sums: []int{most}},
		{Span: 5, Head: 2, Counts: []int{most - 1}, Sums: []int{most - 7}},
		{Span: 5, Head: 2, Counts: []int{half, half}, Sums: []int{half, half - 1}},
		{Span: 5, Head: 2, Counts: []int{half, half + 1}, Sums: []int{1, most}},
		{Span: 5, Head: 2, Counts: []int{0, most, 0}, Sums: []int{most, most, most}},
		{Span: 5, Head: 2, Counts: slices.Repeat([]int{most}, 8), Sums: slices.Repeat([]int{most}, 8)},
		{Span: 5, Head: 2, Counts: slices.Repeat([]int{0}, 8), Sums: slices.Repeat([]int{0}, 8)},
	}
}

// changedRing returns a good ring of three buckets with one thing changed.
func changedRing(change func(r *impl.Ring)) impl.Ring {
	r := ringWith(3, 5, 2)
	change(&r)
	return r
}

func oddRings() []impl.Ring {
	l := []impl.Ring{
		{},
		{Span: 5, Head: 2},
		{Span: 5, Counts: []int{}, Sums: []int{}},
		{Span: 5, Counts: []int{1}},
		{Span: 5, Sums: []int{1}},
		{Span: 5, Counts: []int{1, 2}, Sums: []int{1}},
		{Span: 5, Counts: []int{1}, Sums: []int{1, 2}},
		ringWith(9, 5, 2),
		ringWith(100, 5, 2),
		{Span: 5, Counts: make([]int, 8), Sums: make([]int, 9)},
		{Span: 5, Counts: make([]int, 9), Sums: make([]int, 8)},
	}
	for _, n := range []int{math.MinInt, -1000, -1, 0, 1001, 1002, impl.MaxTime, math.MaxInt} {
		l = append(l, changedRing(func(r *impl.Ring) { r.Span = n }))
	}
	for _, n := range []int{math.MinInt, -1, impl.MaxTime + 1, impl.MaxMoney, math.MaxInt} {
		l = append(l, changedRing(func(r *impl.Ring) { r.Head = n }))
	}
	for _, n := range []int{math.MinInt, -1, impl.MaxMoney + 1, math.MaxInt} {
		for i := range 3 {
			l = append(l, changedRing(func(r *impl.Ring) { r.Counts[i] = n }), changedRing(func(r *impl.Ring) { r.Sums[i] = n }))
		}
	}
	return l
}

// timesAround are the times at the ends of the intervals about the buckets of a ring, and numbers that are no times.
func timesAround(r impl.Ring) []int {
	l := edgeInts()
	if r.Span < 1 || r.Span > 1000 || !timeByHand(r.Head) {
		return l
	}
	for interval := r.Head - 2; interval <= r.Head+10; interval++ {
		l = append(l, interval*r.Span-1, interval*r.Span, interval*r.Span+1)
	}
	return l
}

func TestP10ConstantsOfChapter7(t *testing.T) {
	if impl.MaxBuckets != 8 {
		t.Error("MaxBuckets is", impl.MaxBuckets)
	}
}

func TestP10RingNew(t *testing.T) {
	sizes := append(edgeInts(), 2, 3, 4, 5, 6, 7, 8, 500, 998, 999, 1000, 1001, 1002)
	for _, buckets := range sizes {
		for _, span := range sizes {
			r, ok := impl.RingNew(buckets, span)
			want := buckets >= 1 && buckets <= 8 && span >= 1 && span <= 1000
			if ok != want || !ok && !zeroRing(r) {
				t.Errorf("RingNew(%d, %d) = %+v, %v; want %v", buckets, span, r, ok, want)
			}
			if !ok || !want {
				continue
			}
			empty := make([]int, buckets)
			if !sameRing(r, impl.Ring{Span: span, Counts: empty, Sums: empty}) || !impl.RingOk(r) {
				t.Errorf("RingNew(%d, %d) = %+v", buckets, span, r)
			}
		}
	}
}

func TestP10RingOkByExample(t *testing.T) {
	for name, c := range map[string]struct {
		r    impl.Ring
		want bool
	}{
		"ordinary":              {impl.Ring{Span: 5, Head: 2, Counts: []int{1, 0}, Sums: []int{30, 0}}, true},
		"one bucket":            {impl.Ring{Span: 1, Head: 0, Counts: []int{0}, Sums: []int{0}}, true},
		"the most of all":       {impl.Ring{Span: 1000, Head: 1000000000, Counts: slices.Repeat([]int{impl.MaxMoney}, 8), Sums: slices.Repeat([]int{impl.MaxMoney}, 8)}, true},
		"a sum without a count": {impl.Ring{Span: 5, Counts: []int{0}, Sums: []int{7}}, true},
		"the zero value":        {impl.Ring{}, false},
		"no buckets":            {impl.Ring{Span: 5}, false},
		"nine buckets":          {impl.Ring{Span: 5, Counts: make([]int, 9), Sums: make([]int, 9)}, false},
		"too few sums":          {impl.Ring{Span: 5, Counts: []int{1, 1}, Sums: []int{1}}, false},
		"too many sums":         {impl.Ring{Span: 5, Counts: []int{1}, Sums: []int{1, 1}}, false},
		"no span":               {impl.Ring{Span: 0, Counts: []int{1}, Sums: []int{1}}, false},
		"too long a span":       {impl.Ring{Span: 1001, Counts: []int{1}, Sums: []int{1}}, false},
		"a head below":          {impl.Ring{Span: 5, Head: -1, Counts: []int{1}, Sums: []int{1}}, false},
		"a head above":          {impl.Ring{Span: 5, Head: 1000000001, Counts: []int{1}, Sums: []int{1}}, false},
		"a count below":         {impl.Ring{Span: 5, Counts: []int{0, -1}, Sums: []int{0, 0}}, false},
		"a count above":         {impl.Ring{Span: 5, Counts: []int{impl.MaxMoney + 1, 0}, Sums: []int{0, 0}}, false},
		"a sum below":           {impl.Ring{Span: 5, Counts: []int{0, 0}, Sums: []int{0, -1}}, false},
		"a sum above":           {impl.Ring{Span: 5, Counts: []int{0, 0}, Sums: []int{impl.MaxMoney + 1, 0}}, false},
	} {
		if got := impl.RingOk(c.r); got != c.want {
			t.Errorf("%s: RingOk(%+v) = %v", name, c.r, got)
		}
	}
}

func TestP10RingOk(t *testing.T) {
	for _, r := range slices.Concat(goodRings(), oddRings()) {
		if got, want := impl.RingOk(r), ringOkByHand(r); got != want {
			t.Errorf("RingOk(%+v) = %v; want %v", r, got, want)
		}
	}
	for _, n := range append(edgeInts(), 999, 1000, 1001) {
		for _, r := range []impl.Ring{
			changedRing(func(r *impl.Ring) { r.Span = n }), changedRing(func(r *impl.Ring) { r.Head = n }),
			changedRing(func(r *impl.Ring) { r.Counts[1] = n }), changedRing(func(r *impl.Ring) { r.Sums[2] = n }),
		} {
			if got, want := impl.RingOk(r), ringOkByHand(r); got != want {
				t.Errorf("RingOk(%+v) = %v; want %v", r, got, want)
			}
		}
	}
	for counts := range 12 {
		for sums := range 12 {
			r := impl.Ring{Span: 1, Counts: make([]int, counts), Sums: make([]int, sums)}
			if got, want := impl.RingOk(r), ringOkByHand(r); got != want {
				t.Errorf("RingOk with %d counts and %d sums = %v", counts, sums, got)
			}
		}
	}
}

func TestP7RingRollByExample(t *testing.T) {
	r := impl.Ring{Span: 10, Head: 4, Counts: []int{1, 2, 3}, Sums: []int{100, 200, 300}}
	for _, c := range []struct {
		now          int
		head         int
		counts, sums []int
	}{
		{0, 4, []int{1, 2, 3}, []int{100, 200, 300}},
		{39, 4, []int{1, 2, 3}, []int{100, 200, 300}},
		{40, 4, []int{1, 2, 3}, []int{100, 200, 300}},
		{49, 4, []int{1, 2, 3}, []int{100, 200, 300}},
		{50, 5, []int{0, 1, 2}, []int{0, 100, 200}},
		{59, 5, []int{0, 1, 2}, []int{0, 100, 200}},
		{60, 6, []int{0, 0, 1}, []int{0, 0, 100}},
		{69, 6, []int{0, 0, 1}, []int{0, 0, 100}},
		{70, 7, []int{0, 0, 0}, []int{0, 0, 0}},
		{80, 8, []int{0, 0, 0}, []int{0, 0, 0}},
		{impl.MaxTime, 100000000, []int{0, 0, 0}, []int{0, 0, 0}},
		{impl.MaxTime + 1, 4, []int{1, 2, 3}, []int{100, 200, 300}},
		{-1, 4, []int{1, 2, 3}, []int{100, 200, 300}},
	} {
		want := impl.Ring{Span: 10, Head: c.head, Counts: c.counts, Sums: c.sums}
		if got := impl.RingRoll(r, c.now); !sameRing(got, want) {
			t.Errorf("RingRoll(%+v, %d) = %+v; want %+v", r, c.now, got, want)
		}
	}
}

func TestP7RingAddByExample(t *testing.T) {
	r := impl.Ring{Span: 10, Head: 4, Counts: []int{1, 2, 3}, Sums: []int{100, 200, 300}}
	for _, c := range []struct {
		now, amount  int
		head         int
		counts, sums []int
	}{
		{45, 7, 4, []int{2, 2, 3}, []int{107, 200, 300}},
		{45, 0, 4, []int{2, 2, 3}, []int{100, 200, 300}},
		{25, 7, 4, []int{2, 2, 3}, []int{107, 200, 300}},
		{50, 7, 5, []int{1, 1, 2}, []int{7, 100, 200}},
		{99, 7, 9, []int{1, 0, 0}, []int{7, 0, 0}},
		{45, impl.MaxMoney, 4, []int{2, 2, 3}, []int{impl.MaxMoney, 200, 300}},
		{50, impl.MaxMoney, 5, []int{1, 1, 2}, []int{impl.MaxMoney, 100, 200}},
		{50, impl.MaxMoney + 1, 4, []int{1, 2, 3}, []int{100, 200, 300}},
		{50, -1, 4, []int{1, 2, 3}, []int{100, 200, 300}},
		{-1, 7, 4, []int{1, 2, 3}, []int{100, 200, 300}},
		{impl.MaxTime + 1, 7, 4, []int{1, 2, 3}, []int{100, 200, 300}},
	} {
		want := impl.Ring{Span: 10, Head: c.head, Counts: c.counts, Sums: c.sums}
		if got := impl.RingAdd(r, c.now, c.amount); !sameRing(got, want) {
			t.Errorf("RingAdd(%+v, %d, %d) = %+v; want %+v", r, c.now, c.amount, got, want)
		}
	}
}

func TestP7RingTotalsByExample(t *testing.T) {
	r := impl.Ring{Span: 10, Head: 4, Counts: []int{1, 2, 3}, Sums: []int{100, 200, 300}}
	for _, c := range []struct{ now, count, sum int }{
		{0, 6, 600}, {40, 6, 600}, {49, 6, 600}, {50, 3, 300}, {59, 3, 300}, {60, 1, 100}, {69, 1, 100}, {70, 0, 0}, {impl.MaxTime, 0, 0},
		{-1, 0, 0}, {impl.MaxTime + 1, 0, 0},
	} {
		if count, sum := impl.RingCount(r, c.now), impl.RingSum(r, c.now); count != c.count || sum != c.sum {
			t.Errorf("at %d: %d requests for %d; want %d for %d", c.now, count, sum, c.count, c.sum)
		}
	}
}

func TestP7RingsAtAllTimes(t *testing.T) {
	for _, r := range slices.Concat(goodRings(), oddRings()) {
		for _, now := range timesAround(r) {
			checkRing(t, r, now)
			for _, amount := range []int{0, 1, 1250, impl.MaxMoney, -1, impl.MaxMoney + 1} {
				checkAdd(t, r, now, amount)
			}
		}
	}
}

func TestP10RingAddOfEveryAmount(t *testing.T) {
	for _, r := range slices.Concat(fullRings(), oddRings(), []impl.Ring{ringWith(3, 5, 2)}) {
		for _, amount := range edgeInts() {
			for _, now := range []int{-1, 0, 14, 15, 29, impl.MaxTime, impl.MaxTime + 1} {
				checkAdd(t, r, now, amount)
			}
		}
	}
}

func TestP10WindowTotalsStayMoney(t *testing.T) {
	const most = impl.MaxMoney
	r, _ := impl.RingNew(2, 5)
	for _, now := range []int{0, 4, 5, 9} {
		r = impl.RingAdd(r, now, most-1)
	}
	if !slices.Equal(r.Sums, []int{most, most}) || !slices.Equal(r.Counts, []int{2, 2}) || !impl.RingOk(r) {
		t.Errorf("the ring is %+v", r)
	}
	if got := impl.RingSum(r, 9); got != most {
		t.Errorf("RingSum = %d", got)
	}
	full := impl.Ring{Span: 5, Counts: []int{most, most}, Sums: []int{0, 0}}
	if got := impl.RingAdd(full, 0, 1); !slices.Equal(got.Counts, full.Counts) || got.Sums[0] != 1 {
		t.Errorf("RingAdd(%+v, 0, 1) = %+v", full, got)
	}
	if got := impl.RingCount(full, 0); got != most {
		t.Errorf("RingCount(%+v, 0) = %d", full, got)
	}
}

// withinWindow counts what arrived in the interval of now or in one of the buckets - 1 intervals before it.
func withinWindow(l []arrival, buckets, span, now int) (int, int) {
	count, sum := 0, 0
	for _, a := range l {
		if age := now/span - a.time/span; age >= 0 && age < buckets {
			count++
			sum += a.amount
		}
	}
	return count, sum
}

// arrivals have gaps from none to one that empties every window, and powers of two as amounts, of which no two sets have one sum.
func arrivals(step int) []arrival {
	var l []arrival
	now := step
	for i := range 40 {
		now += i * i * step % 13
		if i%11 == 10 {
			now += 9 * step
		}
		l = append(l, arrival{now, 1 << i})
	}
	return l
}

func TestP7AWindowCountsWhatArrivedWithinIt(t *testing.T) {
	for buckets := 1; buckets <= 8; buckets++ {
		for _, span := range []int{1, 2, 3, 10, 1000} {
			for _, step := range []int{0, 1, 3, 17, 500, 3000} {
				checkWindow(t, buckets, span, arrivals(step))
			}
		}
	}
}

func checkWindow(t *testing.T, buckets, span int, l []arrival) {
	t.Helper()
	r, ok := impl.RingNew(buckets, span)
	if !ok {
		t.Fatalf("RingNew(%d, %d) fails", buckets, span)
	}
	for i, a := range l {
		r = impl.RingAdd(r, a.time, a.amount)
		last := a.time + span*(buckets+2)
		for now := a.time; now <= last; now += max(span/3, 1) {
			count, sum := withinWindow(l[:i+1], buckets, span, now)
			if impl.RingCount(r, now) != count || impl.RingSum(r, now) != sum {
				t.Fatalf("%d buckets of %d at %d: %d requests for %d; want %d for %d", buckets, span, now,
					impl.RingCount(r, now), impl.RingSum(r, now), count, sum)
			}
		}
	}
}

func TestP7RollingIsNotObservable(t *testing.T) {
	for _, r := range goodRings() {
		l := slices.DeleteFunc(timesAround(r), func(now int) bool { return !timeByHand(now) })
		slices.Sort(l)
		for i, early := range l {
			rolled := impl.RingRoll(r, early)
			if !impl.RingOk(rolled) {
				t.Errorf("RingRoll(%+v, %d) = %+v, which is not valid", r, early, rolled)
			}
			for _, late := range l[i:] {
				if !sameRing(impl.RingRoll(rolled, late), impl.RingRoll(r, late)) || !sameRing(impl.RingAdd(rolled, late, 9), impl.RingAdd(r, late, 9)) {
					t.Errorf("%+v rolled to %d differs at %d", r, early, late)
				}
				if impl.RingCount(rolled, late) != impl.RingCount(r, late) || impl.RingSum(rolled, late) != impl.RingSum(r, late) {
					t.Errorf("%+v rolled to %d has other totals at %d", r, early, late)
				}
			}
		}
	}
}

func TestP7TimeDoesNotGoBack(t *testing.T) {
	r := ringWith(3, 5, 4)
	for now := range 25 {
		if got := impl.RingRoll(r, now); !sameRing(got, r) {
			t.Errorf("RingRoll(%+v, %d) = %+v", r, now, got)
		}
		if got := impl.RingAdd(r, now, 7); got.Head != 4 || !slices.Equal(got.Counts, []int{2, 2, 3}) || !slices.Equal(got.Sums, []int{107, 200, 300}) {
			t.Errorf("RingAdd(%+v, %d, 7) = %+v", r, now, got)
		}
		if impl.RingCount(r, now) != 6 || impl.RingSum(r, now) != 600 {
			t.Errorf("at %d: %d, %d", now, impl.RingCount(r, now), impl.RingSum(r, now))
		}
	}
}

func TestP10InvalidRingsAreOnlyCopied(t *testing.T) {
	for _, r := range oddRings() {
		for _, now := range []int{0, 9, 10, 14, 15, 1000, impl.MaxTime} {
			if got := impl.RingRoll(r, now); !sameRing(got, r) {
				t.Errorf("RingRoll(%+v, %d) = %+v", r, now, got)
			}
			if got := impl.RingAdd(r, now, 7); !sameRing(got, r) {
				t.Errorf("RingAdd(%+v, %d, 7) = %+v", r, now, got)
			}
			if count, sum := impl.RingCount(r, now), impl.RingSum(r, now); count != 0 || sum != 0 {
				t.Errorf("%+v has the totals %d and %d at %d", r, count, sum, now)
			}
		}
	}
}

// ringMakers are all ways to get a ring from another one.
func ringMakers() map[string]func(r impl.Ring) impl.Ring {
	return map[string]func(r impl.Ring) impl.Ring{
		"RingNew":                func(impl.Ring) impl.Ring { r, _ := impl.RingNew(3, 5); return r },
		"RingRoll":               func(r impl.Ring) impl.Ring { return impl.RingRoll(r, 15) },
		"RingRoll, not later":    func(r impl.Ring) impl.Ring { return impl.RingRoll(r, 10) },
		"RingRoll, no time":      func(r impl.Ring) impl.Ring { return impl.RingRoll(r, -1) },
		"RingRoll, all dropped":  func(r impl.Ring) impl.Ring { return impl.RingRoll(r, 1000) },
		"RingAdd":                func(r impl.Ring) impl.Ring { return impl.RingAdd(r, 15, 7) },
		"RingAdd, not later":     func(r impl.Ring) impl.Ring { return impl.RingAdd(r, 10, 7) },
		"RingAdd, no time":       func(r impl.Ring) impl.Ring { return impl.RingAdd(r, -1, 7) },
		"RingAdd, not an amount": func(r impl.Ring) impl.Ring { return impl.RingAdd(r, 10, -7) },
	}
}

// spoil overwrites everything that a slice gives access to.
func spoil(l []int) {
	l = l[:cap(l)]
	for i := range l {
		l[i] = -77
	}
}

// withIntsBehind returns a slice equal to l and all of its memory, which goes on behind the slice.
func withIntsBehind(l []int) ([]int, []int) {
	whole := slices.Concat(l, []int{71, 72, 73})
	return whole[:len(l)], whole
}

func TestP10RingsAreNewMemory(t *testing.T) {
	for name, made := range ringMakers() {
		for _, r := range append(oddRings(), ringWith(1, 5, 2), ringWith(3, 5, 2), ringWith(8, 5, 2)) {
			counts, allCounts := withIntsBehind(r.Counts)
			sums, allSums := withIntsBehind(r.Sums)
			countsBefore, sumsBefore := slices.Clone(allCounts), slices.Clone(allSums)
			given := impl.Ring{Span: r.Span, Head: r.Head, Counts: counts, Sums: sums}
			one, two := made(given), made(given)
			before := clonedRing(two)
			if !slices.Equal(allCounts, countsBefore) || !slices.Equal(allSums, sumsBefore) {
				t.Errorf("%s changes its argument %+v", name, r)
			}
			spoil(one.Counts)
			if !slices.Equal(one.Sums, before.Sums) {
				t.Errorf("%s: two slices of a result share memory: %+v", name, r)
			}
			spoil(one.Sums)
			if !sameRing(two, before) {
				t.Errorf("%s: two results share memory: %+v", name, r)
			}
			if !slices.Equal(allCounts, countsBefore) || !slices.Equal(allSums, sumsBefore) {
				t.Errorf("%s: a result shares memory with its argument %+v", name, r)
			}
		}
	}
}

func TestP10RingsWhoseSlicesAreOne(t *testing.T) {
	for name, made := range ringMakers() {
		for _, head := range []int{2, -1} {
			one := []int{1, 2, 3}
			shared := impl.Ring{Span: 5, Head: head, Counts: one, Sums: one}
			apart := impl.Ring{Span: 5, Head: head, Counts: []int{1, 2, 3}, Sums: []int{1, 2, 3}}
			got, want := made(shared), made(apart)
			if !sameRing(got, want) || !slices.Equal(one, []int{1, 2, 3}) {
				t.Errorf("%s = %+v; want %+v", name, got, want)
			}
			spoil(got.Counts)
			if !slices.Equal(got.Sums, want.Sums) {
				t.Errorf("%s: two slices of the result share memory", name)
			}
		}
	}
}

func TestP10RingTotalsLeaveTheirArguments(t *testing.T) {
	for _, r := range append(oddRings(), goodRings()...) {
		counts, allCounts := withIntsBehind(r.Counts)
		sums, allSums := withIntsBehind(r.Sums)
		countsBefore, sumsBefore := slices.Clone(allCounts), slices.Clone(allSums)
		given := impl.Ring{Span: r.Span, Head: r.Head, Counts: counts, Sums: sums}
		impl.RingOk(given)
		for _, now := range timesAround(r) {
			impl.RingCount(given, now)
			impl.RingSum(given, now)
		}
		if !slices.Equal(allCounts, countsBefore) || !slices.Equal(allSums, sumsBefore) {
			t.Errorf("the slices are now %v and %v", allCounts, allSums)
		}
	}
}
