package tests

import (
	"bytes"
	"math"
	"slices"
	"testing"

	"loop.example/g00735/impl"
)

func TestP3LocksByExample(t *testing.T) {
	owners := func(l []impl.Stripe) []int {
		var all []int
		for _, s := range l {
			all = append(all, s.Owner)
		}
		return all
	}
	// Task 2 holds the first lock and task 11 the third one.
	l := []impl.Stripe{stripe(2), stripe(-1, named("26", someAcct())), stripe(11)}
	for name, c := range map[string]struct {
		change  func(l []impl.Stripe, k, task int) ([]impl.Stripe, bool)
		k, task int
		want    []int
	}{
		"take a free one":                 {impl.TakeLock, 1, 5, []int{2, 5, 11}},
		"take it as the first task":       {impl.TakeLock, 1, 0, []int{2, 0, 11}},
		"take it as the last task":        {impl.TakeLock, 1, 11, []int{2, 11, 11}},
		"take it as no task":              {impl.TakeLock, 1, 12, nil},
		"take it as nobody":               {impl.TakeLock, 1, -1, nil},
		"take it as the greatest task":    {impl.TakeLock, 1, math.MaxInt, nil},
		"take it as the least task":       {impl.TakeLock, 1, math.MinInt, nil},
		"take another's":                  {impl.TakeLock, 0, 5, nil},
		"take one's own":                  {impl.TakeLock, 0, 2, nil},
		"take one before the first":       {impl.TakeLock, -1, 5, nil},
		"take one behind the last":        {impl.TakeLock, 3, 5, nil},
		"take the greatest":               {impl.TakeLock, math.MaxInt, 5, nil},
		"take the least":                  {impl.TakeLock, math.MinInt, 5, nil},
		"give one's own":                  {impl.GiveLock, 0, 2, []int{-1, -1, 11}},
		"give the last one":               {impl.GiveLock, 2, 11, []int{2, -1, -1}},
		"give another's":                  {impl.GiveLock, 0, 11, nil},
		"give a free one":                 {impl.GiveLock, 1, 2, nil},
		"give a free one as nobody":       {impl.GiveLock, 1, -1, nil},
		"give another's as nobody":        {impl.GiveLock, 0, -1, nil},
		"give one before the first":       {impl.GiveLock, -1, 2, nil},
		"give one behind the last":        {impl.GiveLock, 3, 2, nil},
		"give one behind it, as nobody":   {impl.GiveLock, 3, -1, nil},
		"give as a task that is not one":  {impl.GiveLock, 0, 12, nil},
		"give as the least task":          {impl.GiveLock, 0, math.MinInt, nil},
		"give the greatest as the second": {impl.GiveLock, math.MaxInt, 2, nil},
	} {
		got, ok := c.change(l, c.k, c.task)
		if ok != (c.want != nil) || !slices.Equal(owners(got), c.want) {
			t.Errorf("%s: %d, %v; want %d", name, owners(got), ok, c.want)
		}
		if ok && bookText(impl.Gather(got)) != bookText(impl.Gather(l)) {
			t.Errorf("%s: the accounts are %+v", name, got)
		}
	}
}

// TestP3LocksOfStripesThatAreNotValid has owners that are no tasks: their locks are held, and only those who are not negative can give them.
func TestP3LocksOfStripesThatAreNotValid(t *testing.T) {
	for _, owner := range oddOwners() {
		l := []impl.Stripe{stripe(-1), stripe(owner, impl.Acct{})}
		for _, task := range []int{0, 5, 11, 12, -1, owner} {
			if got, ok := impl.TakeLock(l, 1, task); ok || len(got) != 0 {
				t.Errorf("TakeLock by %d of the lock of %d = %+v, %v", task, owner, got, ok)
			}
			got, ok := impl.GiveLock(l, 1, task)
			want, wantOk := giveByHand(l, 1, task)
			if ok != wantOk || stripesText(got) != stripesText(want) {
				t.Errorf("GiveLock by %d of the lock of %d = %+v, %v", task, owner, got, ok)
			}
		}
	}
}

func TestP10TakeLockAndGiveLock(t *testing.T) {
	for i, l := range someStripes() {
		for _, k := range []int{math.MinInt, -2, -1, 0, 1, 2, 3, 4, 5, 6, 7, 1 << 32, math.MaxInt} {
			tasks := append(oddOwners(), -1, 0, 11, (i+k)%12)
			if k >= 0 && k < len(l) {
				tasks = append(tasks, l[k].Owner)
			}
			for _, task := range tasks {
				got, ok := impl.TakeLock(l, k, task)
				if want, wantOk := takeByHand(l, k, task); ok != wantOk || stripesText(got) != stripesText(want) {
					t.Errorf("TakeLock(%+v, %d, %d) = %+v, %v", l, k, task, got, ok)
				}
				got, ok = impl.GiveLock(l, k, task)
				if want, wantOk := giveByHand(l, k, task); ok != wantOk || stripesText(got) != stripesText(want) {
					t.Errorf("GiveLock(%+v, %d, %d) = %+v, %v", l, k, task, got, ok)
				}
			}
		}
	}
}

// TestP3ALockIsHeldByOneTaskAtATime lets tasks try to take and give all locks, and keeps a list of who has them.
func TestP3ALockIsHeldByOneTaskAtATime(t *testing.T) {
	for seed := range uint64(30) {
		n := 1 + int(seed)%5
		l := impl.Spread(sixAccts(), n)
		holder := map[int]int{}
		choices := someBytes(seed, 3*300)
		for i := 0; i < len(choices); i += 3 {
			k, task := int(choices[i])%(n+1), int(choices[i+1])%13
			held, isHeld := holder[k]
			change, want, left := impl.TakeLock, k < n && task < 12 && !isHeld, task
			if choices[i+2]%2 == 0 {
				change, want, left = impl.GiveLock, isHeld && held == task, -1
			}
			next, ok := change(l, k, task)
			if ok != want {
				t.Fatalf("task %d at lock %d of %+v, held by %v: %v", task, k, l, holder, ok)
			}
			if !ok {
				continue
			}
			l = next
			delete(holder, k)
			if left >= 0 {
				holder[k] = left
			}
			checkHolders(t, l, holder)
		}
		for k, task := range holder {
			l, _ = impl.GiveLock(l, k, task)
		}
		if stripesText(l) != stripesText(spreadByHand(sixAccts(), n)) {
			t.Fatalf("all locks are given back, and the stripes are %+v", l)
		}
	}
}

func checkHolders(t *testing.T, l []impl.Stripe, holder map[int]int) {
	t.Helper()
	if !impl.StripesOk(l) || bookText(gatherByHand(l)) != bookText(sixAccts()) {
		t.Fatalf("the locks are held by %v, and the stripes are %+v", holder, l)
	}
	for k, s := range l {
		task, isHeld := holder[k]
		if isHeld && s.Owner != task || !isHeld && s.Owner != -1 {
			t.Fatalf("the locks are held by %v, and the stripes are %+v", holder, l)
		}
	}
}

// worker takes the locks of a set in order, and then gives them back in reverse order.
type worker struct {
	set   []int
	held  int
	gives bool
}

// next returns the stripes after the next step of a worker, and whether there is one.
func (w *worker) next(l []impl.Stripe, task int) ([]impl.Stripe, bool) {
	if w.gives && w.held == 0 {
		return l, false
	}
	change, k, more := impl.TakeLock, w.held, 1
	if w.gives {
		change, k, more = impl.GiveLock, w.held-1, -1
	}
	next, ok := change(l, w.set[k], task)
	if !ok {
		return l, false
	}
	w.held += more
	w.gives = w.gives || w.held == len(w.set)
	return next, true
}

// TestP3TasksThatLockInOrderAllFinish runs twelve tasks in many orders, each of which needs the locks of up to three accounts.
func TestP3TasksThatLockInOrderAllFinish(t *testing.T) {
	for seed := range uint64(60) {
		n := 1 + int(seed)%5
		l := impl.Spread(sixAccts(), n)
		start := stripesText(l)
		choices := someBytes(seed, 36+2000)
		var workers []*worker
		steps := 0
		for i := range 12 {
			var ids []string
			for j := range 1 + i%3 {
				ids = append(ids, bookIds()[int(choices[3*i+j])%6])
			}
			set := impl.LockSet(ids, n)
			workers = append(workers, &worker{set: set})
			steps += 2 * len(set)
		}
		for _, choice := range choices[36:] {
			if steps == 0 {
				break
			}
			before := steps
			for i := range 12 {
				task := (int(choice) + i) % 12
				next, ok := workers[task].next(l, task)
				if l = next; ok {
					steps--
					break
				}
			}
			if steps == before {
				t.Fatalf("%d steps are left, and no task can go on: %+v", steps, l)
			}
		}
		if steps != 0 || stripesText(l) != start {
			t.Fatalf("%d steps are left, and the stripes are %+v", steps, l)
		}
	}
}

// handleInStripes processes a message as a task does that has all its locks.
func handleInStripes(l []impl.Stripe, data []byte, now int) ([]impl.Stripe, []byte) {
	set := impl.LockSet(impl.Asks(data), len(l))
	next, reply := impl.Handle(impl.Part(l, set), data, now)
	return impl.Lay(l, next), reply
}

// threeAccts are two accounts that are in one stripe for some numbers of stripes, and a third one.
func threeAccts(t *testing.T) impl.Book {
	b := twoAccts(t)
	b.Accts = append(b.Accts, named("34", acctWith(300, 0, hold("h1", 30, 20))))
	b.Accts[2].Slots = nil
	return b
}

// TestP8TheNumberOfStripesIsNotObservable processes long sequences of messages as a whole and over all numbers of stripes.
func TestP8TheNumberOfStripesIsNotObservable(t *testing.T) {
	fields := fieldsByNo()
	strange := dataToTry(fields)
	for seed := range uint64(40) {
		book := threeAccts(t)
		var spread [6][]impl.Stripe
		for n := 1; n <= 5; n++ {
			spread[n] = impl.Spread(book, n)
		}
		now, choices := 0, someBytes(seed, 8*50)
		for i := range 50 {
			part := choices[8*i : 8*i+8]
			now += int(part[7]) % 4
			data := dataOf(fields, chosen(part))
			if part[7] > 230 {
				data = strange[(int(seed)*50+i)%len(strange)]
			}
			next, reply := handleByHand(fields, book, data, now)
			for n := 1; n <= 5; n++ {
				l, got := handleInStripes(spread[n], data, now)
				if !bytes.Equal(got, reply) || bookText(impl.Gather(l)) != bookText(next) || !impl.StripesOk(l) {
					t.Fatalf("%x at %d over %d stripes: %+v, %x; want %+v, %x", data, now, n, l, got, next, reply)
				}
				spread[n] = l
			}
			book = next
		}
	}
}

func TestP8EveryMessageGetsItsReplyOverAllStripes(t *testing.T) {
	fields := fieldsByNo()
	for i, data := range dataToTry(fields) {
		b := []impl.Book{{}, threeAccts(t), sixAccts()}[i%3]
		next, reply := handleByHand(fields, b, data, 10)
		for n := 1; n <= 5; n++ {
			l, got := handleInStripes(impl.Spread(b, n), data, 10)
			if !bytes.Equal(got, reply) || bookText(impl.Gather(l)) != bookText(next) {
				t.Fatalf("%x over %d stripes: %+v, %x; want %+v, %x", data, n, l, got, next, reply)
			}
		}
	}
}

// TestP8ARequestAccessesOnlyTheStripesOfItsAccounts damages all other stripes, which nobody notices.
func TestP8ARequestAccessesOnlyTheStripesOfItsAccounts(t *testing.T) {
	fields := fieldsByNo()
	ids := append(bookIds(), "34")
	for op := 1; op <= 8; op++ {
		for i, from := range ids {
			others := ids[i : i+1]
			if op == impl.OqMove {
				others = ids
			}
			for _, to := range others {
				q := reqFrom(op, "a", 1, 60, to)
				q.Acct = from
				for n := 1; n <= 5; n++ {
					checkAccess(t, dataOf(fields, q), []string{from, to}, n)
				}
			}
		}
	}
}

// checkAccess is told which accounts the message names, since the program shall not say it here.
func checkAccess(t *testing.T, data []byte, ids []string, n int) {
	t.Helper()
	mine := lockSetByHand(ids, n)
	whole := spreadByHand(sixAccts(), n)
	damaged := clonedStripes(whole)
	for k := range damaged {
		if !slices.Contains(mine, k) {
			damaged[k] = stripe(k+20, impl.Acct{Id: ids[0], Limit: -k}, impl.Acct{})
		}
	}
	l, reply := handleInStripes(whole, data, 10)
	other, again := handleInStripes(damaged, data, 10)
	if !bytes.Equal(reply, again) {
		t.Fatalf("%x over %d stripes: %x; with others damaged, %x", data, n, reply, again)
	}
	for k := range whole {
		want := damaged[k]
		if slices.Contains(mine, k) {
			want = l[k]
		}
		if stripesText(other[k:k+1]) != stripesText([]impl.Stripe{want}) {
			t.Fatalf("%x over %d stripes: stripe %d is %+v; want %+v", data, n, k, other[k], want)
		}
		for i, a := range whole[k].Accts {
			if !slices.Contains(ids, a.Id) && acctText(l[k].Accts[i]) != acctText(a) {
				t.Fatalf("%x over %d stripes changes %+v to %+v", data, n, a, l[k].Accts[i])
			}
		}
	}
}
