package tests

import (
	"fmt"
	"math"
	"math/rand"
	"slices"
	"testing"

	"loop.example/g00829/impl"
)

// plainList is what a deque is held against: a list, and the place of its first
// on a line without ends, on which slots of the deque come again and again.
type plainList struct {
	slots int
	first int
	held  []int
}

func (p *plainList) pushLast(x int) bool {
	if len(p.held) == p.slots {
		return false
	}
	p.held = append(slices.Clone(p.held), x)
	return true
}

func (p *plainList) pushFirst(x int) bool {
	if len(p.held) == p.slots {
		return false
	}
	p.held = append([]int{x}, p.held...)
	p.first--
	return true
}

func (p *plainList) popFirst() (int, bool) {
	if len(p.held) == 0 {
		return 0, false
	}
	x := p.held[0]
	p.held = slices.Clone(p.held[1:])
	p.first++
	return x, true
}

func (p *plainList) popLast() (int, bool) {
	if len(p.held) == 0 {
		return 0, false
	}
	x := p.held[len(p.held)-1]
	p.held = slices.Clone(p.held[:len(p.held)-1])
	return x, true
}

// deque lays the list into slots, going on at place 0 behind the last.
func (p *plainList) deque() impl.Deque {
	d := impl.Deque{Slots: make([]int, p.slots), Count: len(p.held)}
	d.Head = ((p.first % p.slots) + p.slots) % p.slots
	at := d.Head
	for _, x := range p.held {
		d.Slots[at] = x
		at++
		if at == p.slots {
			at = 0
		}
	}
	return d
}

// play is what PlayDeque does and tells for one number.
func (p *plainList) play(op int) int {
	switch op {
	case -1, -2:
		pop := p.popFirst
		if op == -2 {
			pop = p.popLast
		}
		if x, ok := pop(); ok {
			return x
		}
		return -1
	}
	if op < 0 {
		return -9
	}
	push := p.pushFirst
	if op&1 == 0 {
		push = p.pushLast
	}
	if push(op) {
		return 1
	}
	return 0
}

// listOf is the plain list of a deque; it is false when it is none.
func listOf(d impl.Deque) (*plainList, bool) {
	n := len(d.Slots)
	if n < 1 || n > 64 || d.Head < 0 || d.Head >= n || d.Count < 0 || d.Count > n {
		return nil, false
	}
	p := &plainList{slots: n, first: d.Head}
	twice := append(slices.Clone(d.Slots), d.Slots...)
	p.held = slices.Clone(twice[d.Head : d.Head+d.Count])
	for _, x := range twice[d.Head+d.Count : d.Head+n] {
		if x != 0 {
			return nil, false
		}
	}
	return p, true
}

func (p *plainList) again() *plainList {
	return &plainList{slots: p.slots, first: p.first, held: slices.Clone(p.held)}
}

func sameDeque(a impl.Deque, b impl.Deque) bool {
	return slices.Equal(a.Slots, b.Slots) && a.Head == b.Head && a.Count == b.Count
}

func checkDeque(t *testing.T, name string, d impl.Deque, got impl.Deque, want impl.Deque) {
	t.Helper()
	if !sameDeque(got, want) {
		t.Errorf("%s of %v is %v, want %v", name, d, got, want)
	}
}

func checkPush(t *testing.T, d impl.Deque, want *plainList, x int) {
	t.Helper()
	last, first := want.again(), want.again()
	wantLast, wantFirst := last.pushLast(x), first.pushFirst(x)
	got, ok := impl.PushLast(d, x)
	checkDeque(t, "PushLast", d, got, last.deque())
	again, okFirst := impl.PushFirst(d, x)
	checkDeque(t, "PushFirst", d, again, first.deque())
	if ok != wantLast || okFirst != wantFirst {
		t.Errorf("PushLast, PushFirst of %v give %v, %v", d, ok, okFirst)
	}
}

func checkPop(t *testing.T, d impl.Deque, want *plainList) {
	t.Helper()
	last, first := want.again(), want.again()
	wantLast, wantLastOk := last.popLast()
	wantFirst, wantFirstOk := first.popFirst()
	got, x, ok := impl.PopLast(d)
	checkDeque(t, "PopLast", d, got, last.deque())
	if x != wantLast || ok != wantLastOk {
		t.Errorf("PopLast of %v gives %d, %v, want %d, %v", d, x, ok, wantLast, wantLastOk)
	}
	got, x, ok = impl.PopFirst(d)
	checkDeque(t, "PopFirst", d, got, first.deque())
	if x != wantFirst || ok != wantFirstOk {
		t.Errorf("PopFirst of %v gives %d, %v, want %d, %v", d, x, ok, wantFirst, wantFirstOk)
	}
}

// checkHeld holds all that only looks at a deque against the plain list.
func checkHeld(t *testing.T, d impl.Deque, want *plainList) {
	t.Helper()
	if !impl.DequeOk(d) || !sameDeque(d, want.deque()) {
		t.Errorf("%v is no deque, or is not %v", d, want.deque())
	}
	if got := impl.ListDeque(d); !slices.Equal(got, want.held) {
		t.Errorf("ListDeque(%v) = %v, want %v", d, got, want.held)
	}
	for k := -2; k <= len(d.Slots)+2; k++ {
		x, ok := impl.HeldAt(d, k)
		wantX, wantOk := 0, k >= 0 && k < len(want.held)
		if wantOk {
			wantX = want.held[k]
		}
		if x != wantX || ok != wantOk {
			t.Errorf("HeldAt(%v, %d) = %d, %v, want %d, %v", d, k, x, ok, wantX, wantOk)
		}
	}
}

func checkRefused(t *testing.T, d impl.Deque) {
	t.Helper()
	was := impl.Deque{Slots: slices.Clone(d.Slots), Head: d.Head, Count: d.Count}
	if impl.DequeOk(d) {
		t.Errorf("DequeOk(%v)", d)
	}
	for _, x := range []int{0, 5} {
		last, ok := impl.PushLast(d, x)
		first, okFirst := impl.PushFirst(d, x)
		if ok || okFirst || !sameDeque(last, was) || !sameDeque(first, was) {
			t.Errorf("pushed on %v: %v, %v and %v, %v", was, last, ok, first, okFirst)
		}
	}
	last, x, ok := impl.PopLast(d)
	if ok || x != 0 || !sameDeque(last, was) {
		t.Errorf("PopLast(%v) = %v, %d, %v", was, last, x, ok)
	}
	first, x, ok := impl.PopFirst(d)
	if ok || x != 0 || !sameDeque(first, was) {
		t.Errorf("PopFirst(%v) = %v, %d, %v", was, first, x, ok)
	}
	for _, k := range append(edgeNumbers(), d.Count, d.Head, len(d.Slots)) {
		if x, ok := impl.HeldAt(d, k); x != 0 || ok {
			t.Errorf("HeldAt(%v, %d) = %d, %v", was, k, x, ok)
		}
	}
	if list := impl.ListDeque(d); len(list) != 0 {
		t.Errorf("ListDeque(%v) = %v", was, list)
	}
	if !sameDeque(d, was) {
		t.Errorf("%v was written into: %v", was, d)
	}
}

// checkAnyDeque asks everything of d, which may be none, and tells whether it is one.
func checkAnyDeque(t *testing.T, d impl.Deque) bool {
	t.Helper()
	want, ok := listOf(d)
	if !ok {
		checkRefused(t, d)
		return false
	}
	checkHeld(t, d, want)
	checkPush(t, d, want, 0)
	checkPush(t, d, want, -5)
	checkPop(t, d, want)
	return true
}

func TestMaxHeld(t *testing.T) {
	if impl.MaxHeld != 64 {
		t.Errorf("MaxHeld is %d", impl.MaxHeld)
	}
}

func TestNewDeque(t *testing.T) {
	for _, n := range append(edgeNumbers(), 31, 32, 33, 62, 63, 64, 65, 66, 128, 400) {
		d, ok := impl.NewDeque(n)
		if n < 1 || n > 64 {
			if ok || !sameDeque(d, impl.Deque{}) {
				t.Errorf("NewDeque(%d) = %v, %v", n, d, ok)
			}
			continue
		}
		if !ok {
			t.Fatalf("NewDeque(%d) is refused", n)
		}
		checkHeld(t, d, &plainList{slots: n})
	}
}

// All deques of up to 4 slots over three numbers, right ones and others.
func TestAllSmallDeques(t *testing.T) {
	right, wrong := 0, 0
	for n := 0; n <= 4; n++ {
		tables := 1
		for range n {
			tables *= 3
		}
		for table := range tables {
			slots := make([]int, n)
			for k, rest := 0, table; k < n; k, rest = k+1, rest/3 {
				slots[k] = []int{0, 7, -1}[rest%3]
			}
			for head := -1; head <= n+1; head++ {
				for count := -1; count <= n+1; count++ {
					if checkAnyDeque(t, impl.Deque{Slots: slots, Head: head, Count: count}) {
						right++
					} else {
						wrong++
					}
				}
			}
			if t.Failed() {
				return
			}
		}
	}
	// With n slots there are n heads, and 1 + 3 + .. + 3 to the n ways to fill them.
	if right != 1*4+2*13+3*40+4*121 || wrong == 0 {
		t.Errorf("%d deques and %d others", right, wrong)
	}
}

func TestEdgesOfHeadAndCount(t *testing.T) {
	for _, n := range []int{1, 2, 3, 63, 64} {
		full := make([]int, n)
		for k := range full {
			full[k] = k + 1
		}
		for _, other := range append(edgeNumbers(), n-1, n, n+1, -n, 2*n, math.MaxInt-n, math.MinInt+n) {
			checkAnyDeque(t, impl.Deque{Slots: full, Head: other, Count: n})
			checkAnyDeque(t, impl.Deque{Slots: full, Count: other})
			checkAnyDeque(t, impl.Deque{Slots: full, Head: other, Count: other})
			checkAnyDeque(t, impl.Deque{Slots: make([]int, n), Head: other})
			checkAnyDeque(t, impl.Deque{Slots: make([]int, n), Head: n - 1, Count: other})
		}
	}
	for _, n := range []int{0, 65, 66, 128, 400} {
		for _, count := range []int{0, 1, 64, n} {
			checkRefused(t, impl.Deque{Slots: make([]int, n), Count: count})
			checkRefused(t, impl.Deque{Slots: slices.Repeat([]int{3}, n), Count: count})
		}
	}
	checkRefused(t, impl.Deque{})
	checkRefused(t, impl.Deque{Slots: []int{}, Head: 0, Count: 0})
}

// One slot that is not 0 where none stands, at each place of a deque.
func TestOneSlotThatShouldBeZero(t *testing.T) {
	for _, n := range []int{1, 2, 3, 5, 64} {
		for head := range n {
			for _, count := range []int{0, 1, n / 2, n - 1, n} {
				p := &plainList{slots: n, first: head, held: slices.Repeat([]int{9}, count)}
				for k := count; k < n; k++ {
					for _, x := range []int{1, -1, math.MinInt, 1 << 32} {
						d := p.deque()
						d.Slots[(head+k)%n] = x
						checkRefused(t, d)
					}
				}
				// What stands there may be anything, 0 too.
				for k := range count {
					for _, x := range []int{0, 1, -1, math.MinInt, math.MaxInt} {
						d := p.deque()
						d.Slots[(head+k)%n] = x
						if !impl.DequeOk(d) {
							t.Errorf("DequeOk(%v) is false", d)
						}
					}
				}
				if t.Failed() {
					return
				}
			}
		}
	}
}

func TestDequesByHand(t *testing.T) {
	cases := []struct {
		name string
		got  func(impl.Deque) (impl.Deque, int, bool)
		from impl.Deque
		want impl.Deque
		x    int
		ok   bool
	}{
		{"back from 0", pushingFirst(7), impl.Deque{Slots: []int{0, 0, 0}}, impl.Deque{Slots: []int{0, 0, 7}, Head: 2, Count: 1}, 0, true},
		{"back from 2", pushingFirst(8), impl.Deque{Slots: []int{0, 0, 7}, Head: 2, Count: 1}, impl.Deque{Slots: []int{0, 8, 7}, Head: 1, Count: 2}, 0, true},
		{"back from 1", pushingFirst(9), impl.Deque{Slots: []int{0, 8, 7}, Head: 1, Count: 2}, impl.Deque{Slots: []int{9, 8, 7}, Head: 0, Count: 3}, 0, true},
		{"first on a full one", pushingFirst(9), impl.Deque{Slots: []int{9, 8, 7}, Head: 0, Count: 3}, impl.Deque{Slots: []int{9, 8, 7}, Head: 0, Count: 3}, 0, false},
		{"last on a full one", pushingLast(9), impl.Deque{Slots: []int{9, 8, 7}, Head: 1, Count: 3}, impl.Deque{Slots: []int{9, 8, 7}, Head: 1, Count: 3}, 0, false},
		{"last behind the end", pushingLast(5), impl.Deque{Slots: []int{0, 0, 7}, Head: 2, Count: 1}, impl.Deque{Slots: []int{5, 0, 7}, Head: 2, Count: 2}, 0, true},
		{"last of none", pushingLast(5), impl.Deque{Slots: []int{0, 0, 0}, Head: 1}, impl.Deque{Slots: []int{0, 5, 0}, Head: 1, Count: 1}, 0, true},
		{"0 is held too", pushingLast(0), impl.Deque{Slots: []int{0, 0}}, impl.Deque{Slots: []int{0, 0}, Count: 1}, 0, true},
		{"on from the last place", impl.PopFirst, impl.Deque{Slots: []int{5, 0, 7}, Head: 2, Count: 2}, impl.Deque{Slots: []int{5, 0, 0}, Count: 1}, 7, true},
		{"on from 0", impl.PopFirst, impl.Deque{Slots: []int{5, 0, 0}, Count: 1}, impl.Deque{Slots: []int{0, 0, 0}, Head: 1}, 5, true},
		{"the last at place 0", impl.PopLast, impl.Deque{Slots: []int{5, 0, 7}, Head: 2, Count: 2}, impl.Deque{Slots: []int{0, 0, 7}, Head: 2, Count: 1}, 5, true},
		{"the last is the first", impl.PopLast, impl.Deque{Slots: []int{0, 0, 7}, Head: 2, Count: 1}, impl.Deque{Slots: []int{0, 0, 0}, Head: 2}, 7, true},
		{"a 0 is popped", impl.PopFirst, impl.Deque{Slots: []int{0, 0}, Count: 1}, impl.Deque{Slots: []int{0, 0}, Head: 1}, 0, true},
		{"none first", impl.PopFirst, impl.Deque{Slots: []int{0, 0}, Head: 1}, impl.Deque{Slots: []int{0, 0}, Head: 1}, 0, false},
		{"none last", impl.PopLast, impl.Deque{Slots: []int{0, 0}, Head: 1}, impl.Deque{Slots: []int{0, 0}, Head: 1}, 0, false},
		{"one slot, first", pushingFirst(3), impl.Deque{Slots: []int{0}}, impl.Deque{Slots: []int{3}, Count: 1}, 0, true},
		{"one slot, last", pushingLast(3), impl.Deque{Slots: []int{0}}, impl.Deque{Slots: []int{3}, Count: 1}, 0, true},
		{"one slot is full", pushingLast(4), impl.Deque{Slots: []int{3}, Count: 1}, impl.Deque{Slots: []int{3}, Count: 1}, 0, false},
		{"one slot, pop first", impl.PopFirst, impl.Deque{Slots: []int{3}, Count: 1}, impl.Deque{Slots: []int{0}}, 3, true},
		{"one slot, pop last", impl.PopLast, impl.Deque{Slots: []int{3}, Count: 1}, impl.Deque{Slots: []int{0}}, 3, true},
	}
	for _, c := range cases {
		got, x, ok := c.got(c.from)
		if !sameDeque(got, c.want) || x != c.x || ok != c.ok {
			t.Errorf("%s: %v gives %v, %d, %v, want %v, %d, %v", c.name, c.from, got, x, ok, c.want, c.x, c.ok)
		}
	}
}

func pushingFirst(x int) func(impl.Deque) (impl.Deque, int, bool) {
	return func(d impl.Deque) (impl.Deque, int, bool) {
		got, ok := impl.PushFirst(d, x)
		return got, 0, ok
	}
}

func pushingLast(x int) func(impl.Deque) (impl.Deque, int, bool) {
	return func(d impl.Deque) (impl.Deque, int, bool) {
		got, ok := impl.PushLast(d, x)
		return got, 0, ok
	}
}

// Each way to push with each way to pop, on deques that begin at each place.
func TestOrderFromBothEnds(t *testing.T) {
	ends := []struct {
		name    string
		push    func(impl.Deque, int) (impl.Deque, bool)
		pop     func(impl.Deque) (impl.Deque, int, bool)
		inOrder bool
	}{
		{"last to first", impl.PushLast, impl.PopFirst, true},
		{"first to last", impl.PushFirst, impl.PopLast, true},
		{"last to last", impl.PushLast, impl.PopLast, false},
		{"first to first", impl.PushFirst, impl.PopFirst, false},
	}
	for _, e := range ends {
		for n := 1; n <= 64; n++ {
			for head := range n {
				d := impl.Deque{Slots: make([]int, n), Head: head}
				want := []int{}
				for k := range n {
					d, _ = e.push(d, 100-k)
					want = append(want, 100-k)
				}
				if !e.inOrder {
					slices.Reverse(want)
				}
				got := []int{}
				for range n {
					next, x, _ := e.pop(d)
					d, got = next, append(got, x)
				}
				if !slices.Equal(got, want) || d.Count != 0 || slices.Max(d.Slots) != 0 {
					t.Fatalf("%s, %d slots, Head %d: %v is left with %v", e.name, n, head, got, d)
				}
			}
		}
	}
}

// A run goes through times in which much is pushed and times in which much is
// popped, so that it is full and has none many times.
func TestPromiseOfDequesInLongRuns(t *testing.T) {
	r := rand.New(rand.NewSource(4))
	for _, n := range []int{1, 2, 3, 4, 5, 7, 8, 16, 31, 63, 64} {
		d, _ := impl.NewDeque(n)
		want := &plainList{slots: n}
		full, none, wrapped := 0, 0, 0
		for step := range 4000 {
			pushes := step/(2*n+3)%2 == 0
			if r.Intn(4) == 0 {
				pushes = !pushes
			}
			name := runStep(t, r, &d, want, pushes)
			checkHeld(t, d, want)
			if t.Failed() {
				t.Fatalf("%d slots, step %d: %s", n, step, name)
			}
			switch d.Count {
			case n:
				full++
			case 0:
				none++
			}
			if d.Head+d.Count > n {
				wrapped++
			}
		}
		if full < 20 || none < 20 || n > 1 && wrapped < 20 {
			t.Errorf("%d slots: only %d times full, %d times none, %d times over the end", n, full, none, wrapped)
		}
	}
}

// runStep pushes or pops at an end that is drawn, on both.
func runStep(t *testing.T, r *rand.Rand, d *impl.Deque, want *plainList, pushes bool) string {
	t.Helper()
	last := r.Intn(2) == 0
	if pushes {
		x := r.Intn(9) - 4
		if r.Intn(10) == 0 {
			x = []int{math.MinInt, math.MaxInt, 1 << 40}[r.Intn(3)]
		}
		push, plain := impl.PushFirst, want.pushFirst
		if last {
			push, plain = impl.PushLast, want.pushLast
		}
		next, ok := push(*d, x)
		if wantOk := plain(x); ok != wantOk {
			t.Errorf("push: %v, want %v", ok, wantOk)
		}
		*d = next
		return fmt.Sprintf("push of %d, last %v", x, last)
	}
	pop, plain := impl.PopFirst, want.popFirst
	if last {
		pop, plain = impl.PopLast, want.popLast
	}
	next, x, ok := pop(*d)
	wantX, wantOk := plain()
	if x != wantX || ok != wantOk {
		t.Errorf("pop: %d, %v, want %d, %v", x, ok, wantX, wantOk)
	}
	*d = next
	return fmt.Sprintf("pop, last %v", last)
}

func checkPlay(t *testing.T, n int, ops []int) {
	t.Helper()
	want := &plainList{slots: n}
	wantTold := []int{}
	for _, op := range ops {
		wantTold = append(wantTold, want.play(op))
	}
	d, told := impl.PlayDeque(n, ops)
	if !slices.Equal(told, wantTold) || !sameDeque(d, want.deque()) {
		t.Errorf("PlayDeque(%d, %v) = %v, %v, want %v, %v", n, ops, d, told, want.deque(), wantTold)
	}
}

func TestPlayDequeByHand(t *testing.T) {
	cases := []struct {
		n    int
		ops  []int
		told []int
		want impl.Deque
	}{
		{3, nil, nil, impl.Deque{Slots: []int{0, 0, 0}}},
		{3, []int{2, 1, 4, 6, -1, -2, -2, -1, -3}, []int{1, 1, 1, 0, 1, 4, 2, -1, -9}, impl.Deque{Slots: []int{0, 0, 0}}},
		{2, []int{0}, []int{1}, impl.Deque{Slots: []int{0, 0}, Count: 1}},
		{2, []int{0, -1}, []int{1, 0}, impl.Deque{Slots: []int{0, 0}, Head: 1}},
		{2, []int{0, -2}, []int{1, 0}, impl.Deque{Slots: []int{0, 0}}},
		{2, []int{1}, []int{1}, impl.Deque{Slots: []int{0, 1}, Head: 1, Count: 1}},
		{2, []int{1, 2, 3, 4}, []int{1, 1, 0, 0}, impl.Deque{Slots: []int{2, 1}, Head: 1, Count: 2}},
		{2, []int{-1, -2}, []int{-1, -1}, impl.Deque{Slots: []int{0, 0}}},
		{2, []int{-3, -4, -9, math.MinInt, math.MinInt + 1}, []int{-9, -9, -9, -9, -9}, impl.Deque{Slots: []int{0, 0}}},
		{2, []int{math.MaxInt, math.MaxInt - 1}, []int{1, 1}, impl.Deque{Slots: []int{math.MaxInt - 1, math.MaxInt}, Head: 1, Count: 2}},
		{1, []int{1, -2, 2, -1, 3}, []int{1, 1, 1, 2, 1}, impl.Deque{Slots: []int{3}, Count: 1}},
	}
	for _, c := range cases {
		d, told := impl.PlayDeque(c.n, c.ops)
		if !slices.Equal(told, c.told) || !sameDeque(d, c.want) {
			t.Errorf("PlayDeque(%d, %v) = %v, %v, want %v, %v", c.n, c.ops, d, told, c.want, c.told)
		}
	}
}

func TestPlayDequeOfAllShortPlays(t *testing.T) {
	words := []int{0, 1, 2, 3, -1, -2, -3}
	for n := 1; n <= 3; n++ {
		for length := range 6 {
			plays := 1
			for range length {
				plays *= len(words)
			}
			for play := range plays {
				ops := make([]int, length)
				for k, rest := 0, play; k < length; k, rest = k+1, rest/len(words) {
					ops[k] = words[rest%len(words)]
				}
				checkPlay(t, n, ops)
			}
			if t.Failed() {
				return
			}
		}
	}
}

func TestPlayDequeAtRandom(t *testing.T) {
	r := rand.New(rand.NewSource(44))
	for _, n := range []int{1, 2, 3, 5, 31, 63, 64} {
		for range 60 {
			ops := make([]int, r.Intn(401))
			lean := r.Intn(6)
			for k := range ops {
				ops[k] = r.Intn(30)
				if r.Intn(6) < lean {
					ops[k] = -1 - r.Intn(2)
				}
				if r.Intn(20) == 0 {
					ops[k] = -3 - r.Intn(20)
				}
			}
			checkPlay(t, n, ops)
			if t.Failed() {
				return
			}
		}
	}
}

func TestPlayDequeLimits(t *testing.T) {
	even, odd := slices.Repeat([]int{2}, 400), slices.Repeat([]int{3}, 400)
	for _, n := range []int{1, 64} {
		checkPlay(t, n, even)
		checkPlay(t, n, odd)
		for _, ops := range [][]int{append(even, 2), append(odd, -1), make([]int, 1000)} {
			if d, told := impl.PlayDeque(n, ops); !sameDeque(d, impl.Deque{}) || len(told) != 0 {
				t.Errorf("PlayDeque(%d, %d ops) = %v, %v", n, len(ops), d, told)
			}
		}
	}
	for _, n := range append(edgeNumbers(), 65, 66, 400) {
		if n >= 1 && n <= 64 {
			continue
		}
		for _, ops := range [][]int{nil, {2, 1, -1}, even, append(even, 2)} {
			if d, told := impl.PlayDeque(n, ops); !sameDeque(d, impl.Deque{}) || len(told) != 0 {
				t.Errorf("PlayDeque(%d, %d ops) = %v, %v", n, len(ops), d, told)
			}
		}
	}
}

// roomyNumbers is a copy of list that an append would write behind; spare is
// what stands there.
func roomyNumbers(list []int) (again []int, spare []int) {
	room := append(slices.Clone(list), slices.Repeat([]int{77}, 80)...)
	return room[:len(list)], room[len(list):]
}

func dequesForMemory() map[string]impl.Deque {
	return map[string]impl.Deque{
		"none":      {Slots: []int{0, 0, 0}, Head: 2},
		"some":      {Slots: []int{4, 0, 3}, Head: 2, Count: 2},
		"full":      {Slots: []int{4, 5, 3}, Head: 2, Count: 3},
		"one":       {Slots: []int{4}, Count: 1},
		"64":        {Slots: slices.Repeat([]int{4}, 64), Head: 5, Count: 64},
		"65":        {Slots: slices.Repeat([]int{4}, 65), Head: 5, Count: 64},
		"no slots":  {},
		"no place":  {Slots: []int{4, 5, 3}, Head: 3, Count: 3},
		"not 0":     {Slots: []int{4, 5, 3}, Head: 2, Count: 2},
		"too many":  {Slots: []int{4, 5, 3}, Head: 2, Count: 4},
		"below 0":   {Slots: []int{0, 0, 0}, Head: 2, Count: -1},
		"a minus 1": {Slots: []int{0, 0, 0}, Head: -1},
	}
}

// slotsAnswered is each list that a function of a deque answers.
func slotsAnswered(d impl.Deque) map[string][]int {
	last, _ := impl.PushLast(d, 6)
	first, _ := impl.PushFirst(d, 6)
	withoutLast, _, _ := impl.PopLast(d)
	withoutFirst, _, _ := impl.PopFirst(d)
	return map[string][]int{
		"PushLast": last.Slots, "PushFirst": first.Slots,
		"PopLast": withoutLast.Slots, "PopFirst": withoutFirst.Slots,
		"ListDeque": impl.ListDeque(d),
	}
}

// Neither who writes into an argument changes an answer, nor the other way, and
// no function writes into its argument or behind it.
func TestDequeMemory(t *testing.T) {
	for name, d := range dequesForMemory() {
		was := slices.Clone(d.Slots)
		slots, spare := roomyNumbers(was)
		d.Slots = slots
		untouched := func() bool {
			return slices.Equal(slots, was) && slices.Equal(spare, slices.Repeat([]int{77}, 80))
		}
		impl.DequeOk(d)
		impl.HeldAt(d, 0)
		for ask, answer := range slotsAnswered(d) {
			if !untouched() {
				t.Errorf("%s of %s writes into its argument: %v", ask, name, slots)
			}
			kept := slices.Clone(answer)
			for k := range slots {
				slots[k] = 99
			}
			if !slices.Equal(answer, kept) {
				t.Errorf("%s of %s changes with its argument", ask, name)
			}
			copy(slots, was)
			for k := range answer {
				answer[k] = 55
			}
			_ = append(answer, 55, 55)
			if !untouched() {
				t.Errorf("who writes into the answer of %s of %s writes into its argument: %v", ask, name, slots)
			}
		}
	}
}

func TestPlayDequeMemory(t *testing.T) {
	was := []int{2, 1, 4, -1, -2, -3, 8}
	ops, spare := roomyNumbers(was)
	d, told := impl.PlayDeque(3, ops)
	keptSlots, keptTold := slices.Clone(d.Slots), slices.Clone(told)
	again, toldAgain := impl.PlayDeque(3, ops)
	for k := range told {
		told[k] = 55
	}
	_ = append(told, 55)
	if !slices.Equal(d.Slots, keptSlots) {
		t.Error("the slots and what is told share memory")
	}
	for k := range d.Slots {
		d.Slots[k] = 55
	}
	_ = append(d.Slots, 55)
	if !slices.Equal(ops, was) || !slices.Equal(spare, slices.Repeat([]int{77}, 80)) {
		t.Errorf("PlayDeque writes into its argument: %v", ops)
	}
	for k := range ops {
		ops[k] = 99
	}
	if !slices.Equal(again.Slots, keptSlots) || !slices.Equal(toldAgain, keptTold) {
		t.Error("two answers of PlayDeque share memory, or one changes with the argument")
	}
}

func TestNewDequesAreNewMemory(t *testing.T) {
	one, _ := impl.NewDeque(3)
	for k := range one.Slots {
		one.Slots[k] = 9
	}
	two, _ := impl.NewDeque(3)
	checkHeld(t, two, &plainList{slots: 3})
}
