package queue_test

import (
	"bytes"
	"math"
	"slices"
	"strconv"
	"testing"
	"time"

	"franking/api"
	"franking/queue"
)

func newQueue(t *testing.T, room int, elements ...string) *queue.Queue {
	t.Helper()
	q, err := queue.New(room)
	if q == nil || err != api.OK {
		t.Fatalf("New(%d): %v", room, err)
	}
	for _, s := range elements {
		if !q.Put([]byte(s)) {
			t.Fatalf("Put(%q) into a queue of %d with %d elements is false", s, room, q.Len())
		}
	}
	return q
}

func closedQueue(t *testing.T, room int, elements ...string) *queue.Queue {
	t.Helper()
	q := newQueue(t, room, elements...)
	q.Close()
	return q
}

// expect takes all elements of q, and so tells what q held.
func expect(t *testing.T, what string, q *queue.Queue, want ...string) {
	t.Helper()
	if q.Len() != len(want) {
		t.Errorf("%s: Len is %d, want %d", what, q.Len(), len(want))
	}
	var got []string
	for range 2 * api.MaxQueue {
		b, ok := q.Take()
		if !ok {
			break
		}
		got = append(got, string(b))
	}
	if !slices.Equal(got, want) {
		t.Errorf("%s: the elements are %q, want %q", what, got, want)
	}
	if b, ok := q.Take(); b != nil || ok || q.Len() != 0 {
		t.Errorf("%s: then Take returns %q, %v, and Len is %d", what, b, ok, q.Len())
	}
}

func TestExample(t *testing.T) {
	q := newQueue(t, 2)
	for i, want := range []bool{true, true, false} {
		if q.Put([]byte("a")) != want {
			t.Errorf("call %d of Put is not %v", i+1, want)
		}
	}
}

func TestNewRefusesWrongRooms(t *testing.T) {
	for _, room := range []int{0, -1, -api.MaxQueue, api.MaxQueue + 1, 1 << 20, math.MaxInt, math.MinInt} {
		if q, err := queue.New(room); q != nil || err != api.EARG {
			t.Errorf("New(%d): a queue: %v, %v", room, q != nil, err)
		}
	}
}

func TestNewIsEmptyAndOpen(t *testing.T) {
	q := newQueue(t, 3)
	if q.Closed() {
		t.Error("a new queue is closed")
	}
	expect(t, "a new queue", q)
}

func TestRoom(t *testing.T) {
	for room := 1; room <= api.MaxQueue; room++ {
		q := newQueue(t, room)
		var want []string
		for i := range room {
			want = append(want, strconv.Itoa(i))
			if !q.Put([]byte(want[i])) || q.Len() != i+1 {
				t.Fatalf("room %d: Put of number %d is false, or Len is %d", room, i, q.Len())
			}
		}
		for range 2 {
			if q.Put([]byte("over")) || q.Len() != room {
				t.Errorf("room %d: a full queue takes one more, or Len is %d", room, q.Len())
			}
		}
		expect(t, "room "+strconv.Itoa(room), q, want...)
	}
}

// The elements go round the buffer several times.
func TestOrderWhileItFillsAndEmpties(t *testing.T) {
	for room := 1; room <= 5; room++ {
		q := newQueue(t, room)
		var want []string
		for i := range 50 {
			if i%3 == 2 || len(want) == room {
				if b, ok := q.Take(); !ok || string(b) != want[0] {
					t.Fatalf("room %d, step %d: Take returns %q, %v, want %q", room, i, b, ok, want[0])
				}
				want = want[1:]
			}
			s := strconv.Itoa(i)
			if !q.Put([]byte(s)) {
				t.Fatalf("room %d, step %d: Put is false", room, i)
			}
			want = append(want, s)
		}
		expect(t, "room "+strconv.Itoa(room), q, want...)
	}
}

func TestTakeMakesRoom(t *testing.T) {
	q := newQueue(t, 1, "a")
	if b, ok := q.Take(); string(b) != "a" || !ok || q.Len() != 0 {
		t.Errorf("Take returns %q, %v, and Len is %d", b, ok, q.Len())
	}
	if !q.Put([]byte("b")) {
		t.Error("there is no room after Take")
	}
	expect(t, "after Take", q, "b")
}

func TestElementsMayBeEmptyOrLong(t *testing.T) {
	q := newQueue(t, 3)
	long := bytes.Repeat([]byte{0, 255, '\n'}, api.MaxMessage)
	if !q.Put(nil) || !q.Put([]byte{}) || !q.Put(long) || q.Len() != 3 {
		t.Fatalf("Put is false, or Len is %d", q.Len())
	}
	for _, want := range [][]byte{nil, nil, long} {
		if b, ok := q.Take(); !ok || !bytes.Equal(b, want) {
			t.Errorf("%d bytes, %v, want %d bytes", len(b), ok, len(want))
		}
	}
	expect(t, "at the end", q)
}

func TestPutKeepsACopy(t *testing.T) {
	q := newQueue(t, 2)
	whole := []byte("first second")
	q.Put(whole[:5])
	q.Put(whole)
	copy(whole, "changed.....")
	first, _ := q.Take()
	if string(first) != "first" {
		t.Errorf("a change of what was put in shows: %q", first)
	}
	spare := first[:cap(first)]
	for i := range spare {
		spare[i] = 'x'
	}
	if string(whole) != "changed....." {
		t.Errorf("a change of what was taken shows in what was put in: %q", whole)
	}
	expect(t, "a change of what was taken", q, "first second")
}

func TestPutLeavesItsArgumentAlone(t *testing.T) {
	q := newQueue(t, 1)
	whole := []byte("ab--")
	for range 2 {
		q.Put(whole[:2])
		if string(whole) != "ab--" {
			t.Errorf("Put changed its argument to %q", whole)
		}
	}
}

func TestEqualElementsAreNotShared(t *testing.T) {
	q := newQueue(t, 2)
	same := []byte("same")
	q.Put(same)
	q.Put(same)
	first, _ := q.Take()
	copy(first, "else")
	expect(t, "after a change of the first", q, "same")
}

func TestQueuesAreSeparate(t *testing.T) {
	q, r := newQueue(t, 1, "a"), newQueue(t, 1)
	q.Close()
	if r.Closed() || r.Len() != 0 || !r.Put([]byte("b")) {
		t.Error("one queue changes with another")
	}
	expect(t, "the first", q, "a")
	expect(t, "the second", r, "b")
}

func TestClose(t *testing.T) {
	q := newQueue(t, 3, "a", "b")
	for range 2 {
		q.Close()
		if !q.Closed() || q.Len() != 2 {
			t.Errorf("after Close: Closed is %v, Len is %d", q.Closed(), q.Len())
		}
		if q.Put([]byte("c")) {
			t.Error("a closed queue with room accepts an element")
		}
	}
	expect(t, "a closed queue", q, "a", "b")
	if !q.Closed() || q.Put([]byte("c")) || q.Len() != 0 {
		t.Error("a closed queue that has become empty accepts an element")
	}
}

func TestCloseOfAnEmptyAndOfAFullQueue(t *testing.T) {
	empty := closedQueue(t, 1)
	if !empty.Closed() || empty.Put([]byte("a")) {
		t.Error("an empty queue is not closed")
	}
	expect(t, "an empty one", empty)
	full := closedQueue(t, 1, "a")
	if !full.Closed() || full.Put([]byte("b")) {
		t.Error("a full queue is not closed")
	}
	expect(t, "a full one", full, "a")
}

func TestNilQueue(t *testing.T) {
	var none *queue.Queue
	for range 2 {
		if none.Put([]byte("a")) || none.Put(nil) {
			t.Error("a nil queue accepts an element")
		}
		if b, ok := none.Take(); b != nil || ok {
			t.Errorf("Take of a nil queue returns %q, %v", b, ok)
		}
		if none.Len() != 0 || none.Closed() {
			t.Errorf("a nil queue: Len is %d, Closed is %v", none.Len(), none.Closed())
		}
		none.Close()
	}
}

func TestReady(t *testing.T) {
	empty := newQueue(t, 1)
	one := newQueue(t, 2, "one", "uno")
	two := newQueue(t, 2, "two")
	l := []*queue.Queue{nil, empty, one, nil, two, one}
	given := slices.Clone(l)
	for _, want := range []struct {
		at   int
		b    string
		ok   bool
		len1 int
		len2 int
	}{
		{2, "one", true, 1, 1},
		{2, "uno", true, 0, 1},
		{4, "two", true, 0, 0},
		{0, "", false, 0, 0},
		{0, "", false, 0, 0},
	} {
		at, b, ok := queue.Ready(l...)
		if at != want.at || string(b) != want.b || ok != want.ok || !ok && b != nil {
			t.Errorf("%d, %q, %v, want %d, %q, %v", at, b, ok, want.at, want.b, want.ok)
		}
		if one.Len() != want.len1 || two.Len() != want.len2 {
			t.Errorf("after %q the queues have %d and %d elements", want.b, one.Len(), two.Len())
		}
	}
	if !slices.Equal(l, given) {
		t.Error("Ready changed its list")
	}
}

func TestReadyAlwaysTakesFromTheFirst(t *testing.T) {
	for range 50 {
		a, b := newQueue(t, 1, "a"), newQueue(t, 1, "b")
		if at, x, ok := queue.Ready(a, b); at != 0 || string(x) != "a" || !ok || b.Len() != 1 {
			t.Fatalf("%d, %q, %v", at, x, ok)
		}
	}
}

func TestReadyOfNothing(t *testing.T) {
	for i, l := range [][]*queue.Queue{nil, {}, {nil}, {nil, nil}, {newQueue(t, 1)}, {closedQueue(t, 1), nil}} {
		if at, b, ok := queue.Ready(l...); at != 0 || b != nil || ok {
			t.Errorf("list %d: %d, %q, %v", i, at, b, ok)
		}
	}
}

func TestReadyTakesFromAClosedQueue(t *testing.T) {
	q := closedQueue(t, 2, "a", "b")
	if at, b, ok := queue.Ready(nil, q); at != 1 || string(b) != "a" || !ok {
		t.Errorf("%d, %q, %v", at, b, ok)
	}
	expect(t, "after Ready", q, "b")
}

func TestReadyTakesAnEmptyElement(t *testing.T) {
	first, second := newQueue(t, 1, ""), newQueue(t, 1, "a")
	if at, b, ok := queue.Ready(nil, first, second); at != 1 || len(b) != 0 || !ok {
		t.Errorf("%d, %q, %v", at, b, ok)
	}
	if first.Len() != 0 || second.Len() != 1 {
		t.Errorf("%d and %d elements are left", first.Len(), second.Len())
	}
}

func TestMove(t *testing.T) {
	from, to := newQueue(t, 3, "a", "b", ""), newQueue(t, 4, "x")
	for i := range 3 {
		if !queue.Move(from, to) || from.Len() != 2-i || to.Len() != 2+i {
			t.Errorf("Move %d is false, or there are %d and %d elements", i, from.Len(), to.Len())
		}
	}
	if queue.Move(from, to) {
		t.Error("Move from a queue that has become empty")
	}
	expect(t, "from", from)
	expect(t, "to", to, "x", "a", "b", "")
}

func TestMoveOutOfAClosedQueue(t *testing.T) {
	from, to := closedQueue(t, 2, "a", "b"), newQueue(t, 2)
	if !queue.Move(from, to) || !from.Closed() || to.Closed() {
		t.Error("Move out of a closed queue")
	}
	expect(t, "from", from, "b")
	expect(t, "to", to, "a")
}

func TestMoveRefuses(t *testing.T) {
	for _, c := range []struct {
		what     string
		from, to *queue.Queue
		inFrom   []string
		inTo     []string
	}{
		{"from is empty", newQueue(t, 2), newQueue(t, 2, "x"), nil, []string{"x"}},
		{"from is empty and closed", closedQueue(t, 2), newQueue(t, 2, "x"), nil, []string{"x"}},
		{"to is full", newQueue(t, 2, "a", "b"), newQueue(t, 1, "x"), []string{"a", "b"}, []string{"x"}},
		{"to is closed", newQueue(t, 2, "a", "b"), closedQueue(t, 2, "x"), []string{"a", "b"}, []string{"x"}},
		{"to is closed and full", newQueue(t, 2, "a"), closedQueue(t, 1, "x"), []string{"a"}, []string{"x"}},
		{"from is nil", nil, newQueue(t, 2, "x"), nil, []string{"x"}},
		{"to is nil", newQueue(t, 2, "a", "b"), nil, []string{"a", "b"}, nil},
		{"both are nil", nil, nil, nil, nil},
	} {
		if queue.Move(c.from, c.to) {
			t.Errorf("%s: Move is true", c.what)
		}
		expect(t, c.what+": from", c.from, c.inFrom...)
		expect(t, c.what+": to", c.to, c.inTo...)
	}
}

func TestMoveWithinOneQueue(t *testing.T) {
	q := newQueue(t, 3, "a", "b")
	if queue.Move(q, q) {
		t.Error("Move from a queue to itself")
	}
	expect(t, "the queue", q, "a", "b")
	full := newQueue(t, 1, "a")
	if queue.Move(full, full) {
		t.Error("Move from a full queue to itself")
	}
	expect(t, "the full queue", full, "a")
}

// model is what the chapter says of a queue, as a plain list.
type model struct {
	room   int
	items  []string
	closed bool
}

func (m *model) put(s string) bool {
	if m.closed || len(m.items) == m.room {
		return false
	}
	m.items = append(m.items, s)
	return true
}

func (m *model) take() (string, bool) {
	if len(m.items) == 0 {
		return "", false
	}
	s := m.items[0]
	m.items = m.items[1:]
	return s, true
}

func (m *model) moveTo(to *model) bool {
	if m == to || len(m.items) == 0 || !to.put(m.items[0]) {
		return false
	}
	m.items = m.items[1:]
	return true
}

type pair struct {
	q [2]*queue.Queue
	m [2]*model
}

const acts = 11

// act does one thing to the queues and to their models and returns what each
// of the two told. The elements are named after the step.
func (p *pair) act(step, n int) (got, want string) {
	s := strconv.Itoa(step)
	switch {
	case n < 2:
		return tell(s, p.q[n].Put([]byte(s))), tell(s, p.m[n].put(s))
	case n < 4:
		b, ok := p.q[n-2].Take()
		c, wantOK := p.m[n-2].take()
		return tell(string(b), ok), tell(c, wantOK)
	case n < 6:
		p.q[n-4].Close()
		p.m[n-4].closed = true
		return "", ""
	case n < 10:
		from, to := (n-6)/2, (n-6)%2
		return tell("", queue.Move(p.q[from], p.q[to])), tell("", p.m[from].moveTo(p.m[to]))
	}
	at, b, ok := queue.Ready(p.q[1], nil, p.q[0])
	if c, wantOK := p.m[1].take(); wantOK {
		return tell(strconv.Itoa(at)+string(b), ok), tell("0"+c, true)
	}
	c, wantOK := p.m[0].take()
	wantAt := "0"
	if wantOK {
		wantAt = "2"
	}
	return tell(strconv.Itoa(at)+string(b), ok), tell(wantAt+c, wantOK)
}

func tell(s string, ok bool) string { return s + " " + strconv.FormatBool(ok) }

// Every row of five things that can be done to two queues with the rooms 1
// and 2.
func TestAllShortScripts(t *testing.T) {
	const steps = 5
	scripts := 1
	for range steps {
		scripts *= acts
	}
	for script := range scripts {
		p := pair{m: [2]*model{{room: 1}, {room: 2}}}
		p.q[0], _ = queue.New(1)
		p.q[1], _ = queue.New(2)
		for step, rest := 0, script; step < steps; step, rest = step+1, rest/acts {
			got, want := p.act(step, rest%acts)
			if got != want {
				t.Fatalf("script %d, step %d, act %d: %q, want %q", script, step, rest%acts, got, want)
			}
			for i, q := range p.q {
				if q.Len() != len(p.m[i].items) || q.Closed() != p.m[i].closed {
					t.Fatalf("script %d, step %d, queue %d: Len is %d, Closed is %v", script, step, i, q.Len(), q.Closed())
				}
			}
		}
	}
}

// A call that blocks would hold up the whole test: so the calls that find no
// room and no element have a time of their own.
func TestNothingBlocks(t *testing.T) {
	done := make(chan struct{})
	full, empty := newQueue(t, 1, "a"), newQueue(t, 1)
	go func() {
		defer close(done)
		full.Put([]byte("b"))
		empty.Take()
		queue.Ready(empty, nil)
		queue.Move(full, full)
		queue.Move(empty, full)
		queue.Move(empty, nil)
		(*queue.Queue)(nil).Put(nil)
		(*queue.Queue)(nil).Take()
	}()
	select {
	case <-done:
	case <-time.After(10 * time.Second):
		t.Fatal("a call blocks")
	}
}
