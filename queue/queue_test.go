package queue_test

import (
	"fmt"
	"math"
	"strings"
	"testing"

	"tidegate/api"
	"tidegate/queue"
)

// made is a queue for most bytes that holds s.
func made(t *testing.T, most int, s string) *queue.Queue {
	t.Helper()
	q, e := queue.New(most)
	if q == nil || e != api.OK {
		t.Fatalf("New(%d): %v, %v", most, q, e)
	}
	if e := q.Push(s); e != api.OK {
		t.Fatalf("Push(%.40q) at an empty queue for %d: %v", s, most, e)
	}
	return q
}

// state is all that a queue tells without being changed.
type state struct {
	held    string
	room    int
	full    bool
	in, out int
}

// String is s, what it holds cut short.
func (s state) String() string {
	return fmt.Sprintf("%.40q and %d bytes in all are held, room %d, full %v, in %d, out %d", s.held, len(s.held), s.room, s.full, s.in, s.out)
}

// stateOf asks q for all that it tells, Len and Peek of more than it holds among it.
func stateOf(t *testing.T, q *queue.Queue) state {
	t.Helper()
	s := state{held: q.Peek(q.Len()), room: q.Room(), full: q.Full()}
	s.in, s.out = q.Passed()
	if more := q.Peek(math.MaxInt); more != s.held {
		t.Errorf("Peek of all: %.40q, of more: %.40q", s.held, more)
	}
	if n := q.Len(); n != len(s.held) {
		t.Errorf("Len is %d, and %.40q is held", n, s.held)
	}
	return s
}

// expect holds what q tells against want.
func expect(t *testing.T, what string, q *queue.Queue, want state) {
	t.Helper()
	if got := stateOf(t, q); got != want {
		t.Errorf("%s: %v; want %v", what, got, want)
	}
}

// letters is n bytes, of which those that stand near to each other differ.
func letters(n int) string {
	return strings.Repeat("abcdefghijklmnopqrstuvwxyz", n/26+1)[:n]
}

// P7.1

func TestNew(t *testing.T) {
	for _, most := range []int{0, 1, 2, 1445, api.MaxLook - 1, api.MaxLook} {
		q, e := queue.New(most)
		if q == nil || e != api.OK {
			t.Fatalf("New(%d): %v, %v", most, q, e)
		}
		expect(t, fmt.Sprintf("New(%d)", most), q, state{room: most, full: most == 0})
	}
}

func TestNewOfWhatMayNotBe(t *testing.T) {
	for _, most := range []int{-1, -2, -api.MaxLook, math.MinInt, api.MaxLook + 1, 2 * api.MaxLook, math.MaxInt32, math.MaxInt} {
		if q, e := queue.New(most); q != nil || e != api.ErrArg {
			t.Errorf("New(%d): %v, %v", most, q, e)
		}
	}
}

// cases are queues of four bytes at most: empty ones, ones that hold some, and full ones.
var cases = []string{"", "a", "ab", "abc", "abcd"}

func TestPush(t *testing.T) {
	for _, held := range cases {
		room := 4 - len(held)
		for n := 0; n <= room; n++ {
			more := "wxyz"[:n]
			q := made(t, 4, held)
			if e := q.Push(more); e != api.OK {
				t.Errorf("Push(%.40q) behind %.40q: %v", more, held, e)
			}
			all := held + more
			expect(t, "Push("+more+") behind "+held, q, state{all, 4 - len(all), len(all) == 4, len(all), 0})
		}
	}
}

func TestPushThatIsRefusedChangesNothing(t *testing.T) {
	for _, held := range cases {
		room := 4 - len(held)
		for _, n := range []int{room + 1, room + 2, 5, 1000} {
			q := made(t, 4, held)
			before := stateOf(t, q)
			if e := q.Push(letters(n)); e != api.ErrFull {
				t.Errorf("Push of %d bytes behind %.40q: %v", n, held, e)
			}
			expect(t, "a Push that is refused", q, before)
			if e := q.Push(letters(room)); e != api.OK {
				t.Errorf("Push of %d bytes behind one that is refused: %v", room, e)
			}
			if got := q.Drain(); got != held+letters(room) {
				t.Errorf("Drain behind a Push that is refused: %.40q", got)
			}
		}
	}
}

func TestFill(t *testing.T) {
	for _, held := range cases {
		room := 4 - len(held)
		for n := 0; n <= 6; n++ {
			s := "uvwxyz"[:n]
			in := min(n, room)
			q := made(t, 4, held)
			if rest := q.Fill(s); rest != s[in:] {
				t.Errorf("Fill(%.40q) behind %.40q: %.40q", s, held, rest)
			}
			all := held + s[:in]
			expect(t, "Fill("+s+") behind "+held, q, state{all, 4 - len(all), len(all) == 4, len(all), 0})
		}
	}
}

func TestQueueForNoBytes(t *testing.T) {
	q := made(t, 0, "")
	empty := state{full: true}
	for _, step := range []struct {
		name string
		ok   bool
	}{
		{"Push of none", q.Push("") == api.OK},
		{"Push of one", q.Push("a") == api.ErrFull},
		{"Push of many", q.Push(letters(1000)) == api.ErrFull},
		{"Fill of none", q.Fill("") == ""},
		{"Fill of one", q.Fill("a") == "a"},
		{"Fill of many", q.Fill("abc") == "abc"},
		{"Take", q.Take(1) == ""},
		{"Take of none", q.Take(0) == ""},
		{"Peek", q.Peek(1) == ""},
		{"Drain", q.Drain() == ""},
		{"Len", q.Len() == 0},
		{"Room", q.Room() == 0},
		{"Full", q.Full()},
	} {
		if !step.ok {
			t.Error(step.name)
		}
	}
	expect(t, "a queue for no bytes", q, empty)
}

func TestFullestQueue(t *testing.T) {
	all := letters(api.MaxLook)
	q := made(t, api.MaxLook, all)
	expect(t, "as many as may be", q, state{all, 0, true, api.MaxLook, 0})
	if e := q.Push("a"); e != api.ErrFull {
		t.Errorf("Push of one more: %v", e)
	}
	if rest := q.Fill("ab"); rest != "ab" {
		t.Errorf("Fill of two more: %.40q", rest)
	}
	q = made(t, api.MaxLook, "")
	if e := q.Push(all + "a"); e != api.ErrFull {
		t.Errorf("Push of one more than may be: %v", e)
	}
	expect(t, "a Push of one more than may be", q, state{room: api.MaxLook})
	if rest := q.Fill(all + "xy"); rest != "xy" {
		t.Errorf("Fill of two more than may be: %.40q", rest)
	}
	if got := q.Drain(); got != all {
		t.Errorf("Drain of as many as may be: %d bytes", len(got))
	}
}

func TestEveryByteIsHeldAsItIs(t *testing.T) {
	q := made(t, 256, "")
	all := ""
	for i := range 256 {
		one := string([]byte{byte(i)})
		if e := q.Push(one); e != api.OK {
			t.Errorf("Push(%.40q): %v", one, e)
		}
		all += one
	}
	expect(t, "all bytes", q, state{all, 0, true, 256, 0})
	for i := range 256 {
		if got := q.Take(1); got != all[i:i+1] {
			t.Errorf("Take of the byte %d: %.40q", i, got)
		}
	}
}

// P7.2

func TestTakeAndPeek(t *testing.T) {
	for _, held := range cases {
		for _, n := range []int{math.MinInt, -1000, -1, 0, 1, 2, 3, 4, 5, 1000, math.MaxInt} {
			want := held[:min(max(n, 0), len(held))]
			q := made(t, 4, held)
			before := stateOf(t, q)
			if got := q.Peek(n); got != want {
				t.Errorf("Peek(%d) of %.40q: %.40q", n, held, got)
			}
			expect(t, "Peek", q, before)
			if got := q.Take(n); got != want {
				t.Errorf("Take(%d) of %.40q: %.40q", n, held, got)
			}
			left := held[len(want):]
			expect(t, "Take", q, state{left, 4 - len(left), len(left) == 4, len(held), len(want)})
		}
	}
}

func TestPeekTellsWhatTakeDoes(t *testing.T) {
	for n := range 6 {
		q := made(t, 10, "abcdefghij")
		for q.Len() > 0 {
			was := q.Len()
			seen, again := q.Peek(n), q.Peek(n)
			if seen != again {
				t.Errorf("Peek(%d): %.40q, then %.40q", n, seen, again)
			}
			if got := q.Take(n); got != seen {
				t.Errorf("Take(%d) is %.40q behind a Peek of %.40q", n, got, seen)
			}
			if n == 0 {
				break
			}
			if q.Len() != was-min(n, was) {
				t.Errorf("Take(%d): from %d to %d", n, was, q.Len())
			}
		}
	}
}

func TestDrain(t *testing.T) {
	for _, held := range cases {
		q := made(t, 4, held)
		if got := q.Drain(); got != held {
			t.Errorf("Drain of %.40q: %.40q", held, got)
		}
		empty := state{room: 4, in: len(held), out: len(held)}
		expect(t, "Drain", q, empty)
		if got := q.Drain(); got != "" {
			t.Errorf("Drain once more: %.40q", got)
		}
		expect(t, "Drain once more", q, empty)
		if e := q.Push("wxyz"); e != api.OK {
			t.Errorf("Push behind Drain: %v", e)
		}
		expect(t, "Push behind Drain", q, state{"wxyz", 0, true, len(held) + 4, len(held)})
	}
}

func TestDrainOfWhatIsLeft(t *testing.T) {
	q := made(t, 6, "abcdef")
	if got := q.Take(4); got != "abcd" {
		t.Errorf("Take(4): %.40q", got)
	}
	if got := q.Drain(); got != "ef" {
		t.Errorf("Drain: %.40q", got)
	}
	expect(t, "Drain", q, state{room: 6, in: 6, out: 6})
}

func TestPassed(t *testing.T) {
	q := made(t, 5, "")
	for i, step := range []struct {
		do      func()
		in, out int
	}{
		{func() {}, 0, 0},
		{func() { q.Push("abc") }, 3, 0},
		{func() { q.Push("") }, 3, 0},
		{func() { q.Push("defg") }, 3, 0},
		{func() { q.Peek(2) }, 3, 0},
		{func() { q.Take(-1) }, 3, 0},
		{func() { q.Take(2) }, 3, 2},
		{func() { q.Fill("defghi") }, 7, 2},
		{func() { q.Fill("x") }, 7, 2},
		{func() { q.Take(9) }, 7, 7},
		{func() { q.Take(9) }, 7, 7},
		{func() { q.Push("klmno") }, 12, 7},
		{func() { q.Drain() }, 12, 12},
		{func() { q.Drain() }, 12, 12},
	} {
		step.do()
		if in, out := q.Passed(); in != step.in || out != step.out {
			t.Errorf("step %d: %d, %d, want %d, %d", i, in, out, step.in, step.out)
		}
	}
}

func TestNilQueue(t *testing.T) {
	var q *queue.Queue
	for _, s := range []string{"", "a", "abc", letters(api.MaxLook + 1)} {
		if e := q.Push(s); e != api.ErrArg {
			t.Errorf("Push(%.40q): %v", s, e)
		}
		if rest := q.Fill(s); rest != s {
			t.Errorf("Fill(%.40q): %.40q", s, rest)
		}
	}
	for _, n := range []int{math.MinInt, -1, 0, 1, math.MaxInt} {
		if s := q.Take(n); s != "" {
			t.Errorf("Take(%d): %.40q", n, s)
		}
		if s := q.Peek(n); s != "" {
			t.Errorf("Peek(%d): %.40q", n, s)
		}
	}
	if s := q.Drain(); s != "" {
		t.Errorf("Drain: %.40q", s)
	}
	expect(t, "nil", q, state{full: true})
}

// Two queues know nothing of one another.
func TestQueuesAreTheirOwn(t *testing.T) {
	a, b := made(t, 3, "a"), made(t, 3, "b")
	a.Push("xx")
	b.Take(1)
	expect(t, "the one", a, state{"axx", 0, true, 3, 0})
	expect(t, "the other", b, state{room: 3, in: 1, out: 1})
}

// What is told stays as it is, whatever comes behind.
func TestAnswersStay(t *testing.T) {
	q := made(t, 4, "abcd")
	seen, taken := q.Peek(4), q.Take(2)
	q.Push("wx")
	rest := q.Drain()
	q.Push("1234")
	if seen != "abcd" || taken != "ab" || rest != "cdwx" {
		t.Errorf("%.40q, %.40q, %.40q", seen, taken, rest)
	}
}

// P7.3

// watched is a queue, and all that it held and let go, as it was told.
type watched struct {
	q        *queue.Queue
	most     int
	in, gone strings.Builder
}

// push pushes s, and says whether it went in.
func (w *watched) push(t *testing.T, s string) {
	t.Helper()
	want := api.OK
	if len(s) > w.most-(w.in.Len()-w.gone.Len()) {
		want = api.ErrFull
	}
	if e := w.q.Push(s); e != want {
		t.Errorf("Push(%.40q): %v, want %v", s, e, want)
	}
	if want == api.OK {
		w.in.WriteString(s)
	}
}

// fill fills up with s.
func (w *watched) fill(t *testing.T, s string) {
	t.Helper()
	room := w.most - (w.in.Len() - w.gone.Len())
	rest := w.q.Fill(s)
	if !strings.HasSuffix(s, rest) || len(rest) != max(len(s)-room, 0) {
		t.Errorf("Fill(%.40q) with room for %d: %.40q", s, room, rest)
		return
	}
	w.in.WriteString(s[:len(s)-len(rest)])
}

// check holds what is gone and what is held against what was held.
func (w *watched) check(t *testing.T) {
	t.Helper()
	all := w.in.String()
	gone := w.gone.String()
	if !strings.HasPrefix(all, gone) {
		t.Fatalf("gone is %.40q, of %.40q", gone, all)
	}
	held := all[len(gone):]
	room := w.most - len(held)
	expect(t, "in turns", w.q, state{held, room, room == 0, len(all), len(gone)})
}

// step does one thing to w, by the numbers kind and n.
func (w *watched) step(t *testing.T, kind, n int) {
	t.Helper()
	s := letters(w.in.Len()%26 + n)[w.in.Len()%26:]
	switch kind {
	case 0:
		w.push(t, s)
	case 1:
		w.fill(t, s)
	case 2:
		w.gone.WriteString(w.q.Take(n))
	case 3:
		w.q.Peek(n)
	default:
		w.gone.WriteString(w.q.Drain())
	}
}

// Every row of four calls, at queues for 0 to 3 bytes.
func TestEveryRowOfCallsKeepsAllInOrder(t *testing.T) {
	const kinds, sizes, steps = 5, 3, 4
	rows := 1
	for range steps {
		rows *= kinds * sizes
	}
	for most := range 4 {
		for row := range rows {
			w := &watched{q: made(t, most, ""), most: most}
			rest := row
			for range steps {
				w.step(t, rest%kinds, rest/kinds%sizes+1)
				rest /= kinds * sizes
			}
			w.check(t)
			if t.Failed() {
				t.Fatalf("row %d at %d bytes", row, most)
			}
		}
	}
}

func TestManyCallsInTurnsKeepAllInOrder(t *testing.T) {
	for _, most := range []int{1, 2, 7, 64, 1000} {
		w := &watched{q: made(t, most, ""), most: most}
		// Numbers that go their way through all sizes and kinds, the same ones each time.
		x := 12345
		for range 3000 {
			x = (x*1103515245 + 12345) & 0x7fffffff
			w.step(t, x>>16%5, x>>8%(most+2))
			w.step(t, x>>20%4, x>>12%(most/2+2))
			if t.Failed() {
				t.Fatalf("at %d bytes", most)
			}
		}
		w.check(t)
	}
}

func TestFilledEmptiedAndFilledAgain(t *testing.T) {
	for _, most := range []int{1, 3, 8, 100} {
		for _, bite := range []int{1, 2, 3, 1000} {
			w := &watched{q: made(t, most, ""), most: most}
			for turn := range 20 {
				w.fill(t, letters(most+turn%3))
				w.check(t)
				if !w.q.Full() {
					t.Errorf("turn %d: not full", turn)
				}
				w.push(t, "x")
				for w.q.Len() > 0 {
					w.gone.WriteString(w.q.Take(bite))
				}
				w.check(t)
			}
		}
	}
}

// A queue that is always nearly full, a few bytes coming as a few go.
func TestBytesThatGoThroughAFullQueue(t *testing.T) {
	w := &watched{q: made(t, 10, ""), most: 10}
	all := letters(5000)
	rest := w.q.Fill(all)
	for rest != "" {
		w.gone.WriteString(w.q.Take(3))
		rest = w.q.Fill(rest)
	}
	w.gone.WriteString(w.q.Drain())
	if w.gone.String() != all {
		t.Error("what went through is not what came")
	}
	expect(t, "all is gone", w.q, state{room: 10, in: 5000, out: 5000})
}

// Many small pieces of a long queue take no time to speak of.
func TestManySmallPieces(t *testing.T) {
	q := made(t, api.MaxLook, "")
	for i := range api.MaxLook {
		if e := q.Push(letters(26)[i%26 : i%26+1]); e != api.OK {
			t.Fatalf("Push of the byte %d: %v", i, e)
		}
	}
	all := letters(api.MaxLook)
	for i := range api.MaxLook {
		if q.Peek(1) != all[i:i+1] || q.Take(1) != all[i:i+1] || q.Push("z") != api.OK {
			t.Fatalf("the byte %d", i)
		}
	}
	if in, out := q.Passed(); in != 2*api.MaxLook || out != api.MaxLook || !q.Full() {
		t.Errorf("%d, %d", in, out)
	}
}

func ExampleNew() {
	q, _ := queue.New(3)
	fmt.Println(q.Fill("abcd"))
	fmt.Println(q.Take(2), q.Len(), q.Room())
	// Output:
	// d
	// ab 1 2
}
