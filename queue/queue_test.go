package queue_test

import (
	"bytes"
	"math"
	"strings"
	"testing"

	"rejoinder/queue"
)

// model is P6.1 said word for word, by texts.
type model struct {
	most         int
	taken, waits string
}

func modelOf(most int) model { return model{most: max(most, 0)} }

func (m *model) put(s string) bool {
	if len(m.taken)+len(m.waits)+len(s) > m.most {
		return false
	}
	m.waits += s
	return true
}

func (m *model) take(n int) string {
	got := ""
	for n >= 1 && m.waits != "" {
		got += m.waits[:1]
		m.waits = m.waits[1:]
		n--
	}
	m.taken += got
	return got
}

// stands asks a queue all that it can tell, against the model.
func stands(t *testing.T, what string, q *queue.Queue, m model) {
	t.Helper()
	all := m.taken + m.waits
	if q.Len() != len(m.waits) || q.Total() != len(all) || string(q.Taken()) != m.taken || string(q.All()) != all {
		t.Fatalf("%s: Len %d, Total %d, Taken %q, All %q, want taken %q, waiting %q", what, q.Len(), q.Total(), q.Taken(), q.All(), m.taken, m.waits)
	}
}

// puts puts a text into both.
func puts(t *testing.T, what string, q *queue.Queue, m *model, s string) {
	t.Helper()
	if got, want := q.Put([]byte(s)), m.put(s); got != want {
		t.Fatalf("%s: Put(%q) = %v, want %v", what, s, got, want)
	}
	stands(t, what, q, *m)
}

// takes takes n from both.
func takes(t *testing.T, what string, q *queue.Queue, m *model, n int) {
	t.Helper()
	if got, want := string(q.Take(n)), m.take(n); got != want {
		t.Fatalf("%s: Take(%d) = %q, want %q", what, n, got, want)
	}
	stands(t, what, q, *m)
}

// spoil changes bytes, and the room behind them, as who owns them may.
func spoil(b []byte) {
	b = b[:cap(b)]
	for i := range b {
		b[i] ^= 255
	}
}

// P6.1: the chapter's example.
func TestExample(t *testing.T) {
	q := queue.New(3)
	if !q.Put([]byte("ab")) {
		t.Error("ab is not put")
	}
	if q.Put([]byte("cd")) {
		t.Error("cd is put")
	}
	if got := q.Take(9); string(got) != "ab" {
		t.Errorf("Take(9) = %q, want ab", got)
	}
}

// P6.1: in a new queue nothing waits, and nothing was put or taken, whatever its most is.
func TestNew(t *testing.T) {
	for _, most := range []int{math.MinInt, -1, 0, 1, 3, 4000, math.MaxInt} {
		q := queue.New(most)
		if q.Len() != 0 || q.Total() != 0 || len(q.Taken()) != 0 || len(q.All()) != 0 || len(q.Take(1)) != 0 {
			t.Errorf("New(%d): Len %d, Total %d, Taken %q, All %q", most, q.Len(), q.Total(), q.Taken(), q.All())
		}
	}
}

// P6.1: up to most bytes may be put, and no more; a most below 0 is 0; no bytes may be put always.
func TestMost(t *testing.T) {
	for _, most := range []int{math.MinInt, -4000, -1, 0, 1, 2, 3, 64, 4000} {
		room := max(most, 0)
		for n := range 70 {
			q := queue.New(most)
			if got := q.Put(make([]byte, n)); got != (n <= room) {
				t.Errorf("New(%d): Put of %d bytes is %v", most, n, got)
			}
		}
		q := queue.New(most)
		if !q.Put(nil) || !q.Put([]byte{}) || !q.Put(make([]byte, room)) || !q.Put(nil) || !q.Put([]byte{}) {
			t.Errorf("New(%d): not put", most)
		}
		if q.Put([]byte("a")) || q.Total() != room || q.Len() != room {
			t.Errorf("New(%d): one byte too many: Total %d, Len %d", most, q.Total(), q.Len())
		}
	}
}

// P6.1, R1: a most as great as can be bounds nothing, and asks for no room ahead.
func TestGreatestMost(t *testing.T) {
	for _, most := range []int{math.MaxInt, math.MaxInt - 1} {
		q, m := queue.New(most), modelOf(most)
		for range 20 {
			q.Put([]byte(strings.Repeat("long \x00\xff", 1000)))
			m.waits += strings.Repeat("long \x00\xff", 1000)
		}
		stands(t, "great", q, m)
	}
}

// P6.1: what was taken counts: taking gives no room back.
func TestMostCountsWhatWasTaken(t *testing.T) {
	q, m := queue.New(5), modelOf(5)
	puts(t, "1", q, &m, "abc")
	takes(t, "2", q, &m, 3)
	puts(t, "3", q, &m, "def")
	puts(t, "4", q, &m, "de")
	takes(t, "5", q, &m, 2)
	puts(t, "6", q, &m, "f")
	puts(t, "7", q, &m, "")
	if q.Len() != 0 || q.Total() != 5 || string(q.Taken()) != "abcde" {
		t.Errorf("Len %d, Total %d, Taken %q", q.Len(), q.Total(), q.Taken())
	}
}

// P6.1, R2: what is too much is put not even in part, and less may be put behind it.
func TestRefusedPutChangesNothing(t *testing.T) {
	q, m := queue.New(4), modelOf(4)
	puts(t, "1", q, &m, "ab")
	takes(t, "2", q, &m, 1)
	for range 3 {
		puts(t, "too much", q, &m, "cde")
		puts(t, "far too much", q, &m, strings.Repeat("x", 10000))
	}
	puts(t, "3", q, &m, "cd")
	puts(t, "4", q, &m, "e")
	takes(t, "5", q, &m, 9)
	if string(q.All()) != "abcd" {
		t.Errorf("All %q", q.All())
	}
}

// P6.1, R1: Take of any number: none below 1, and no more than wait.
func TestTakeAnyNumber(t *testing.T) {
	for wait := range 5 {
		for _, n := range []int{math.MinInt, math.MinInt + 1, -9, -1, 0, 1, 2, 3, 4, 5, 9, 1 << 32, math.MaxInt - 1, math.MaxInt} {
			for already := range 4 {
				q, m := queue.New(20), modelOf(20)
				puts(t, "ahead", q, &m, "abc"[:already])
				takes(t, "ahead", q, &m, already)
				puts(t, "put", q, &m, "defgh"[:wait])
				takes(t, "once", q, &m, n)
				takes(t, "twice", q, &m, n)
				puts(t, "behind", q, &m, "xyz")
				takes(t, "thrice", q, &m, n)
			}
		}
	}
}

// P6.1: all short rows of calls, on all small mosts, each call against the chapter's words; a clone stands beside each step, and is left as it was.
func TestAllShortRows(t *testing.T) {
	texts := []string{"", "a", "bc", "def"}
	numbers := []int{-1, 0, 1, 2, 9}
	var walk func(q *queue.Queue, m model, left int)
	walk = func(q *queue.Queue, m model, left int) {
		if left == 0 {
			return
		}
		for _, s := range texts {
			next, after := q.Clone(), m
			puts(t, "row", next, &after, s)
			walk(next, after, left-1)
		}
		for _, n := range numbers {
			next, after := q.Clone(), m
			takes(t, "row", next, &after, n)
			walk(next, after, left-1)
		}
		stands(t, "left behind", q, m)
	}
	for most := -1; most < 8; most++ {
		walk(queue.New(most), modelOf(most), 5)
	}
}

// P6.1: the same rows without clones, so that what holds does not hang on them.
func TestLongRowsWithoutClones(t *testing.T) {
	for seed := range uint32(300) {
		most := int(seed) * 5
		q, m := queue.New(most), modelOf(most)
		x := seed*2654435761 + 1
		for range 200 {
			x = x*1664525 + 1013904223
			n := int(x>>20) % 23
			if x>>31 == 0 {
				puts(t, "row", q, &m, strings.Repeat(string([]byte{byte(x >> 8), byte(x >> 16)}), n)[:n])
			} else {
				takes(t, "row", q, &m, n-2)
			}
		}
	}
}

// P6.2: each byte, however the puts and the takes are cut: what is taken is what was put, in order, each once.
func TestHoweverCut(t *testing.T) {
	row := make([]byte, 600)
	for i := range row {
		row[i] = byte(i * 7)
	}
	cuts := []int{1, 2, 3, 7, 16, 64, 255, 256, 257, 599, 600, 1000}
	for _, in := range cuts {
		for _, out := range cuts {
			q := queue.New(len(row))
			var got []byte
			for rest := row; len(rest) > 0; {
				n := min(in, len(rest))
				if !q.Put(rest[:n]) {
					t.Fatalf("cut by %d: not put at %d", in, len(row)-len(rest))
				}
				rest = rest[n:]
				got = append(got, q.Take(out)...)
				if !bytes.Equal(q.Taken(), got) || !bytes.HasPrefix(row, got) {
					t.Fatalf("cut by %d and %d: %d bytes taken are others", in, out, len(got))
				}
			}
			for q.Len() > 0 {
				got = append(got, q.Take(out)...)
			}
			if !bytes.Equal(got, row) || !bytes.Equal(q.Taken(), row) || !bytes.Equal(q.All(), row) {
				t.Errorf("cut by %d and %d: %d bytes are others", in, out, len(got))
			}
		}
	}
}

// P6.1, R7: a clone and what it was made of go their own ways, whichever of them goes first, also from a full queue, an empty one, and one with room behind.
func TestCloneGoesItsOwnWay(t *testing.T) {
	for put := range 40 {
		for _, take := range []int{0, 1, put / 2, put} {
			for _, most := range []int{put, put + 1, 100} {
				q, m := queue.New(most), modelOf(most)
				for i := range put {
					puts(t, "made", q, &m, string(rune('a'+i%26)))
				}
				takes(t, "made", q, &m, take)
				c, mc := q.Clone(), m
				stands(t, "clone", c, mc)
				puts(t, "first", q, &m, "Q")
				stands(t, "clone", c, mc)
				puts(t, "clone", c, &mc, "CC")
				stands(t, "first", q, m)
				takes(t, "clone", c, &mc, 3)
				stands(t, "first", q, m)
				d, md := c.Clone(), mc
				takes(t, "first", q, &m, 100)
				stands(t, "clone", c, mc)
				puts(t, "clone's clone", d, &md, "D")
				puts(t, "clone", c, &mc, "C")
				puts(t, "first", q, &m, "QQQ")
				stands(t, "clone", c, mc)
				stands(t, "clone's clone", d, md)
			}
		}
	}
}

// P6.1: a clone has its most, of what was taken ahead of it too.
func TestCloneHasItsMost(t *testing.T) {
	q := queue.New(3)
	q.Put([]byte("ab"))
	q.Take(2)
	c := q.Clone()
	if c.Put([]byte("cd")) || !c.Put([]byte("c")) || c.Put([]byte("d")) {
		t.Error("the clone's most is another")
	}
	if !q.Put([]byte("x")) || q.Put([]byte("y")) || string(q.All()) != "abx" || string(c.All()) != "abc" {
		t.Errorf("%q, and its clone %q", q.All(), c.All())
	}
	if none := queue.New(-5).Clone(); none.Put([]byte("a")) || !none.Put(nil) {
		t.Error("the clone of none")
	}
}

// R7: what is put is neither changed nor kept, nor the room behind it.
func TestLeavesItsArguments(t *testing.T) {
	for n := range 40 {
		room := bytes.Repeat([]byte("r"), 100)
		for i := range n {
			room[i] = byte('a' + i%26)
		}
		was := bytes.Clone(room)
		q, m := queue.New(90), modelOf(90)
		if !q.Put(room[:n]) {
			t.Fatal("not put")
		}
		m.put(string(was[:n]))
		puts(t, "behind", q, &m, "more")
		takes(t, "behind", q, &m, n/2)
		q.Put(room)
		if !bytes.Equal(room, was) {
			t.Fatalf("%d bytes: the argument, or the room behind it, is changed", n)
		}
		spoil(room)
		stands(t, "spoilt", q, m)
		takes(t, "spoilt", q, &m, 50)
	}
}

// R7: what is answered is the caller's own: changing it, and putting others behind it, changes no queue, no clone, and no other answer.
func TestAnswersAreTheCallers(t *testing.T) {
	for n := range 40 {
		q, m := queue.New(100), modelOf(100)
		for i := range n + 5 {
			puts(t, "made", q, &m, string(rune('a'+i%26)))
		}
		c, mc := q.Clone(), m
		for _, part := range []int{0, n / 2, 2, 1} {
			took, wantTook := q.Take(part), m.take(part)
			taken, all, again := q.Taken(), q.All(), q.All()
			for _, b := range [][]byte{took, taken, all} {
				_ = append(b, "spoilt"...)
				spoil(b)
			}
			if len(took) != len(wantTook) || string(again) != m.taken+m.waits {
				t.Fatalf("%d taken, want %d; another answer is %q", len(took), len(wantTook), again)
			}
			stands(t, "spoilt", q, m)
			stands(t, "the clone", c, mc)
		}
		kept, want := q.All(), m.taken+m.waits
		puts(t, "behind", q, &m, "more")
		takes(t, "behind", q, &m, 100)
		if string(kept) != want {
			t.Fatalf("an answer of %q is %q", want, kept)
		}
	}
}

// R7: an answer may be put again, into the queue that gave it.
func TestPutsItsAnswers(t *testing.T) {
	q, m := queue.New(200), modelOf(200)
	puts(t, "made", q, &m, "abc")
	for range 4 {
		if got, want := q.Put(q.All()), m.put(m.taken+m.waits); got != want {
			t.Fatalf("Put of All is %v", got)
		}
		stands(t, "of All", q, m)
		if got, want := q.Put(q.Take(2)), m.put(m.take(2)); got != want {
			t.Fatalf("Put of Take is %v", got)
		}
		stands(t, "of Take", q, m)
	}
}

// R6: to ask changes nothing, and two queues have nothing of each other.
func TestAskingChangesNothing(t *testing.T) {
	q, m := queue.New(9), modelOf(9)
	other, mo := queue.New(9), modelOf(9)
	puts(t, "q", q, &m, "abcdef")
	puts(t, "other", other, &mo, "xyz")
	takes(t, "q", q, &m, 2)
	takes(t, "other", other, &mo, 1)
	for range 3 {
		q.Clone().Take(9)
		q.Clone().Put([]byte("z"))
		stands(t, "q", q, m)
		stands(t, "other", other, mo)
	}
	takes(t, "q", q, &m, 9)
	stands(t, "other", other, mo)
}
