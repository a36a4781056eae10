package wire_test

import (
	"bytes"
	"math"
	"strings"
	"testing"

	"rejoinder/api"
	"rejoinder/wire"
)

// side is one connection as the chapter's words have it; since is what was written, and came how many bytes, since it was Asked last.
type side struct {
	state                       int
	finished                    bool
	waits, sent, written, since string
	came                        int
}

// model is the two of them, by P7.1 to P7.3 said word for word.
type model [2]side

func newModel() model { return model{{state: api.Open}, {state: api.Fresh}} }

func (m *model) has(conn int) bool { return conn == 0 || conn == 1 }

func (m *model) look(conn int) side {
	if !m.has(conn) {
		return side{}
	}
	return m[conn]
}

func (m *model) ask() bool {
	if m[1].state == api.Asked {
		return false
	}
	m[1].state = api.Asked
	m[1].finished = false
	m[1].waits, m[1].since, m[1].came = "", "", 0
	return true
}

func (m *model) write(conn int, s string) api.Errno {
	if !m.has(conn) {
		return api.ErrClosed
	}
	c := &m[conn]
	if c.state != api.Open && c.state != api.Ended || c.finished {
		return api.ErrClosed
	}
	if len(c.since)+len(s) > 4000 {
		return api.ErrFull
	}
	c.waits += s
	c.since += s
	c.written += s
	return api.OK
}

func (m *model) finish(conn int) {
	if m.has(conn) && (m[conn].state == api.Open || m[conn].state == api.Ended) {
		m[conn].finished = true
	}
}

func (m *model) happen(e api.Event) (string, api.Errno) {
	if e.Kind == api.EvTick {
		if e.N < 1 || e.N > 1<<30 {
			return "", api.ErrArg
		}
		return "", api.OK
	}
	if !m.has(e.Conn) {
		return "", api.ErrArg
	}
	c := &m[e.Conn]
	switch {
	case e.Kind == api.EvChunk && c.state == api.Open:
		if c.came+len(e.B) > 4000 {
			return "", api.ErrFull
		}
		c.came += len(e.B)
		return string(e.B), api.OK
	case e.Kind == api.EvTake && e.N >= 1 && c.waits != "":
		n := e.N
		if n > len(c.waits) {
			n = len(c.waits)
		}
		c.sent += c.waits[:n]
		c.waits = c.waits[n:]
		return "", api.OK
	case e.Kind == api.EvClose && c.state == api.Open:
		c.state = api.Ended
		return "", api.OK
	case e.Kind == api.EvReset && (c.state == api.Open || c.state == api.Ended):
		c.state = api.Gone
		c.waits = ""
		return "", api.OK
	case e.Kind == api.EvConnect && e.Conn == 1 && c.state == api.Asked && e.N == 1:
		c.state = api.Open
		return "", api.OK
	case e.Kind == api.EvConnect && e.Conn == 1 && c.state == api.Asked:
		c.state = api.Refused
		return "", api.OK
	}
	return "", api.ErrArg
}

// numbers of connections: the two, and some of neither.
var conns = []int{math.MinInt, -2, -1, 0, 1, 2, 3, 256, 1 << 32, math.MaxInt}

// stands asks a wire all that it can tell, against the model.
func stands(t *testing.T, what string, w *wire.Wire, m model) {
	t.Helper()
	for _, conn := range conns {
		c := m.look(conn)
		if w.State(conn) != c.state || w.Finished(conn) != c.finished || w.Waits(conn) != len(c.waits) {
			t.Fatalf("%s: of %d State %d, Finished %v, Waits %d, want %d, %v, %d", what, conn, w.State(conn), w.Finished(conn), w.Waits(conn), c.state, c.finished, len(c.waits))
		}
		if string(w.Sent(conn)) != c.sent || string(w.Written(conn)) != c.written {
			t.Fatalf("%s: of %d Sent %q, Written %q, want %q, %q", what, conn, w.Sent(conn), w.Written(conn), c.sent, c.written)
		}
	}
}

// call is one call that may change a wire.
type call struct {
	name string
	conn int
	text string
	e    api.Event
}

// does does a call to both, and holds their answers, and how they stand behind it, against each other.
func does(t *testing.T, what string, w *wire.Wire, m *model, c call) {
	t.Helper()
	switch c.name {
	case "ask":
		if got, want := w.Ask(), m.ask(); got != want {
			t.Fatalf("%s: Ask() = %v, want %v", what, got, want)
		}
	case "write":
		if got, want := w.Write(c.conn, []byte(c.text)), m.write(c.conn, c.text); got != want {
			t.Fatalf("%s: Write(%d, %d bytes) = %d, want %d", what, c.conn, len(c.text), got, want)
		}
	case "finish":
		w.Finish(c.conn)
		m.finish(c.conn)
	case "happen":
		b, f := w.Happen(c.e)
		if wantB, wantF := m.happen(c.e); string(b) != wantB || f != wantF {
			t.Fatalf("%s: Happen(%v) = %q, %d, want %q, %d", what, c.e, b, f, wantB, wantF)
		}
	default:
		t.Fatalf("no call: %q", c.name)
	}
	stands(t, what+" behind "+c.name, w, *m)
}

func ask() call                     { return call{name: "ask"} }
func write(conn int, s string) call { return call{name: "write", conn: conn, text: s} }
func finish(conn int) call          { return call{name: "finish", conn: conn} }
func chunk(conn int, s string) call { return happen(api.EvChunk, conn, 0, s) }
func take(conn, n int) call         { return happen(api.EvTake, conn, n, "") }
func closes(conn int) call          { return happen(api.EvClose, conn, 0, "") }
func resets(conn int) call          { return happen(api.EvReset, conn, 0, "") }
func connect(conn, n int) call      { return happen(api.EvConnect, conn, n, "") }
func happen(kind, conn, n int, b string) call {
	return call{name: "happen", e: api.Event{Kind: kind, Conn: conn, N: n, B: []byte(b)}}
}

// row does calls one behind the other to a new wire and a new model.
func row(t *testing.T, what string, calls ...call) (*wire.Wire, model) {
	t.Helper()
	w, m := wire.New(), newModel()
	for _, c := range calls {
		does(t, what, w, &m, c)
	}
	return w, m
}

// ways are rows of calls to each way that a connection can stand, with and without bytes that wait, Finished and not.
func ways() map[string][]call {
	made := []call{ask(), connect(1, 1)}
	wrote := append(made[:2:2], write(1, "abc"), take(1, 1))
	return map[string][]call{
		"fresh":           nil,
		"0 waits":         {write(0, "xyz"), take(0, 1)},
		"0 finished":      {write(0, "xyz"), finish(0)},
		"0 ended":         {write(0, "xyz"), closes(0)},
		"0 both":          {write(0, "xyz"), finish(0), closes(0)},
		"0 gone":          {write(0, "xyz"), take(0, 2), resets(0)},
		"0 finished gone": {write(0, "xyz"), finish(0), resets(0)},
		"0 ended gone":    {closes(0), resets(0)},
		"1 asked":         {ask()},
		"1 refused":       {ask(), connect(1, 0)},
		"1 open":          made,
		"1 waits":         wrote,
		"1 finished":      append(wrote[:4:4], finish(1)),
		"1 ended":         append(wrote[:4:4], closes(1)),
		"1 both":          append(wrote[:4:4], closes(1), finish(1)),
		"1 gone":          append(wrote[:4:4], resets(1)),
		"1 finished gone": append(wrote[:4:4], finish(1), resets(1)),
		"1 ended gone":    append(wrote[:4:4], closes(1), resets(1)),
		"1 asked again":   append(wrote[:4:4], finish(1), ask()),
		"1 refused again": append(wrote[:4:4], finish(1), ask(), connect(1, 2)),
		"1 open again":    append(wrote[:4:4], finish(1), ask(), connect(1, 1), write(1, "de"), take(1, 1)),
		"1 gone again":    append(wrote[:4:4], ask(), connect(1, 1), write(1, "de"), take(1, 1), resets(1)),
	}
}

// spoil changes bytes, and the room behind them, as who owns them may.
func spoil(b []byte) {
	b = b[:cap(b)]
	for i := range b {
		b[i] ^= 255
	}
}

// long is n bytes of all values.
func long(n int) string {
	b := make([]byte, n)
	for i := range b {
		b[i] = byte(i * 7)
	}
	return string(b)
}

// P7.2, P7.3: the chapter's example.
func TestExample(t *testing.T) {
	w := wire.New()
	if f := w.Write(0, []byte("ab")); f != api.OK {
		t.Errorf("Write is %d", f)
	}
	if b, f := w.Happen(api.Event{Kind: api.EvTake, N: 1}); len(b) != 0 || f != api.OK {
		t.Errorf("Happen is %q, %d", b, f)
	}
	if got := string(w.Sent(0)); got != "a" {
		t.Errorf("Sent(0) = %q, want a", got)
	}
}

// P7.1: 0 is Open at first, 1 is Fresh, by their numbers in the document; nothing is there.
func TestNew(t *testing.T) {
	w := wire.New()
	if w.State(0) != 2 || w.State(1) != 0 {
		t.Errorf("State of 0 is %d, of 1 %d", w.State(0), w.State(1))
	}
	stands(t, "new", w, newModel())
}

// P7.1: State tells the document's numbers.
func TestStateNumbers(t *testing.T) {
	for what, want := range map[string]int{"fresh": 0, "1 asked": 1, "1 open": 2, "1 ended": 3, "1 gone": 4, "1 refused": 5} {
		if w, _ := row(t, what, ways()[what]...); w.State(1) != want {
			t.Errorf("%s: State(1) = %d, want %d", what, w.State(1), want)
		}
	}
	for what, want := range map[string]int{"fresh": 2, "0 ended": 3, "0 gone": 4} {
		if w, _ := row(t, what, ways()[what]...); w.State(0) != want {
			t.Errorf("%s: State(0) = %d, want %d", what, w.State(0), want)
		}
	}
}

// P7.1, R1: of a number of neither nothing is there, nothing can be done, and nothing changes of the two, whatever they are.
func TestNeither(t *testing.T) {
	for what, calls := range ways() {
		for _, conn := range conns {
			if conn == 0 || conn == 1 {
				continue
			}
			w, m := row(t, what, calls...)
			for _, b := range [][]byte{nil, {}, []byte("a"), make([]byte, 4001)} {
				if f := w.Write(conn, b); f != api.ErrClosed {
					t.Errorf("%s: Write(%d, %d bytes) = %d", what, conn, len(b), f)
				}
			}
			w.Finish(conn)
			if w.State(conn) != 0 || w.Finished(conn) || w.Waits(conn) != 0 || len(w.Sent(conn)) != 0 || len(w.Written(conn)) != 0 {
				t.Errorf("%s: something is there of %d", what, conn)
			}
			for kind := api.EvChunk; kind <= api.EvConnect; kind++ {
				if b, f := w.Happen(api.Event{Kind: kind, Conn: conn, N: 1, B: []byte("a")}); len(b) != 0 || f != api.ErrArg {
					t.Errorf("%s: kind %d of %d is %q, %d", what, kind, conn, b, f)
				}
			}
			stands(t, what, w, m)
		}
	}
}

// P7.1: who is Asked can't be; else, however 1 stands, it is Asked, nothing waits, it isn't Finished; what was sent and written is told still, and 0 is as it was.
func TestAsk(t *testing.T) {
	for what, calls := range ways() {
		w, m := row(t, what, calls...)
		was := m
		if got := w.Ask(); got != (was[1].state != api.Asked) {
			t.Errorf("%s: Ask() = %v", what, got)
		}
		m.ask()
		stands(t, what, w, m)
		if w.State(1) != api.Asked || w.Waits(1) != 0 || w.Finished(1) || string(w.Sent(1)) != was[1].sent || string(w.Written(1)) != was[1].written || w.State(0) != was[0].state {
			t.Errorf("%s: asked: %d, %d wait, Finished %v, Sent %q, Written %q", what, w.State(1), w.Waits(1), w.Finished(1), w.Sent(1), w.Written(1))
		}
		for range 3 {
			if w.Ask() {
				t.Errorf("%s: asked twice", what)
			}
			stands(t, what, w, m)
		}
	}
}

// P7.2, P7.3: each call in each way that a connection can stand, also of many that are wrong, and each once more behind it.
func TestEachCallInEachWay(t *testing.T) {
	var calls []call
	calls = append(calls, ask())
	numbers := []int{math.MinInt, -1, 0, 1, 2, 3, 9, 1 << 30, 1<<30 + 1, 1 << 32, math.MaxInt}
	for _, conn := range []int{-1, 0, 1, 2} {
		calls = append(calls, write(conn, ""), write(conn, "q"), write(conn, "\x00\xff\r\n"), write(conn, long(4001)), finish(conn))
		for kind := -1; kind <= 8; kind++ {
			calls = append(calls, happen(kind, conn, 1, ""), happen(kind, conn, 0, long(4001)))
			for _, n := range numbers {
				calls = append(calls, happen(kind, conn, n, "b\x00\xff"))
			}
		}
		for _, kind := range []int{math.MinInt, 9, 256 + api.EvChunk, 1<<32 + api.EvTick, math.MaxInt} {
			calls = append(calls, happen(kind, conn, 1, "b"))
		}
	}
	for what, before := range ways() {
		w, m := row(t, what, before...)
		for _, c := range calls {
			again, after := w.Clone(), m
			does(t, what, again, &after, c)
			does(t, what+", twice", again, &after, c)
		}
		stands(t, what+", left behind", w, m)
	}
}

// P7.1 to P7.4: all short rows of calls, each against the chapter's words; a clone stands beside each step, and is left as it was.
func TestAllShortRows(t *testing.T) {
	calls := []call{
		ask(), connect(1, 1), connect(1, 0),
		write(0, "ab"), write(1, "cde"), finish(0), finish(1),
		chunk(0, "f"), chunk(1, "gh"), take(0, 1), take(1, 2), take(1, 9),
		closes(0), closes(1), resets(0), resets(1),
	}
	var walk func(w *wire.Wire, m model, left int)
	walk = func(w *wire.Wire, m model, left int) {
		if left == 0 {
			return
		}
		for _, c := range calls {
			next, after := w.Clone(), m
			does(t, "row", next, &after, c)
			walk(next, after, left-1)
		}
		stands(t, "left behind", w, m)
	}
	walk(wire.New(), newModel(), 3)
	w, m := row(t, "made", ask(), connect(1, 1))
	walk(w, m, 4)
}

// P7.1 to P7.4: long rows without clones, with so many bytes that both bounds are reached, and 1 is Asked again and again.
func TestLongRowsWithoutClones(t *testing.T) {
	for seed := range uint32(60) {
		w, m := wire.New(), newModel()
		x := seed*2654435761 + 1
		most := 40 << (seed % 6)
		for range 150 {
			x = x*1664525 + 1013904223
			conn, n := int(x>>16)%2, int(x>>18)%most
			switch int(x>>27) % 16 {
			case 0:
				does(t, "row", w, &m, ask())
			case 1, 2, 3:
				does(t, "row", w, &m, connect(conn, n%3))
			case 4, 5, 6, 7:
				does(t, "row", w, &m, write(conn, long(n)))
			case 8, 9, 10:
				does(t, "row", w, &m, take(conn, n-1))
			case 11, 12, 13:
				does(t, "row", w, &m, chunk(conn, long(n)))
			case 14:
				if n%8 == 0 {
					does(t, "row", w, &m, finish(conn))
				}
				if n%8 == 1 {
					does(t, "row", w, &m, closes(conn))
				}
			default:
				if n%16 == 0 {
					does(t, "row", w, &m, resets(conn))
				}
			}
		}
	}
}

// P7.2: 4000 bytes may be written, at once or one by one, and no more; what has gone out counts; no bytes may be written always, but where it is closed.
func TestMostThatIsWritten(t *testing.T) {
	for conn := range 2 {
		for _, part := range []int{1, 7, 1999, 2000, 2001, 3999, 4000} {
			for _, go1 := range []int{0, 1, 5000} {
				w := wire.New()
				w.Ask()
				w.Happen(api.Event{Kind: api.EvConnect, Conn: 1, N: 1})
				total := 0
				for total+part <= 4000 {
					if f := w.Write(conn, make([]byte, part)); f != api.OK {
						t.Fatalf("%d of %d: %d", total, part, f)
					}
					total += part
					if go1 > 0 {
						w.Happen(api.Event{Kind: api.EvTake, Conn: conn, N: go1})
					}
				}
				waits := w.Waits(conn)
				if f := w.Write(conn, make([]byte, 4001-total)); f != api.ErrFull || w.Waits(conn) != waits || len(w.Written(conn)) != total {
					t.Errorf("of %d: one too many at %d is %d, %d wait", part, total, f, w.Waits(conn))
				}
				if f := w.Write(conn, make([]byte, 4000-total)); f != api.OK || len(w.Written(conn)) != 4000 {
					t.Errorf("of %d: the last ones at %d are %d", part, total, f)
				}
				if w.Write(conn, []byte("a")) != api.ErrFull || w.Write(conn, nil) != api.OK || w.Write(conn, []byte{}) != api.OK || len(w.Written(conn)) != 4000 {
					t.Errorf("of %d: behind the last ones", part)
				}
				w.Finish(conn)
				if w.Write(conn, []byte("a")) != api.ErrClosed || w.Write(conn, nil) != api.ErrClosed {
					t.Errorf("of %d: ErrClosed is told first", part)
				}
			}
		}
	}
}

// P7.2, P7.3: 1 has all its room again when it is Asked again, however it stood; 0 has its own.
func TestRoomOfEachAsking(t *testing.T) {
	w, m := row(t, "0", write(0, long(4000)), chunk(0, long(4000)), chunk(0, "a"), write(0, "a"))
	for i, end := range [][]call{nil, {closes(1)}, {resets(1)}, {finish(1)}, {finish(1), closes(1), resets(1)}, {take(1, 4000)}, {take(1, 17)}} {
		for _, c := range []call{ask(), connect(1, 0), ask(), connect(1, 1), write(1, long(3999-i)), write(1, long(2+i)), write(1, long(1+i)), write(1, "b"), chunk(1, long(3999-i)), chunk(1, long(2+i)), chunk(1, long(1+i)), chunk(1, "b"), chunk(1, ""), write(0, "b"), chunk(0, "b"), take(1, 100)} {
			does(t, "again", w, &m, c)
		}
		if len(m[1].since) != 4000 || m[1].came != 4000 {
			t.Fatalf("%d written, %d came", len(m[1].since), m[1].came)
		}
		for _, c := range end {
			does(t, "ends", w, &m, c)
		}
	}
}

// P7.3: 4000 bytes may come, however cut, and no more; a chunk that is too much changes nothing, and less may come behind it.
func TestMostThatComes(t *testing.T) {
	for conn := range 2 {
		for _, part := range []int{1, 7, 1999, 2000, 2001, 3999, 4000} {
			w := wire.New()
			w.Ask()
			w.Happen(api.Event{Kind: api.EvConnect, Conn: 1, N: 1})
			comes := func(n int) api.Errno {
				b, f := w.Happen(api.Event{Kind: api.EvChunk, Conn: conn, B: []byte(long(n))})
				if f == api.OK && string(b) != long(n) || f != api.OK && len(b) != 0 {
					t.Fatalf("a chunk of %d is %q, %d", n, b, f)
				}
				return f
			}
			total := 0
			for ; total+part <= 4000; total += part {
				if f := comes(part); f != api.OK {
					t.Fatalf("%d of %d: %d", total, part, f)
				}
			}
			if comes(4001-total) != api.ErrFull || comes(100000) != api.ErrFull || comes(4000-total) != api.OK {
				t.Errorf("of %d: about the last ones", part)
			}
			if comes(1) != api.ErrFull || comes(0) != api.OK || w.State(conn) != api.Open {
				t.Errorf("of %d: behind the last ones", part)
			}
			if w.Write(conn, []byte(long(4000))) != api.OK {
				t.Errorf("of %d: what came counts as written", part)
			}
			w.Happen(api.Event{Kind: api.EvClose, Conn: conn})
			if comes(1) != api.ErrArg || comes(0) != api.ErrArg {
				t.Errorf("of %d: ErrArg is told first", part)
			}
		}
	}
}

// P7.3: a tick is of N from 1 to 2^30, whatever its Conn, and changes nothing.
func TestTicks(t *testing.T) {
	for what, calls := range ways() {
		w, m := row(t, what, calls...)
		for n, want := range map[int]api.Errno{math.MinInt: api.ErrArg, -1: api.ErrArg, 0: api.ErrArg, 1: api.OK, 2: api.OK, 1<<30 - 1: api.OK, 1 << 30: api.OK, 1<<30 + 1: api.ErrArg, 1<<32 + 1: api.ErrArg, math.MaxInt: api.ErrArg} {
			for _, conn := range conns {
				if b, f := w.Happen(api.Event{Kind: api.EvTick, Conn: conn, N: n, B: []byte("a")}); len(b) != 0 || f != want {
					t.Errorf("%s: a tick of %d at %d is %q, %d, want %d", what, n, conn, b, f, want)
				}
			}
		}
		stands(t, what, w, m)
	}
}

// P7.3: a connection is made of N 1 alone, and refused of each other.
func TestConnects(t *testing.T) {
	for _, n := range []int{math.MinInt, -1, 0, 1, 2, 3, 257, 1<<32 + 1, math.MaxInt} {
		w, _ := row(t, "asked", ask(), connect(0, 1), connect(1, n), connect(1, 1), connect(1, 0))
		if (w.State(1) == api.Open) != (n == 1) || (w.State(1) == api.Refused) != (n != 1) {
			t.Errorf("N %d: State(1) = %d", n, w.State(1))
		}
	}
}

// P7.4: however it is cut, and however much goes out at once, what went out is what was written, in order; on both at once, and of 1 of all times.
func TestHoweverCut(t *testing.T) {
	first, second := long(3000), strings.Repeat("second", 600)
	for _, in := range []int{1, 2, 7, 64, 999, 3000} {
		for _, out := range []int{1, 3, 8, 65, 1000, 4000} {
			w := wire.New()
			w.Ask()
			w.Happen(api.Event{Kind: api.EvConnect, Conn: 1, N: 1})
			goes := func(conn int, all string) bool {
				_, f := w.Happen(api.Event{Kind: api.EvTake, Conn: conn, N: out})
				if !strings.HasPrefix(all, string(w.Sent(conn))) || len(w.Sent(conn))+w.Waits(conn) != len(w.Written(conn)) {
					t.Fatalf("cut by %d and %d: %d went out of %d", in, out, len(w.Sent(conn)), conn)
				}
				return f == api.OK
			}
			for at := 0; at < 3000; at += in {
				w.Write(0, []byte(first[at:min(at+in, 3000)]))
				w.Write(1, []byte(second[at:min(at+in, 3000)]))
				goes(0, first)
				goes(1, second)
			}
			for goes(0, first) || goes(1, second) {
			}
			if string(w.Sent(0)) != first || string(w.Written(0)) != first || string(w.Sent(1)) != second[:3000] || string(w.Written(1)) != second[:3000] {
				t.Errorf("cut by %d and %d: others went out", in, out)
			}
		}
	}
}

// P7.4: nothing goes out of what is Gone, nor of what was given up, and that is written still.
func TestNothingGoesOutOfWhatIsGone(t *testing.T) {
	w, _ := row(t, "gone", write(0, "abc"), take(0, 1), ask(), connect(1, 1), write(1, "def"), take(1, 2), resets(0), resets(1), take(0, 1), take(1, 1))
	if string(w.Sent(0)) != "a" || string(w.Written(0)) != "abc" || string(w.Sent(1)) != "de" || string(w.Written(1)) != "def" {
		t.Errorf("gone: %q of %q, %q of %q", w.Sent(0), w.Written(0), w.Sent(1), w.Written(1))
	}
	w, _ = row(t, "given up", ask(), connect(1, 1), write(1, "abc"), take(1, 1), ask(), take(1, 9), connect(1, 1), take(1, 9), write(1, "xyz"), take(1, 2))
	if string(w.Sent(1)) != "axy" || string(w.Written(1)) != "abcxyz" || w.Waits(1) != 1 {
		t.Errorf("given up: %q of %q, %d wait", w.Sent(1), w.Written(1), w.Waits(1))
	}
}

// P7.1, R7: a clone and what it was made of go their own ways, in each way that they can stand, whichever goes first.
func TestCloneGoesItsOwnWay(t *testing.T) {
	rows := [][]call{
		{write(0, "QQ"), write(1, "RR"), take(0, 1), take(1, 1)},
		{closes(0), resets(1), finish(0)},
		{ask(), connect(1, 1), write(1, "S"), take(1, 1), chunk(1, "T")},
		{finish(1), ask(), connect(1, 0)},
		{resets(0), closes(1), write(1, "U"), ask(), connect(1, 1), write(1, "VVV"), take(1, 2), resets(1)},
	}
	for what, calls := range ways() {
		for _, one := range rows {
			for _, other := range rows {
				w, m := row(t, what, calls...)
				c, mc := w.Clone(), m
				stands(t, what+", clone", c, mc)
				for _, x := range one {
					does(t, what, w, &m, x)
					stands(t, what+", clone", c, mc)
				}
				for _, x := range other {
					does(t, what+", clone", c, &mc, x)
					stands(t, what, w, m)
				}
				d, md := c.Clone(), mc
				for _, x := range one {
					does(t, what+", clone's clone", d, &md, x)
					does(t, what, w, &m, x)
				}
				stands(t, what+", clone", c, mc)
			}
		}
	}
}

// P7.1: a clone has what room is left, of what is written and of what comes.
func TestCloneHasItsRoom(t *testing.T) {
	w, m := row(t, "made", ask(), connect(1, 1), write(0, long(3998)), write(1, long(3999)), chunk(0, long(3997)), chunk(1, long(3996)), take(0, 5000))
	c, mc := w.Clone(), m
	for conn := range 2 {
		for _, x := range []call{write(conn, "abcde"), chunk(conn, "abcde"), write(conn, "a"), chunk(conn, "abc"), write(conn, "ab"), chunk(conn, "a"), write(conn, "a"), chunk(conn, "a")} {
			does(t, "clone", c, &mc, x)
			stands(t, "made", w, m)
		}
		does(t, "made", w, &m, write(conn, "z"))
		does(t, "made", w, &m, chunk(conn, "zz"))
		stands(t, "clone", c, mc)
	}
}

// R7: what is handed in is neither changed nor kept, nor the room behind it.
func TestLeavesItsArguments(t *testing.T) {
	for n := range 40 {
		room := []byte(long(100))
		w, m := row(t, "made", ask(), connect(1, 1))
		for conn := range 2 {
			if w.Write(conn, room[:n]) != api.OK {
				t.Fatal("not written")
			}
			m.write(conn, long(n))
			got, f := w.Happen(api.Event{Kind: api.EvChunk, Conn: conn, B: room[:n]})
			if f != api.OK || string(got) != long(n) {
				t.Fatalf("a chunk is %q, %d", got, f)
			}
			m.happen(chunk(conn, long(n)).e)
			_ = append(got, "behind"...)
			spoil(got)
			does(t, "behind", w, &m, write(conn, "more"))
			does(t, "behind", w, &m, take(conn, n/2))
			if string(room) != long(100) {
				t.Fatalf("%d bytes: the argument, or the room behind it, is changed", n)
			}
			spoil(room)
			stands(t, "spoilt", w, m)
			does(t, "spoilt", w, &m, take(conn, 50))
			spoil(room)
		}
		got, _ := w.Happen(api.Event{Kind: api.EvChunk, B: room[:n]})
		spoil(room)
		if string(got) != long(n) {
			t.Fatalf("%d bytes: what a chunk answers is the caller's argument", n)
		}
	}
}

// R7: what is answered is the caller's own: changing it, and putting others behind it, changes no wire, no clone, and no other answer.
func TestAnswersAreTheCallers(t *testing.T) {
	for what, calls := range ways() {
		w, m := row(t, what, calls...)
		c := w.Clone()
		for conn := range 2 {
			keptSent, keptWritten := w.Sent(conn), w.Written(conn)
			for range 2 {
				for _, b := range [][]byte{w.Sent(conn), w.Written(conn)} {
					_ = append(b, "spoilt"...)
					spoil(b)
				}
				stands(t, what+", spoilt", w, m)
				stands(t, what+", clone", c, m)
			}
			wantSent, wantWritten := m[conn].sent, m[conn].written
			for _, x := range []call{write(conn, "more"), take(conn, 3), ask(), connect(1, 1), write(conn, "more"), take(conn, 3)} {
				does(t, what, w, &m, x)
			}
			if string(keptSent) != wantSent || string(keptWritten) != wantWritten {
				t.Fatalf("%s: an answer is changed: %q, %q", what, keptSent, keptWritten)
			}
			w, m = row(t, what, calls...)
			c = w.Clone()
		}
	}
}

// R6: to ask changes nothing, and two wires have nothing of each other.
func TestAskingChangesNothing(t *testing.T) {
	w, m := row(t, "one", ask(), connect(1, 1), write(0, "ab"), write(1, "cd"), take(0, 1))
	other, mo := row(t, "other", write(0, "xyz"), take(0, 2))
	for range 3 {
		c := w.Clone()
		c.Ask()
		c.Finish(0)
		c.Happen(api.Event{Kind: api.EvReset})
		stands(t, "one", w, m)
		stands(t, "other", other, mo)
	}
	does(t, "one", w, &m, resets(0))
	does(t, "one", w, &m, ask())
	stands(t, "other", other, mo)
}

// R2: beside an error, and of an event that brings no bytes, none are told, though the event has some.
func TestBytesOfChunksAlone(t *testing.T) {
	w, _ := row(t, "made", write(0, "ab"), ask())
	for _, e := range []api.Event{{Kind: api.EvTake, N: 1}, {Kind: api.EvTick, N: 1}, {Kind: api.EvConnect, Conn: 1, N: 1}, {Kind: api.EvClose}, {Kind: api.EvReset}} {
		e.B = []byte("bytes")
		if b, f := w.Happen(e); len(b) != 0 || f != api.OK {
			t.Errorf("%v is %q, %d", e, b, f)
		}
		if b, f := w.Happen(e); len(b) != 0 || f != api.ErrArg && e.Kind != api.EvTick && e.Kind != api.EvTake {
			t.Errorf("%v again is %q, %d", e, b, f)
		}
	}
	if !bytes.Equal(w.Sent(0), []byte("ab")) {
		t.Errorf("Sent(0) = %q", w.Sent(0))
	}
}

// R1: a Wire that nobody made has two connections that are Fresh, of which the second may be Asked.
func TestWireThatNobodyMade(t *testing.T) {
	var w wire.Wire
	m := model{}
	for _, c := range []call{write(0, "a"), finish(0), chunk(0, "a"), take(0, 1), closes(0), resets(0), connect(0, 1), ask(), connect(1, 1), write(1, "ab"), take(1, 1), chunk(1, "c")} {
		does(t, "nobody's", &w, &m, c)
	}
	stands(t, "nobody's clone", w.Clone(), m)
}
