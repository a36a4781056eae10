package stuff_test

import (
	"bytes"
	"math"
	"slices"
	"strings"
	"testing"

	"rejoinder/api"
	"rejoinder/frame"
	"rejoinder/stuff"
)

// wholeOf is P9.1 of Whole, said word for word.
func wholeOf(payload string) string {
	n := len(payload)
	if n == 0 {
		return ""
	}
	if n >= 2 && payload[n-2] == 13 && payload[n-1] == 10 {
		return payload
	}
	return payload + "\r\n"
}

// putOf is P9.1 of Put, said word for word, byte by byte.
func putOf(payload string) string {
	whole := wholeOf(payload)
	var row []byte
	for i := range len(whole) {
		behindEnd := i >= 2 && whole[i-2] == 13 && whole[i-1] == 10
		if whole[i] == '.' && (i == 0 || behindEnd) {
			row = append(row, '.')
		}
		row = append(row, whole[i])
	}
	return string(row) + ".\r\n"
}

// model is P9.2 said word for word.
type model struct {
	most  int
	kept  string
	lines int
}

func modelOf(most int) model { return model{most: max(most, 0)} }

func (m *model) line(s string) (bool, api.Errno) {
	if s == "." {
		return true, 0
	}
	if s != "" && s[0] == '.' {
		s = s[1:]
	}
	if more := m.kept + s + "\r\n"; len(more) <= m.most {
		m.kept, m.lines = more, m.lines+1
		return false, 0
	}
	return false, 72
}

// stands asks a body all that it can tell, against the model.
func stands(t *testing.T, what string, b *stuff.Body, m model) {
	t.Helper()
	if got := string(b.Bytes()); got != m.kept || b.Lines() != m.lines {
		t.Fatalf("%s: most %d: Bytes %q, Lines %d, want %q, %d", what, m.most, got, b.Lines(), m.kept, m.lines)
	}
}

// gives gives a line to both.
func gives(t *testing.T, what string, b *stuff.Body, m *model, s string) {
	t.Helper()
	was := *m
	end, fault := b.Line(s)
	wantEnd, wantFault := m.line(s)
	if end != wantEnd || fault != wantFault {
		t.Fatalf("%s: behind %+v: Line(%q) = %v, %d, want %v, %d", what, was, s, end, fault, wantEnd, wantFault)
	}
	stands(t, what, b, *m)
}

// pair is a new body and its model, behind these lines.
func pair(t *testing.T, most int, lines ...string) (*stuff.Body, model) {
	t.Helper()
	b, m := stuff.New(most), modelOf(most)
	for _, s := range lines {
		gives(t, "made", b, &m, s)
	}
	return b, m
}

// spoil changes bytes, and the room behind them, as who owns them may.
func spoil(b []byte) {
	b = b[:cap(b)]
	for i := range b {
		b[i] ^= 255
	}
}

// each calls f with all texts of n of the letters.
func each(alphabet string, n int, f func(s string)) {
	if n == 0 {
		f("")
		return
	}
	each(alphabet, n-1, func(s string) {
		for i := range len(alphabet) {
			f(s + alphabet[i:i+1])
		}
	})
}

// lots is many bytes, of all kinds, CRs, LFs and dots often among them.
func lots(n int) string {
	b := make([]byte, n)
	x := uint32(1)
	for i := range b {
		x = x*1664525 + 1013904223
		b[i] = byte(x >> 16)
		if often := x >> 24; often < 160 {
			b[i] = "\r\n..\r\nab"[often%8]
		}
	}
	return string(b)
}

// holdsPayload holds Whole and Put of one payload against the chapter's words.
func holdsPayload(t *testing.T, s string) {
	t.Helper()
	if got, want := string(stuff.Whole([]byte(s))), wholeOf(s); got != want {
		t.Fatalf("Whole(%q) = %q, want %q", s, got, want)
	}
	if got, want := string(stuff.Put([]byte(s))), putOf(s); got != want {
		t.Fatalf("Put(%q) = %q, want %q", s, got, want)
	}
}

// payloads are some that stand where the chapter's words part.
var payloads = []string{
	"", ".", "..", "...", ".a", "a.", "a", "a.b", "\r", "\n", "\r\n", "\n\r", "\r\r\n", "\r\n\r\n", "\r\n\r", "\r\n\n",
	"a\r\n", "a\r", "a\n", ".\r\n", "..\r\n", ".\r", ".\n", "\r\n.", "\r\n.\r\n", "\n.", "\r.", "\n\r.", "\r\r\n.", "\r\n\n.", "\r\n.\n.", "\r\n..", "\r\n.\r\n.",
	"a\r\n.b", "a\r\n..b\r\n", "a\r\n.\r\n.\r\nb", "a\r\nb.\r\n.c.", "a\n.b\r", " .", "\x00.", "\xff\r\n.\xff", "\xc2\x85.", "\xe2\x80\xa8.",
}

// P9.1: the chapter's example.
func TestExample(t *testing.T) {
	if got := string(stuff.Put([]byte(".a"))); got != "..a\r\n.\r\n" {
		t.Errorf("Put(%q) = %q", ".a", got)
	}
}

// P9.1: by hand: a CR and an LF behind what is not empty, and does not end so.
func TestWhole(t *testing.T) {
	for _, x := range []struct{ payload, want string }{
		{"", ""},
		{"a", "a\r\n"},
		{"a\r\n", "a\r\n"},
		{"a\r\n\r\n", "a\r\n\r\n"},
		{"\r\n", "\r\n"},
		{"\r", "\r\r\n"},
		{"\n", "\n\r\n"},
		{"\n\r", "\n\r\r\n"},
		{"a\r", "a\r\r\n"},
		{"a\n", "a\n\r\n"},
		{"a\r\nb", "a\r\nb\r\n"},
		{"a\r\n\n", "a\r\n\n\r\n"},
		{"a\r\n\r", "a\r\n\r\r\n"},
		{".", ".\r\n"},
		{"a\r\n.", "a\r\n.\r\n"},
		{".\r\n", ".\r\n"},
	} {
		if got := string(stuff.Whole([]byte(x.payload))); got != x.want {
			t.Errorf("Whole(%q) = %q, want %q", x.payload, got, x.want)
		}
	}
}

// P9.1: by hand: one more dot ahead of each that begins a line; a CR, or an LF, alone begins none.
func TestPut(t *testing.T) {
	for _, x := range []struct{ payload, want string }{
		{"", ".\r\n"},
		{"\r\n", "\r\n.\r\n"},
		{"a", "a\r\n.\r\n"},
		{"a\r\n", "a\r\n.\r\n"},
		{".", "..\r\n.\r\n"},
		{"..", "...\r\n.\r\n"},
		{".\r\n", "..\r\n.\r\n"},
		{"a.", "a.\r\n.\r\n"},
		{"a.\r\n", "a.\r\n.\r\n"},
		{"a\r\n.", "a\r\n..\r\n.\r\n"},
		{"a\r\n.\r\nb", "a\r\n..\r\nb\r\n.\r\n"},
		{".\r\n.\r\n.\r\n", "..\r\n..\r\n..\r\n.\r\n"},
		{".a.\r\n.b.", "..a.\r\n..b.\r\n.\r\n"},
		{"\r\n..a", "\r\n...a\r\n.\r\n"},
		{"a\n.b", "a\n.b\r\n.\r\n"},
		{"a\r.b", "a\r.b\r\n.\r\n"},
		{"a\n\r.b", "a\n\r.b\r\n.\r\n"},
		{"a\r\r\n.b", "a\r\r\n..b\r\n.\r\n"},
		{"a\r\n\n.b", "a\r\n\n.b\r\n.\r\n"},
		{"a\r\n\r.b", "a\r\n\r.b\r\n.\r\n"},
		{"a\r", "a\r\r\n.\r\n"},
		{"a\n", "a\n\r\n.\r\n"},
		{"\n.", "\n.\r\n.\r\n"},
	} {
		if got := string(stuff.Put([]byte(x.payload))); got != x.want {
			t.Errorf("Put(%q) = %q, want %q", x.payload, got, x.want)
		}
	}
}

// P9.1, R1: nil is a payload of no bytes.
func TestNil(t *testing.T) {
	if got := stuff.Whole(nil); len(got) != 0 {
		t.Errorf("Whole of nil is %q", got)
	}
	if got := stuff.Put(nil); string(got) != ".\r\n" {
		t.Errorf("Put of nil is %q", got)
	}
}

// P9.1: all short payloads of the bytes that matter, and one that does not.
func TestAllShortPayloads(t *testing.T) {
	for n := range 9 {
		each(".\r\na", n, func(s string) { holdsPayload(t, s) })
	}
}

// P9.1: each byte ahead of a dot, behind one, and where an end would be: no other byte is a dot, a CR or an LF.
func TestEachByteOfPayload(t *testing.T) {
	for c := range 256 {
		x := string([]byte{byte(c)})
		for _, s := range []string{x, x + x, x + ".", "." + x, "\r" + x + ".", x + "\n.", "\r\n" + x, "\r\n" + x + ".", "a\r" + x, "a" + x + "\n", "a\r\n" + x + "\r\n" + x} {
			holdsPayload(t, s)
		}
	}
}

// P9.1, R1: long payloads: of all kinds of bytes, of one alone, of ends alone, of dots behind ends.
func TestLongPayloads(t *testing.T) {
	for n := range 300 {
		holdsPayload(t, lots(n))
	}
	for _, n := range []int{4000, 1 << 20} {
		for _, s := range []string{lots(n), strings.Repeat(".", n), strings.Repeat("a", n), strings.Repeat("\r", n), strings.Repeat("\n", n), strings.Repeat("\r\n", n), strings.Repeat("\r\n.", n), strings.Repeat(".\r\n", n), strings.Repeat("\n\r.", n)} {
			holdsPayload(t, s)
		}
	}
}

// P9.2, R1: a new one has nothing, whatever its most is, and the end alone gives it nothing.
func TestNew(t *testing.T) {
	for _, most := range []int{math.MinInt, -1000, -1, 0, 1, 2, 1000, 1 << 40, math.MaxInt} {
		b, m := pair(t, most)
		stands(t, "new", b, m)
		for range 3 {
			gives(t, "new", b, &m, ".")
		}
	}
}

// P9.2: by hand: one line to a body of 5 bytes that has none.
func TestLine(t *testing.T) {
	for _, x := range []struct {
		line  string
		end   bool
		fault api.Errno
		want  string
		lines int
	}{
		{".", true, 0, "", 0},
		{"", false, 0, "\r\n", 1},
		{"a", false, 0, "a\r\n", 1},
		{"abc", false, 0, "abc\r\n", 1},
		{"abcd", false, 72, "", 0},
		{"..", false, 0, ".\r\n", 1},
		{"...", false, 0, "..\r\n", 1},
		{"....", false, 0, "...\r\n", 1},
		{".....", false, 72, "", 0},
		{".a", false, 0, "a\r\n", 1},
		{".abc", false, 0, "abc\r\n", 1},
		{".abcd", false, 72, "", 0},
		{"a.", false, 0, "a.\r\n", 1},
		{"a.b", false, 0, "a.b\r\n", 1},
		{" .", false, 0, " .\r\n", 1},
		{". ", false, 0, " \r\n", 1},
		{".\x00", false, 0, "\x00\r\n", 1},
		{"\x00\xff\t", false, 0, "\x00\xff\t\r\n", 1},
		{".\r\n", false, 0, "\r\n\r\n", 1},
		{".\r", false, 0, "\r\r\n", 1},
		{"\r\n.", false, 0, "\r\n.\r\n", 1},
		{"\r", false, 0, "\r\r\n", 1},
		{"\n", false, 0, "\n\r\n", 1},
	} {
		b := stuff.New(5)
		end, fault := b.Line(x.line)
		if got := string(b.Bytes()); end != x.end || fault != x.fault || got != x.want || b.Lines() != x.lines {
			t.Errorf("Line(%q) = %v, %d, Bytes %q, Lines %d, want %v, %d, %q, %d", x.line, end, fault, got, b.Lines(), x.end, x.fault, x.want, x.lines)
		}
	}
}

// P9.2: a line that fills a body to just most bytes is taken, and with a byte more it is refused, whatever it has already; a first dot that is left out fills nothing, and what is refused leaves the room for others.
func TestMost(t *testing.T) {
	for _, most := range []int{math.MinInt, -1, 0, 1, 2, 3, 4, 5, 8, 63, 64, 65, 999, 1000, 1001} {
		for _, ahead := range [][]string{nil, {""}, {"."}, {".."}, {"", ""}, {"abc", "."}} {
			for _, first := range []string{"", ".", "a", ".a", ".."} {
				b, m := pair(t, most, ahead...)
				text := strings.TrimPrefix(first, ".")
				rest := strings.Repeat("x", max(m.most-len(m.kept)-len(text)-2, 0))
				gives(t, "too long", b, &m, first+rest+"y")
				gives(t, "to the full", b, &m, first+rest)
				for _, s := range []string{"w", ".w", "", ".", "..", ""} {
					gives(t, "full", b, &m, s)
				}
			}
		}
	}
	b := stuff.New(api.MaxBody)
	for i := range api.MaxBody / 10 {
		if end, fault := b.Line(".12345678"); end || fault != api.OK {
			t.Fatal(i, end, fault)
		}
	}
	if end, fault := b.Line(""); end || fault != api.ErrFull || len(b.Bytes()) != api.MaxBody || b.Lines() != api.MaxBody/10 {
		t.Error(end, fault, len(b.Bytes()), b.Lines())
	}
}

// P9.2, R1: a most as great as can be bounds nothing.
func TestGreatestMost(t *testing.T) {
	long := strings.Repeat("long \x00\xff.", 1000)
	for _, most := range []int{1 << 32, math.MaxInt - 1, math.MaxInt} {
		b := stuff.New(most)
		for range 20 {
			if end, fault := b.Line("." + long); end || fault != api.OK {
				t.Fatalf("New(%d): %v, %d", most, end, fault)
			}
		}
		if string(b.Bytes()) != strings.Repeat(long+"\r\n", 20) || b.Lines() != 20 {
			t.Errorf("New(%d): %d bytes, %d lines", most, len(b.Bytes()), b.Lines())
		}
	}
}

// P9.2: each byte at the beginning, alone, and behind others: no other byte is left out or ends a body.
func TestEachByteOfLine(t *testing.T) {
	for c := range 256 {
		x := string([]byte{byte(c)})
		for _, most := range []int{2, 3, 4, 1000} {
			pair(t, most, x, "."+x, x+".", x+x, "a"+x, ".."+x, x+"\r\n", "."+x+"\r\n")
			pair(t, most, x)
			pair(t, most, "."+x)
			pair(t, most, x+".")
		}
	}
}

// P9.2: all short rows of lines on all small mosts, each against the chapter's words: ends and refused lines stand anywhere, and lines behind them are taken as ahead of them.
func TestAllShortRows(t *testing.T) {
	lines := []string{"", ".", "..", "a", ".ab"}
	for most := -1; most < 14; most++ {
		for n := range 5 {
			each("01234", n, func(row string) {
				b, m := stuff.New(most), modelOf(most)
				for _, c := range row {
					gives(t, row, b, &m, lines[c-'0'])
				}
			})
		}
	}
}

// P9.2: behind the end, and behind a refused line, lines are taken as ahead of them.
func TestBehindTheEnd(t *testing.T) {
	b, m := pair(t, 12, "a", ".", "..b", ".", ".", "too long a line", "", "xyz", "c", ".")
	if m.kept != "a\r\n.b\r\n\r\nc\r\n" || m.lines != 4 {
		t.Fatalf("%q, %d", m.kept, m.lines)
	}
	stands(t, "behind the end", b, m)
}

// R1: very many lines, and a very long one, end.
func TestVeryManyLines(t *testing.T) {
	const n = 1 << 20
	b := stuff.New(4 * n)
	for range n {
		if end, fault := b.Line(".x"); end || fault != api.OK {
			t.Fatal(end, fault)
		}
	}
	if len(b.Bytes()) != 3*n || b.Lines() != n {
		t.Fatal(len(b.Bytes()), b.Lines())
	}
	if end, fault := b.Line(strings.Repeat(".", n)); end || fault != api.ErrFull {
		t.Error(end, fault)
	}
	if end, fault := b.Line(strings.Repeat(".", n-1)); end || fault != api.OK || len(b.Bytes()) != 4*n {
		t.Error(end, fault)
	}
}

// goesBack puts a payload, and gives its lines to a body: only the last is its end.
func goesBack(t *testing.T, s string) {
	t.Helper()
	put := string(stuff.Put([]byte(s)))
	lines := strings.Split(put, "\r\n")
	if last := len(lines) - 1; lines[last] != "" {
		t.Fatalf("Put(%q) = %q does not end by a CR and an LF", s, put)
	}
	lines = lines[:len(lines)-1]
	whole := string(stuff.Whole([]byte(s)))
	b := stuff.New(len(whole))
	for i, line := range lines {
		if end, fault := b.Line(line); end != (i == len(lines)-1) || fault != api.OK {
			t.Fatalf("Put(%q) = %q: line %d is %v, %d", s, put, i, end, fault)
		}
	}
	if got := string(b.Bytes()); got != whole || b.Lines() != len(lines)-1 {
		t.Fatalf("Put(%q) = %q is taken back as %q, %d lines, want %q", s, put, got, b.Lines(), whole)
	}
}

// P9.3: what was put is taken back: some payloads, all short ones, long ones, into a body of just as many bytes.
func TestPutIsTakenBack(t *testing.T) {
	for _, s := range payloads {
		goesBack(t, s)
		for _, more := range payloads {
			goesBack(t, s+more)
		}
	}
	for n := range 8 {
		each(".\r\na", n, func(s string) { goesBack(t, s) })
	}
	for n := range 300 {
		goesBack(t, lots(n))
	}
	goesBack(t, lots(1<<18))
}

// P9.3: a payload whose CRs and LFs stand together is framed into just the lines that bring it back.
func TestPutIsFramed(t *testing.T) {
	for n := range 6 {
		each(".|a", n, func(row string) {
			s := strings.ReplaceAll(row, "|", "\r\n")
			lines, fault := frame.New(api.MaxLine).Put(stuff.Put([]byte(s)))
			b := stuff.New(api.MaxBody)
			end := false
			for _, line := range lines {
				if end {
					t.Fatalf("%q: the end is not the last", s)
				}
				end, _ = b.Line(line)
			}
			if fault != api.OK || !end || string(b.Bytes()) != wholeOf(s) {
				t.Fatalf("%q: %d, end %v, %q", s, fault, end, b.Bytes())
			}
		})
	}
}

// R7: a payload is neither changed nor kept, nor the room behind it.
func TestLeavesItsArguments(t *testing.T) {
	for _, s := range payloads {
		for _, behind := range []string{"", "\r\n", ".\r\n", strings.Repeat("r", 50)} {
			room := slices.Concat([]byte(s), []byte(behind))
			was := bytes.Clone(room)
			whole, put := stuff.Whole(room[:len(s)]), stuff.Put(room[:len(s)])
			if !bytes.Equal(room, was) {
				t.Fatalf("%q, or the room behind it, is changed", s)
			}
			spoil(room)
			if string(whole) != wholeOf(s) || string(put) != putOf(s) {
				t.Errorf("of %q spoilt: %q, %q", s, whole, put)
			}
		}
	}
}

// R7: what is answered is the caller's own, the room behind it too: it reaches neither the payload nor another answer.
func TestAnswersAreTheCallers(t *testing.T) {
	for _, s := range payloads {
		room := slices.Concat([]byte(s), []byte("behind"))
		was := bytes.Clone(room)
		for range 2 {
			whole, put := stuff.Whole(room[:len(s)]), stuff.Put(room[:len(s)])
			if string(whole) != wholeOf(s) || string(put) != putOf(s) {
				t.Fatalf("%q: %q, %q", s, whole, put)
			}
			_, _ = append(whole, "spoilt"...), append(put, "spoilt"...)
			spoil(whole)
			spoil(put)
		}
		if !bytes.Equal(room, was) {
			t.Errorf("%q, or the room behind it, is changed", s)
		}
	}
}

// R7: the bytes that a body tells are the caller's own: spoilt, they change nothing, and what comes later does not change them.
func TestBytesAreTheCallers(t *testing.T) {
	for n := range 70 {
		b, m := pair(t, 200, strings.Repeat("a", n))
		first, second := b.Bytes(), b.Bytes()
		_ = append(first, "spoilt"...)
		spoil(first)
		stands(t, "spoilt", b, m)
		was := m.kept
		gives(t, "spoilt", b, &m, "more")
		gives(t, "spoilt", b, &m, ".")
		_ = append(second, "spoilt"...)
		gives(t, "spoilt", b, &m, "still more")
		if string(second) != was {
			t.Errorf("%q was told, and is %q", was, second)
		}
		spoil(second)
		stands(t, "spoilt", b, m)
	}
	empty, m := pair(t, 200)
	_ = append(empty.Bytes(), "spoilt"...)
	gives(t, "empty", empty, &m, "x")
}

// R6: to ask changes nothing, what is put is the same each time, and two bodies have nothing of each other.
func TestAskingChangesNothing(t *testing.T) {
	b, m := pair(t, 20, "a", "..", ".")
	other, mo := pair(t, 5, "xyz")
	for range 3 {
		for _, s := range payloads {
			holdsPayload(t, s)
		}
		stuff.New(9).Line("zzz")
		stands(t, "b", b, m)
		stands(t, "other", other, mo)
	}
	gives(t, "b", b, &m, "more")
	gives(t, "other", other, &mo, "more")
	gives(t, "b", b, &m, "still more than that")
	stands(t, "other", other, mo)
}

// R1: a body that New did not make is one of no bytes.
func TestZeroBody(t *testing.T) {
	b, m := &stuff.Body{}, modelOf(0)
	stands(t, "nobody's", b, m)
	for _, s := range []string{"", ".", "..", "a", "", "."} {
		gives(t, "nobody's", b, &m, s)
	}
}
