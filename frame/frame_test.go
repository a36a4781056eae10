package frame_test

import (
	"bytes"
	"math"
	"slices"
	"strings"
	"testing"

	"rejoinder/api"
	"rejoinder/frame"
)

// model is P8.1 and P8.2 said word for word, of one byte behind the other: what came since the last whole line, and the error.
type model struct {
	most  int
	since string
	fault api.Errno
}

func modelOf(most int) model { return model{most: max(most, 0)} }

func (m *model) put(s string) (lines []string, fault api.Errno) {
	for i := 0; i < len(s) && m.fault == 0; i++ {
		m.since += s[i : i+1]
		switch {
		case hasWrongEnd(m.since):
			m.since, m.fault = "", 60
		case strings.HasSuffix(m.since, "\r\n"):
			lines, m.since = append(lines, m.since[:len(m.since)-2]), ""
		case len(m.since)-strings.Count(m.since, "\r") > m.most:
			m.since, m.fault = "", 61
		}
	}
	return lines, m.fault
}

// hasWrongEnd tells whether an LF stands without a CR at once ahead of it, or a byte other than an LF at once behind a CR.
func hasWrongEnd(s string) bool {
	for i := range len(s) {
		behindCR := i > 0 && s[i-1] == 13
		if behindCR != (s[i] == 10) {
			return true
		}
	}
	return false
}

// stands asks a framer all that it can tell, against the model.
func stands(t *testing.T, what string, f *frame.Framer, m model) {
	t.Helper()
	if f.Rest() != len(m.since) || f.Error() != m.fault {
		t.Fatalf("%s: most %d: Rest %d, Error %d, want %d (%q), %d", what, m.most, f.Rest(), f.Error(), len(m.since), m.since, m.fault)
	}
}

// puts puts a text into both.
func puts(t *testing.T, what string, f *frame.Framer, m *model, s string) {
	t.Helper()
	was := *m
	lines, fault := f.Put([]byte(s))
	wantLines, wantFault := m.put(s)
	if !slices.Equal(lines, wantLines) || fault != wantFault {
		t.Fatalf("%s: behind %+v: Put(%q) = %q, %d, want %q, %d", what, was, s, lines, fault, wantLines, wantFault)
	}
	stands(t, what, f, *m)
}

// pair is a new framer and its model, behind these Puts.
func pair(t *testing.T, most int, texts ...string) (*frame.Framer, model) {
	t.Helper()
	f, m := frame.New(most), modelOf(most)
	for _, s := range texts {
		puts(t, "made", f, &m, s)
	}
	return f, m
}

// spoil changes bytes, and the room behind them, as who owns them may.
func spoil(b []byte) {
	b = b[:cap(b)]
	for i := range b {
		b[i] ^= 255
	}
}

// each calls f with all texts of n of the letters.
func each(alphabet string, n int, f func(s string)) {
	if n == 0 {
		f("")
		return
	}
	each(alphabet, n-1, func(s string) {
		for i := range len(alphabet) {
			f(s + alphabet[i:i+1])
		}
	})
}

// starts are rows of Puts to each way in which a framer of 3 can stand.
var starts = map[string][]string{
	"new":               nil,
	"empty Puts":        {"", ""},
	"begun":             {"ab"},
	"begun in two":      {"a", "b"},
	"full":              {"abc"},
	"a CR alone":        {"\r"},
	"a CR":              {"ab\r"},
	"full and a CR":     {"abc\r"},
	"behind a line":     {"abc\r\n"},
	"behind no bytes":   {"\r\n"},
	"behind two, begun": {"abc\r\nd\r\nef"},
	"an LF alone":       {"ab\n"},
	"a CR and another":  {"x\r\nab\rc"},
	"two CRs":           {"ab\r", "\r"},
	"too long":          {"x\r\nabcd"},
}

// tails are Puts to such ones.
var tails = []string{"", "a", "\r", "\n", "\r\n", "x\r\n", "abc\r\n", "abcd", "a\r\nbc\r\nd", "\n\n", "\na\r\n", "\r\r", "a\r\nb\n", "\x00", "\xff\r\n"}

// P8.2: the chapter's example.
func TestExample(t *testing.T) {
	f := frame.New(120)
	for i, x := range []struct {
		put  string
		want []string
	}{{"a", nil}, {"b\r", nil}, {"\nc", []string{"ab"}}} {
		if lines, fault := f.Put([]byte(x.put)); !slices.Equal(lines, x.want) || fault != api.OK {
			t.Errorf("%d: Put(%q) = %q, %d, want %q", i, x.put, lines, fault, x.want)
		}
	}
	if f.Rest() != 1 || f.Error() != api.OK {
		t.Errorf("Rest %d, Error %d", f.Rest(), f.Error())
	}
}

// P8.1, R1: to a new one nothing came, whatever its most is, and no bytes change nothing.
func TestNew(t *testing.T) {
	for _, most := range []int{math.MinInt, -120, -1, 0, 1, 3, 120, 1 << 40, math.MaxInt} {
		f := frame.New(most)
		for range 3 {
			if f.Rest() != 0 || f.Error() != 0 {
				t.Errorf("New(%d): Rest %d, Error %d", most, f.Rest(), f.Error())
			}
			for _, b := range [][]byte{nil, {}} {
				if lines, fault := f.Put(b); len(lines) != 0 || fault != 0 {
					t.Errorf("New(%d): Put of none is %q, %d", most, lines, fault)
				}
			}
		}
	}
}

// P8.1, P8.2: by hand: what one Put to a framer of 3 tells, and what is left of it.
func TestPut(t *testing.T) {
	for _, x := range []struct {
		put, want string // the lines, each with a | behind
		rest      int
		fault     api.Errno
	}{
		{"", "", 0, 0},
		{"a", "", 1, 0},
		{"abc", "", 3, 0},
		{"\r", "", 1, 0},
		{"abc\r", "", 4, 0},
		{"\r\n", "|", 0, 0},
		{"\r\n\r\n", "||", 0, 0},
		{"abc\r\n", "abc|", 0, 0},
		{"a\r\nbc\r\n\r\nd", "a|bc||", 1, 0},
		{"a\r\nb\r", "a|", 2, 0},
		{"\x00\xff\t\r\n", "\x00\xff\t|", 0, 0},
		{"\n", "", 0, 60},
		{"a\n", "", 0, 60},
		{"abc\n", "", 0, 60},
		{"a\r\n\n", "a|", 0, 60},
		{"a\r\n\nb\r\n", "a|", 0, 60},
		{"\ra", "", 0, 60},
		{"\r\r", "", 0, 60},
		{"\r\r\n", "", 0, 60},
		{"a\r\nb\rc", "a|", 0, 60},
		{"abc\rd", "", 0, 60},
		{"abc\r\r\n", "", 0, 60},
		{"abcd", "", 0, 61},
		{"abcd\r\n", "", 0, 61},
		{"abcd\n", "", 0, 61},
		{"a\r\nbcde\r\nf\r\n", "a|", 0, 61},
		{"a\r\nbc\r\ndefg\n", "a|bc|", 0, 61},
	} {
		f := frame.New(3)
		lines, fault := f.Put([]byte(x.put))
		got := ""
		for _, s := range lines {
			got += s + "|"
		}
		if got != x.want || fault != x.fault || f.Rest() != x.rest || f.Error() != x.fault {
			t.Errorf("Put(%q) = %q, %d, Rest %d, Error %d, want %q, %d, %d", x.put, got, fault, f.Rest(), f.Error(), x.want, x.fault, x.rest)
		}
	}
}

// P8.1: a line of just most bytes is one, with a byte more it is too long at that byte, and a CR, or an LF, alone is told instead where it comes first; at once and byte by byte.
func TestMost(t *testing.T) {
	for _, most := range []int{math.MinInt, -1, 0, 1, 2, 3, 7, 8, 9, 63, 64, 65, 119, 120, 121, 300} {
		full := strings.Repeat("x", max(most, 0))
		for _, ahead := range []string{"", "\r\n", full + "\r\n"} {
			for _, end := range []string{"", "\r", "\r\n", "\r\n\r\n", "y", "y\r\n", "y\n", "y\r", "\n", "\ry", "\r\r", "\r\r\n", "\r\n" + full, "\r\n" + full + "\r\n", "\r\n" + full + "y", "\r\ny" + full} {
				pair(t, most, ahead+full+end)
				pair(t, most, ahead+full, end)
				pair(t, most, strings.Split(ahead+full+end, "")...)
			}
		}
	}
	if lines, fault := frame.New(120).Put([]byte(strings.Repeat("x", 120) + "\r\n")); len(lines) != 1 || fault != api.OK {
		t.Errorf("a line of 120: %d lines, %d", len(lines), fault)
	}
}

// P8.1, R1: a most as great as can be bounds nothing.
func TestGreatestMost(t *testing.T) {
	long := strings.Repeat("long \x00\xff", 1000)
	for _, most := range []int{1 << 32, math.MaxInt - 1, math.MaxInt} {
		f := frame.New(most)
		for i := range 20 {
			if lines, fault := f.Put([]byte(long)); len(lines) != 0 || fault != api.OK || f.Rest() != (i+1)*len(long) {
				t.Fatalf("New(%d): %d lines, %d, Rest %d", most, len(lines), fault, f.Rest())
			}
		}
		lines, fault := f.Put([]byte("\r\n"))
		if len(lines) != 1 || lines[0] != strings.Repeat(long, 20) || fault != api.OK || f.Rest() != 0 {
			t.Errorf("New(%d): %d lines, %d, Rest %d", most, len(lines), fault, f.Rest())
		}
	}
}

// P8.1: each byte within a line, ahead of an LF, behind a CR, behind a whole line: there is no other end than a CR and an LF, and no other byte is more than one.
func TestEachByte(t *testing.T) {
	for c := range 256 {
		x := string([]byte{byte(c)})
		for _, s := range []string{x, x + x, "a" + x + "b\r\n", "ab" + x + "\r\n", x + "\n", x + "\r\n", "\r" + x, "a\r" + x + "\n", "\r\n" + x, "abc" + x, "\r\nabc" + x, x + "12345678\r\n", "12345678" + x + "\r\n"} {
			for _, most := range []int{0, 1, 3, 9} {
				pair(t, most, s)
				pair(t, most, strings.Split(s, "")...)
			}
		}
	}
}

// P8.2: from each way in which it can stand, each of some Puts, and each of them once more behind that.
func TestEachStart(t *testing.T) {
	for what, start := range starts {
		for _, tail := range tails {
			for _, more := range tails {
				f, m := pair(t, 3, start...)
				puts(t, what, f, &m, tail)
				puts(t, what, f, &m, more)
			}
		}
	}
}

// P8.2: behind an error there are no lines, and that error, for ever, also where another one would be; what came ahead of it in the same Put is told.
func TestErrorIsForEver(t *testing.T) {
	for _, x := range []struct {
		put   string
		fault api.Errno
	}{{"a\r\nbc\r\n\n", 60}, {"a\r\nbc\r\nd\re\r\n", 60}, {"a\r\nbc\r\ndefg\r\nh\r\n", 61}} {
		f := frame.New(3)
		lines, fault := f.Put([]byte(x.put))
		if !slices.Equal(lines, []string{"a", "bc"}) || fault != x.fault {
			t.Errorf("Put(%q) = %q, %d", x.put, lines, fault)
		}
		for _, tail := range append(tails, strings.Repeat("x", 5000)) {
			if lines, fault := f.Put([]byte(tail)); len(lines) != 0 || fault != x.fault || f.Error() != x.fault || f.Rest() != 0 {
				t.Errorf("behind %q: Put(%q) = %q, %d, Error %d, Rest %d", x.put, tail, lines, fault, f.Error(), f.Rest())
			}
		}
	}
}

// P8.1, P8.2: all short rows of Puts on all small mosts, each against the chapter's words; a clone stands beside each step, and is left as it was.
func TestAllShortRows(t *testing.T) {
	texts := []string{"", "a", "\r", "\n", "bc\r", "\nd", "\r\n"}
	var walk func(f *frame.Framer, m model, left int)
	walk = func(f *frame.Framer, m model, left int) {
		if left == 0 {
			return
		}
		for _, s := range texts {
			next, after := f.Clone(), m
			puts(t, "row", next, &after, s)
			walk(next, after, left-1)
		}
		stands(t, "left behind", f, m)
	}
	for most := -1; most < 4; most++ {
		walk(frame.New(most), modelOf(most), 5)
	}
}

// P8.1, P8.4: all short texts, at once and byte by byte, without clones.
func TestAllShortTexts(t *testing.T) {
	for most := range 4 {
		for n := range 9 {
			each("a\r\n", n, func(s string) {
				pair(t, most, s)
				pair(t, most, strings.Split(s, "")...)
			})
		}
	}
}

// P8.4: all ways to cut some rows of bytes tell the same lines in all, and end with the same Rest and Error.
func TestAllCuts(t *testing.T) {
	for _, s := range []string{"ab\r\n\r\ncde\r\nf", "abc\r\nde\r\n\r\n", "a\r\nb\nc\r\nd", "a\r\nbc\rd\r\ne", "ab\r\ncdefgh\r\n", "\r\n\r\n\r\n\r\r\n"} {
		m := modelOf(3)
		want, wantFault := m.put(s)
		for cuts := range 1 << (len(s) - 1) {
			f := frame.New(3)
			var got []string
			start := 0
			for i := 1; i <= len(s); i++ {
				if i < len(s) && cuts>>(i-1)&1 == 0 {
					continue
				}
				lines, _ := f.Put([]byte(s[start:i]))
				got = append(got, lines...)
				start = i
			}
			if !slices.Equal(got, want) || f.Error() != wantFault || f.Rest() != len(m.since) {
				t.Fatalf("%q cut by %b: %q, Error %d, Rest %d, want %q, %d, %d", s, cuts, got, f.Error(), f.Rest(), want, wantFault, len(m.since))
			}
		}
	}
}

// lots is many lines of all lengths up to most, of bytes that are neither a CR nor an LF.
func lots(most int) (lines []string, all string) {
	x := uint32(1)
	for n := range 3 * most {
		b := make([]byte, n%(most+1))
		for i := range b {
			x = x*1664525 + 1013904223
			b[i] = byte(x >> 24)
			if b[i] == 13 || b[i] == 10 {
				b[i] = ' '
			}
		}
		lines = append(lines, string(b))
	}
	return lines, strings.Join(lines, "\r\n") + "\r\n"
}

// P8.4: many lines, cut by many sizes, with empty Puts between.
func TestLongRowsHoweverCut(t *testing.T) {
	want, all := lots(api.MaxLine)
	for _, size := range []int{1, 2, 3, 5, 8, 64, 119, 120, 121, 122, 123, 1000, len(all) - 1, len(all)} {
		f := frame.New(api.MaxLine)
		var got []string
		for rest := all; rest != ""; {
			n := min(size, len(rest))
			lines, fault := f.Put([]byte(rest[:n]))
			more, again := f.Put(nil)
			if fault != api.OK || again != api.OK || len(more) != 0 {
				t.Fatalf("cut by %d: %d, then %d and %q", size, fault, again, more)
			}
			got = append(got, lines...)
			rest = rest[n:]
		}
		if !slices.Equal(got, want) || f.Rest() != 0 || f.Error() != api.OK {
			t.Errorf("cut by %d: %d lines, Rest %d, Error %d", size, len(got), f.Rest(), f.Error())
		}
	}
}

// R1: a line of very many bytes, one by one, ends.
func TestVeryLongLineByteByByte(t *testing.T) {
	const n = 1 << 21
	f := frame.New(n)
	for range n {
		if lines, fault := f.Put([]byte("x")); len(lines) != 0 || fault != api.OK {
			t.Fatal(len(lines), fault)
		}
	}
	if lines, fault := f.Clone().Put([]byte("\r\n")); len(lines) != 1 || len(lines[0]) != n || fault != api.OK {
		t.Error(len(lines), fault)
	}
	if lines, fault := f.Put([]byte("x")); len(lines) != 0 || fault != api.ErrLong {
		t.Error(len(lines), fault)
	}
}

// P8.3: a line, a CR, an LF; or none, of what has a CR or an LF, wherever it stands.
func TestEmit(t *testing.T) {
	for _, x := range []struct {
		line, want string
		ok         bool
	}{
		{"", "\r\n", true},
		{"QUIT", "QUIT\r\n", true},
		{" a b ", " a b \r\n", true},
		{".", ".\r\n", true},
		{"\x00\t\v\f\x85\xff", "\x00\t\v\f\x85\xff\r\n", true},
		{"\xe2\x80\xa8\xc2\x85", "\xe2\x80\xa8\xc2\x85\r\n", true},
		{"\\r\\n", "\\r\\n\r\n", true},
		{"\r", "", false},
		{"\n", "", false},
		{"\r\n", "", false},
		{"a\r\n", "", false},
		{"a\r", "", false},
		{"a\n", "", false},
		{"\ra", "", false},
		{"\na", "", false},
		{"a\rb", "", false},
		{"a\nb", "", false},
		{"\xff\n", "", false},
		{"\xe2\r\x80", "", false},
		{"\xff\xfe\xfd\xfc\xfb\xfa\xf9\xf8\xf7\n", "", false},
	} {
		if got, ok := frame.Emit(x.line); string(got) != x.want || ok != x.ok {
			t.Errorf("Emit(%q) = %q, %v, want %q, %v", x.line, got, ok, x.want, x.ok)
		}
	}
	for c := range 256 {
		for _, ahead := range []int{0, 1, 9, 500} {
			for _, behind := range []int{0, 1, 9, 500} {
				s := strings.Repeat("\xe2", ahead) + string([]byte{byte(c)}) + strings.Repeat("b", behind)
				want := c != 13 && c != 10
				if got, ok := frame.Emit(s); ok != want || ok && string(got) != s+"\r\n" || !ok && len(got) != 0 {
					t.Errorf("Emit(%q) = %q, %v", s, got, ok)
				}
			}
		}
	}
}

// P8.4: what was emitted is framed, and just what was: lines of most bytes too, however many stand behind each other.
func TestEmittedIsFramed(t *testing.T) {
	lines, _ := lots(40)
	var all []byte
	for _, s := range lines {
		b, ok := frame.Emit(s)
		if !ok {
			t.Fatalf("Emit(%q) is none", s)
		}
		f := frame.New(len(s))
		if got, fault := f.Put(b); len(got) != 1 || got[0] != s || fault != api.OK || f.Rest() != 0 {
			t.Errorf("%q is framed as %q, %d", s, got, fault)
		}
		all = append(all, b...)
	}
	if got, fault := frame.New(40).Put(all); !slices.Equal(got, lines) || fault != api.OK {
		t.Errorf("%d lines of %d, %d", len(got), len(lines), fault)
	}
	for n := range 6 {
		each("a\r\n", n, func(s string) {
			b, ok := frame.Emit(s)
			if got, fault := frame.New(n).Put([]byte(s + "\r\n")); ok != (fault == api.OK && len(got) == 1) {
				t.Errorf("Emit(%q) = %q, %v, and it is framed as %q, %d", s, b, ok, got, fault)
			}
		})
	}
}

// P8.2: a clone stands as what it was made of, and they go their own ways, whichever goes first.
func TestCloneGoesItsOwnWay(t *testing.T) {
	for what, start := range starts {
		for _, tail := range tails {
			for _, other := range tails {
				f, m := pair(t, 3, start...)
				c, mc := f.Clone(), m
				stands(t, what+", clone", c, mc)
				puts(t, what, f, &m, tail)
				stands(t, what+", clone", c, mc)
				d, md := c.Clone(), mc
				puts(t, what+", clone", c, &mc, other)
				stands(t, what, f, m)
				puts(t, what, f, &m, "x\r\n")
				puts(t, what+", clone", c, &mc, "\r\n")
				puts(t, what+", clone's clone", d, &md, "y")
				puts(t, what+", clone's clone", d, &md, "\r\n")
				stands(t, what, f, m)
				stands(t, what+", clone", c, mc)
			}
		}
	}
}

// P8.2, R7: clones have nothing in common, however much room there is behind what came.
func TestCloneHasItsOwnRoom(t *testing.T) {
	for n := range 70 {
		f, m := pair(t, 100, strings.Repeat("l", 90)+"\r\n", strings.Repeat("a", n))
		c, mc := f.Clone(), m
		puts(t, "first", f, &m, "F")
		puts(t, "clone", c, &mc, "C")
		d, md := f.Clone(), m
		puts(t, "first", f, &m, "FF\r\n")
		puts(t, "clone's clone", d, &md, "DD\r\n")
		puts(t, "clone", c, &mc, "CC\r\n")
	}
}

// R7: what is put is neither changed nor kept, nor the room behind it.
func TestLeavesItsArguments(t *testing.T) {
	for _, s := range []string{"", "a", "ab", "abc", "a\r", "\r", "a\r\nb", "a\r\n", "a\r\nbcd\r\nab\r", "\n", "abcd", "a\rb"} {
		room := append([]byte(s), bytes.Repeat([]byte("r"), 50)...)
		was := bytes.Clone(room)
		f, m := frame.New(3), modelOf(3)
		lines, fault := f.Put(room[:len(s)])
		wantLines, wantFault := m.put(s)
		if !bytes.Equal(room, was) {
			t.Fatalf("%q, or the room behind it, is changed", s)
		}
		spoil(room)
		if !slices.Equal(lines, wantLines) || fault != wantFault {
			t.Errorf("of %q spoilt: %q, %d", s, lines, fault)
		}
		stands(t, "spoilt", f, m)
		puts(t, "spoilt", f, &m, "\r\n")
		puts(t, "spoilt", f, &m, "x\r\n")
	}
}

// R7: what is answered is the caller's own, and what comes later does not change it.
func TestAnswersAreTheCallers(t *testing.T) {
	f, m := pair(t, 5, "ab")
	c, mc := f.Clone(), m
	first, _ := f.Put([]byte("c\r\nde\r\nfg"))
	m.put("c\r\nde\r\nfg")
	second, _ := f.Put([]byte("h\r\nxyzuv\r\nk"))
	m.put("h\r\nxyzuv\r\nk")
	if !slices.Equal(first, []string{"abc", "de"}) || !slices.Equal(second, []string{"fgh", "xyzuv"}) {
		t.Errorf("%q, %q", first, second)
	}
	for _, l := range [][]string{first, second} {
		_ = append(l, "spoilt")
		for i := range l {
			l[i] = "spoilt"
		}
	}
	stands(t, "spoilt", f, m)
	puts(t, "spoilt", f, &m, "l\r\n")
	puts(t, "clone", c, &mc, "\r\n")

	one, _ := frame.Emit("QUIT")
	other, _ := frame.Emit("QUIT")
	_ = append(one, "spoilt"...)
	spoil(one)
	if again, _ := frame.Emit("QUIT"); string(other) != "QUIT\r\n" || string(again) != "QUIT\r\n" {
		t.Errorf("%q, %q", other, again)
	}
}

// R6: to ask changes nothing, and two framers have nothing of each other.
func TestAskingChangesNothing(t *testing.T) {
	f, m := pair(t, 3, "ab")
	other, mo := pair(t, 5, "wxyz\r")
	wrong, mw := pair(t, 3, "\n")
	for range 3 {
		f.Clone().Put([]byte("zzz\n"))
		other.Clone().Put([]byte("zzz\n"))
		frame.Emit("q")
		frame.Emit("\r")
		stands(t, "f", f, m)
		stands(t, "other", other, mo)
		stands(t, "wrong", wrong, mw)
	}
	puts(t, "f", f, &m, "c\r\n")
	puts(t, "other", other, &mo, "\n")
	puts(t, "wrong", wrong, &mw, "c\r\n")
}

// R1: a framer that New did not make is one of lines of no bytes.
func TestZeroFramer(t *testing.T) {
	for _, s := range append(tails, "\r\n\r\n", "\r\na") {
		f, m := &frame.Framer{}, modelOf(0)
		puts(t, "nobody's", f, &m, s)
		puts(t, "nobody's clone", f.Clone(), &m, "\r\n")
	}
}
