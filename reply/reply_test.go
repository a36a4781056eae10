package reply_test

import (
	"fmt"
	"math"
	"reflect"
	"slices"
	"strings"
	"testing"

	"rejoinder/api"
	"rejoinder/line"
	"rejoinder/reply"
	"rejoinder/stuff"
)

const (
	smtp = 1
	pop3 = 2
	ftp  = 3
	bad  = 63
	full = 72
)

// protos are all protocols, and numbers that are none.
var protos = []int{smtp, pop3, ftp, 0, -1, -2, -3, 4, 7, 9, 1 << 32, 1<<32 + 1, 1<<32 + 2, math.MinInt, math.MaxInt}

// model is P11.1 and P11.2 said word for word: the lines of the reply that it is in the middle of, from which all is worked out anew.
type model struct {
	proto int
	first bool // whether the reply's first line was told that it has a body
	lines []string
}

// line is what a maker answers to one more line.
func (m *model) line(s string, body bool) (api.Reply, bool, api.Errno) {
	if len(m.lines) == 0 {
		m.first = body
	}
	m.lines = append(m.lines, s)
	r, whole, fault := replyOf(m.proto, m.lines, m.first)
	if whole || fault != 0 {
		m.lines = nil
	}
	return r, whole, fault
}

// replyOf is what the last of these lines makes of those ahead of it, none of which made a reply whole, or was a fault.
func replyOf(proto int, lines []string, body bool) (api.Reply, bool, api.Errno) {
	first, ok := line.Status(proto, lines[0])
	if !ok {
		return api.Reply{}, false, bad
	}
	r := api.Reply{Code: first.Code, Lines: []string{first.Text}}
	hasBody := proto == pop3 && body && first.Code == "+"
	if !first.More && !hasBody {
		return r, true, 0
	}
	dots := stuff.New(1000)
	for _, s := range lines[1:] {
		said, ok := line.Status(proto, s)
		switch {
		case hasBody:
			end, fault := dots.Line(s)
			if fault != 0 {
				return api.Reply{}, false, fault
			}
			if end {
				r.Body = dots.Bytes()
				return r, true, 0
			}
			continue
		case proto == smtp:
			if !ok || said.Code != first.Code {
				return api.Reply{}, false, bad
			}
			r.Lines = append(r.Lines, said.Text)
		case ok && said.Code == first.Code && !said.More:
			r.Lines = append(r.Lines, said.Text)
		default:
			r.Lines = append(r.Lines, s)
		}
		if len(r.Lines) > 20 {
			return api.Reply{}, false, full
		}
		if ok && said.Code == first.Code && !said.More {
			return r, true, 0
		}
	}
	return api.Reply{}, false, 0
}

// same tells whether two replies are alike: a list that is empty may be nil.
func same(a, b api.Reply) bool {
	return a.Code == b.Code && slices.Equal(a.Lines, b.Lines) && string(a.Body) == string(b.Body)
}

// gives gives a line to both, and tells what they answered.
func gives(t *testing.T, m *reply.Maker, w *model, s string, body bool) (api.Reply, bool, api.Errno) {
	t.Helper()
	behind := slices.Clone(w.lines)
	r, whole, fault := m.Line(s, body)
	wantReply, wantWhole, wantFault := w.line(s, body)
	if !same(r, wantReply) || whole != wantWhole || fault != wantFault {
		t.Fatalf("%d: behind %q: Line(%q, %v) = %+v, %v, %d, want %+v, %v, %d", w.proto, behind, s, body, r, whole, fault, wantReply, wantWhole, wantFault)
	}
	if m.Busy() != (len(w.lines) > 0) {
		t.Fatalf("%d: behind %q: Busy behind Line(%q, %v): %v", w.proto, behind, s, body, m.Busy())
	}
	return r, whole, fault
}

// holds holds what lines make against the chapter's words, one row of them to one maker; body says of which of them it is told that it has one.
func holds(t *testing.T, proto int, lines []string, body func(i int) bool) {
	t.Helper()
	m, w := reply.New(proto), &model{proto: proto}
	for i, s := range lines {
		gives(t, m, w, s, body(i))
	}
}

func always(int) bool { return true }
func never(int) bool  { return false }

// eachRow calls f with all rows of n of the lines.
func eachRow(lines []string, n int, f func(row []string)) {
	if n == 0 {
		f(nil)
		return
	}
	eachRow(lines, n-1, func(row []string) {
		for _, s := range lines {
			f(append(row[:len(row):len(row)], s))
		}
	})
}

// each calls f with all texts of n of the letters.
func each(alphabet string, n int, f func(s string)) {
	if n == 0 {
		f("")
		return
	}
	each(alphabet, n-1, func(s string) {
		for i := range len(alphabet) {
			f(s + alphabet[i:i+1])
		}
	})
}

// told is what a maker tells of lines, as a text: a reply as its code, its lines and its body, a fault as its number; and whether it is in the middle of a reply at last.
func told(proto int, body bool, lines ...string) string {
	m := reply.New(proto)
	var out []string
	for _, s := range lines {
		r, whole, fault := m.Line(s, body)
		switch {
		case fault != 0:
			out = append(out, fmt.Sprint(int(fault)))
		case whole:
			out = append(out, fmt.Sprintf("%s%q%q", r.Code, r.Lines, r.Body))
		}
	}
	if m.Busy() {
		out = append(out, "busy")
	}
	return strings.Join(out, " ")
}

// P11.2: the chapter's example.
func TestExample(t *testing.T) {
	m := reply.New(smtp)
	if r, whole, fault := m.Line("250-a", false); !same(r, api.Reply{}) || whole || fault != 0 || !m.Busy() {
		t.Fatalf("%+v, %v, %d, %v", r, whole, fault, m.Busy())
	}
	r, whole, fault := m.Line("250 b", false)
	if !same(r, api.Reply{Code: "250", Lines: []string{"a", "b"}}) || !whole || fault != 0 || m.Busy() {
		t.Fatalf("%+v, %v, %d, %v", r, whole, fault, m.Busy())
	}
}

// P11.1, P11.2: by hand: what lines make, of each protocol.
func TestByHand(t *testing.T) {
	for _, x := range []struct {
		proto int
		body  bool
		lines []string
		want  string
	}{
		// Smtp: a code in each line.
		{smtp, false, nil, ``},
		{smtp, false, []string{"220 hi"}, `220["hi"]""`},
		{smtp, false, []string{"220"}, `220[""]""`},
		{smtp, false, []string{"220 "}, `220[""]""`},
		{smtp, false, []string{"220-"}, `busy`},
		{smtp, false, []string{"220-", "220"}, `220["" ""]""`},
		{smtp, false, []string{"250-a", "250-b", "250-", "250 d", "221 bye"}, `250["a" "b" "" "d"]"" 221["bye"]""`},
		{smtp, false, []string{"250-a", "251 b"}, `63`},
		{smtp, false, []string{"250-a", "251-b"}, `63`},
		{smtp, false, []string{"250-a", "251-b", "250 c"}, `63 250["c"]""`},
		{smtp, false, []string{"250-a", "x", "250 c"}, `63 250["c"]""`},
		{smtp, false, []string{"250-a", "", "250 c"}, `63 250["c"]""`},
		{smtp, false, []string{"250-a", " 250 b"}, `63`},
		{smtp, false, []string{"250-a", "2500 b"}, `63`},
		{smtp, false, []string{"250-a", "25 b"}, `63`},
		{smtp, false, []string{"250-a", "250\tb"}, `63`},
		{smtp, false, []string{"250-a", "."}, `63`},
		{smtp, false, []string{"x", "220 hi", "", "221 bye"}, `63 220["hi"]"" 63 221["bye"]""`},
		{smtp, false, []string{"+OK a"}, `63`},
		{smtp, true, []string{"250 a", "b", "."}, `250["a"]"" 63 63`},
		{smtp, true, []string{"250-a", "250 b", "."}, `250["a" "b"]"" 63`},
		{smtp, false, []string{"600 a", "050 a", "334 VXNlcm5hbWU6"}, `63 63 334["VXNlcm5hbWU6"]""`},
		// Ftp: the code in the first line, and in the last.
		{ftp, false, []string{"220 hi"}, `220["hi"]""`},
		{ftp, false, []string{"220"}, `220[""]""`},
		{ftp, false, []string{"211-a", " b", "c", "", "211 d"}, `211["a" " b" "c" "" "d"]""`},
		{ftp, false, []string{"211-a", "211"}, `211["a" ""]""`},
		{ftp, false, []string{"211-a", "211 "}, `211["a" ""]""`},
		{ftp, false, []string{"211-a", "211-b", "211 c"}, `211["a" "211-b" "c"]""`},
		{ftp, false, []string{"211-a", "211-", "211 c"}, `211["a" "211-" "c"]""`},
		{ftp, false, []string{"211-a", "212 b", "212-c", "212", "211 d"}, `211["a" "212 b" "212-c" "212" "d"]""`},
		{ftp, false, []string{"211-a", " 211 b", "2111 c", "21", "211\td", "211 e"}, `211["a" " 211 b" "2111 c" "21" "211\td" "e"]""`},
		{ftp, false, []string{"211-a", ".", "+OK", "x", "211 b", "x"}, `211["a" "." "+OK" "x" "b"]"" 63`},
		{ftp, false, []string{"211-a", "b"}, `busy`},
		{ftp, true, []string{"211-a", ".", "211 b", "."}, `211["a" "." "b"]"" 63`},
		{ftp, false, []string{"x", "", "+OK", "211 a"}, `63 63 63 211["a"]""`},
		// Pop3: a line, and a body, if the first line was told so.
		{pop3, false, []string{"+OK a", "-ERR b", "+ c", "+OK", "-ERR", "+"}, `+["a"]"" -["b"]"" >["c"]"" +[""]"" -[""]"" >[""]""`},
		{pop3, false, []string{"+OK a", "b", "."}, `+["a"]"" 63 63`},
		{pop3, true, []string{"+OK a"}, `busy`},
		{pop3, true, []string{"+OK a", "."}, `+["a"]""`},
		{pop3, true, []string{"+OK a", "b", "."}, `+["a"]"b\r\n"`},
		{pop3, true, []string{"+OK a", "b", "", "..", "...c", ".d", " .", "."}, `+["a"]"b\r\n\r\n.\r\n..c\r\nd\r\n .\r\n"`},
		{pop3, true, []string{"+OK a", "+OK b", "-ERR c", "+ d", ".", "+OK e", "."}, `+["a"]"+OK b\r\n-ERR c\r\n+ d\r\n" +["e"]""`},
		{pop3, true, []string{"+OK a", "b", ".", "+OK c", "d", "."}, `+["a"]"b\r\n" +["c"]"d\r\n"`},
		{pop3, true, []string{"+OK", "b", ".", "."}, `+[""]"b\r\n" 63`},
		{pop3, true, []string{"-ERR a", "+ b", "-ERR", "+"}, `-["a"]"" >["b"]"" -[""]"" >[""]""`},
		{pop3, true, []string{"x", ".", "", "250 a", "+OKAY", "+OK", "."}, `63 63 63 63 63 +[""]""`},
		// Others: nothing is a reply.
		{0, false, []string{"250 a", "250-a", "+OK a", "."}, `63 63 63 63`},
		{4, true, []string{"250 a", "250-a", "+OK a", "."}, `63 63 63 63`},
	} {
		if got := told(x.proto, x.body, x.lines...); got != x.want {
			t.Errorf("%d, %v, %q: %s, want %s", x.proto, x.body, x.lines, got, x.want)
		}
	}
}

// P11.1: what is in the middle of nothing is not busy: a new one, and one behind a reply, and behind a fault.
func TestBusy(t *testing.T) {
	for _, proto := range protos {
		if reply.New(proto).Busy() {
			t.Errorf("%d: a new one is busy", proto)
		}
	}
	for _, x := range []struct {
		proto int
		lines []string
		want  []bool
	}{
		{smtp, []string{"250 a", "250-a", "250-b", "250 c", "x", "250-a", "x"}, []bool{false, true, true, false, false, true, false}},
		{ftp, []string{"211 a", "211-a", "x", "211-b", "211 c", "x"}, []bool{false, true, true, true, false, false}},
		{pop3, []string{"+OK a", "b", ".", "-ERR a", "+ a", "x", "+OK", strings.Repeat("x", 999)}, []bool{true, true, false, false, false, false, true, false}},
		{5, []string{"250-a", "+OK a"}, []bool{false, false}},
	} {
		m := reply.New(x.proto)
		for i, s := range x.lines {
			for range 3 {
				m.Busy() // R6: asking changes nothing
			}
			m.Line(s, true)
			if m.Busy() != x.want[i] {
				t.Errorf("%d: behind %q: %v", x.proto, x.lines[:i+1], m.Busy())
			}
		}
	}
}

// P11.1: of others than the three protocols each line is ErrBad, whatever was told of a body.
func TestOtherProtos(t *testing.T) {
	for _, proto := range protos[3:] {
		m := reply.New(proto)
		for _, s := range []string{"", "250", "250 ok", "250-ok", "+OK", "+OK a", "-ERR", "+", "+ a", ".", "x"} {
			for _, body := range []bool{false, true} {
				if r, whole, fault := m.Line(s, body); !reflect.DeepEqual(r, api.Reply{}) || whole || fault != bad || m.Busy() {
					t.Errorf("%d, %q: %+v, %v, %d", proto, s, r, whole, fault)
				}
			}
		}
	}
}

// P11.1, P11.2: what is told of a body matters at a reply's first line alone.
func TestBodyIsAskedOnce(t *testing.T) {
	lines := []string{"+OK a", "b", "..", ".", "-ERR c", "+OK d", "e", ".", "+ f", "+OK g"}
	for mask := range 1 << len(lines) {
		holds(t, pop3, lines, func(i int) bool { return mask>>i&1 == 1 })
	}
	for _, proto := range []int{smtp, ftp} {
		for mask := range 1 << 6 {
			holds(t, proto, []string{"250-a", ".", "250-b", "250 c", ".", "250 d"}, func(i int) bool { return mask>>i&1 == 1 })
		}
	}
}

// P11.2, P11.3: all short rows of lines that stand where the chapter's words part, with bodies, without them, and by turns.
func TestAllShortRows(t *testing.T) {
	for proto, lines := range map[int][]string{
		smtp: {"250-a", "250 b", "250", "250-", "251-c", "251 d", "x", ".", ""},
		ftp:  {"250-a", "250 b", "250", "250-", "251-c", "251 d", " 250 e", ".", ""},
		pop3: {"+OK a", "-ERR b", "+ c", "+OK", ".", "..d", "e", "250-f", ""},
	} {
		for n := range 6 {
			eachRow(lines, n, func(row []string) {
				holds(t, proto, row, always)
				holds(t, proto, row, never)
				holds(t, proto, row, func(i int) bool { return i%2 == 0 })
			})
		}
	}
	for _, proto := range protos[3:] {
		eachRow([]string{"250-a", "250 b", "+OK", "."}, 3, func(row []string) { holds(t, proto, row, always) })
	}
}

// P11.2: all short lines, and each byte at each place, as a first line and within a reply; the maker goes on behind them.
func TestAllShortLines(t *testing.T) {
	heads := map[int][][]string{smtp: {nil, {"250-a"}}, ftp: {nil, {"250-a"}}, pop3: {nil, {"+OK a"}}}
	ends := map[int][]string{smtp: {"250 z", "220 y"}, ftp: {"250 z", "220 y"}, pop3: {".", "-ERR y"}}
	all := func(s string) {
		for _, proto := range []int{smtp, ftp, pop3} {
			for _, head := range heads[proto] {
				holds(t, proto, slices.Concat(head, []string{s}, ends[proto]), always)
				holds(t, proto, slices.Concat(head, []string{s}, ends[proto]), never)
			}
		}
	}
	for n := range 6 {
		each("0256- .", n, all)
	}
	for n := range 5 {
		each("+-OKER .", n, all)
	}
	for c := range 256 {
		x := string([]byte{byte(c)})
		for _, s := range []string{x, x + x, x + "50 a", "2" + x + "0 a", "25" + x + " a", "250" + x + "a", "250 " + x, "250-" + x, "250" + x, x + "250 a", "." + x, x + ".", x + "OK", "+" + x + "K", "+O" + x, "+OK" + x, "+OK " + x, x + "ERR", "-ERR" + x} {
			all(s)
		}
	}
}

// P11.2: within a reply of each code, each other code is another one.
func TestEachCode(t *testing.T) {
	for n := 100; n < 600; n++ {
		code := fmt.Sprint(n)
		for _, d := range []int{-100, -10, -1, 0, 1, 10, 100} {
			other := fmt.Sprint(n + d)
			for _, sign := range []string{" ", "-"} {
				for _, proto := range []int{smtp, ftp} {
					holds(t, proto, []string{code + "-a", other + sign + "b", code + " c", code + " d"}, never)
				}
			}
		}
	}
}

// row is a first line, so many more like the second, and the last.
func row(first, more string, n int, last string) []string {
	return slices.Concat([]string{first}, slices.Repeat([]string{more}, n), []string{last})
}

// P11.2: twenty lines are a reply, twenty-one are ErrFull, whichever of them the last is; behind it the maker is in the middle of nothing.
func TestLinesAreBounded(t *testing.T) {
	for _, x := range []struct {
		proto             int
		first, more, last string
	}{
		{smtp, "250-a", "250-b", "250 c"}, {smtp, "250-", "250-", "250"},
		{ftp, "250-a", "b", "250 c"}, {ftp, "250-a", "250-b", "250"}, {ftp, "250-", "", "250 "}, {ftp, "250-a", "251 b", "250 c"},
	} {
		for n := range 60 {
			lines := row(x.first, x.more, n, x.last)
			holds(t, x.proto, lines, never)
			holds(t, x.proto, slices.Concat(lines, lines), always)
		}
		m := reply.New(x.proto)
		for i, s := range row(x.first, x.more, 18, x.last) {
			r, whole, fault := m.Line(s, false)
			if whole != (i == 19) || fault != 0 || whole && len(r.Lines) != 20 {
				t.Fatalf("%d: line %d of twenty: %+v, %v, %d", x.proto, i, r, whole, fault)
			}
		}
		for _, last := range []string{x.more, x.last} {
			for i, s := range row(x.first, x.more, 19, last) {
				r, whole, fault := m.Line(s, false)
				if want := api.Errno(0); i == 20 {
					want = full
					if fault != want || m.Busy() {
						t.Fatalf("%d: the line behind twenty: %d, %v", x.proto, fault, m.Busy())
					}
				} else if fault != want || whole || !m.Busy() {
					t.Fatalf("%d: line %d: %+v, %v, %d", x.proto, i, r, whole, fault)
				}
			}
		}
	}
}

// P11.2, R3: a line that is bad behind twenty is ErrBad: it is named ahead of ErrFull.
func TestBadAheadOfFull(t *testing.T) {
	if got := told(smtp, false, row("250-a", "250-b", 19, "x")...); got != "63" {
		t.Error(got)
	}
	if got := told(smtp, false, row("250-a", "250-b", 19, "251 b")...); got != "63" {
		t.Error(got)
	}
	if got := told(ftp, false, row("250-a", "250-b", 19, "x")...); got != "72" {
		t.Error(got)
	}
}

// P11.2, T4: a body is bounded by its bytes, not by its lines: 1000 of them are stored as they were, one more is ErrFull.
func TestBodiesAreBounded(t *testing.T) {
	for _, x := range []struct {
		lines []string
		want  string
	}{
		{[]string{strings.Repeat("x", 998)}, strings.Repeat("x", 998) + "\r\n"},
		{[]string{"." + strings.Repeat("x", 998)}, strings.Repeat("x", 998) + "\r\n"},
		{[]string{"..", strings.Repeat("x", 995)}, ".\r\n" + strings.Repeat("x", 995) + "\r\n"},
		{slices.Repeat([]string{""}, 19), strings.Repeat("\r\n", 19)},
		{slices.Repeat([]string{"a"}, 20), strings.Repeat("a\r\n", 20)},
		{slices.Repeat([]string{".b"}, 21), strings.Repeat("b\r\n", 21)},
		{slices.Repeat([]string{""}, 500), strings.Repeat("\r\n", 500)},
		{slices.Repeat([]string{"12345678"}, 100), strings.Repeat("12345678\r\n", 100)},
	} {
		m := reply.New(pop3)
		for range 2 {
			for i, s := range slices.Concat([]string{"+OK a"}, x.lines, []string{"."}) {
				r, whole, fault := m.Line(s, true)
				last := i == len(x.lines)+1
				if fault != 0 || whole != last || m.Busy() == last {
					t.Fatalf("%q: %v, %d", s, whole, fault)
				}
				if last && !same(r, api.Reply{Code: "+", Lines: []string{"a"}, Body: []byte(x.want)}) {
					t.Fatalf("%+v", r)
				}
			}
		}
	}
	for _, lines := range [][]string{{strings.Repeat("x", 999)}, {"." + strings.Repeat("x", 999)}, slices.Repeat([]string{""}, 501), append(slices.Repeat([]string{"12345678"}, 100), ""), {strings.Repeat("x", 997), ""}, {strings.Repeat("x", 1<<20)}} {
		if got := told(pop3, true, slices.Concat([]string{"+OK a"}, lines, []string{"+OK b", "c", "."})...); got != `72 +["b"]"c\r\n"` {
			t.Error(got)
		}
	}
}

// P11.2, T4: what was put by stuff comes back whole as a body, whatever its bytes are.
func TestBodiesComeBack(t *testing.T) {
	var every []byte
	for c := range 256 {
		if c != '\n' {
			every = append(every, byte(c))
		}
	}
	for _, payload := range []string{"", ".", "..", "a\r\n.\r\nb", ".\r\n..\r\n...\r\n", "\r\n\r\n", "+OK\r\n-ERR\r\n", string(every)} {
		lines := strings.Split(string(stuff.Put([]byte(payload))), "\r\n")
		m := reply.New(pop3)
		m.Line("+OK", true)
		var got api.Reply
		for _, s := range lines[:len(lines)-1] { // nothing stands behind the last end
			got, _, _ = m.Line(s, false)
		}
		if want := string(stuff.Whole([]byte(payload))); got.Code != "+" || string(got.Body) != want || m.Busy() {
			t.Errorf("%q: %+v", payload, got)
		}
	}
}

// P11.3: lines that are each a row of replies make the same replies one behind the other, through one maker, as through one each.
func TestOneRow(t *testing.T) {
	for proto, rows := range map[int][][]string{
		smtp: {{"220 hi"}, {"250-a", "250 b"}, {"x"}, {"250-a", "x"}, {"250-a", "251 b"}, row("250-a", "250-b", 18, "250 c"), row("250-a", "250-b", 19, "250 c")},
		ftp:  {{"220 hi"}, {"211-a", "x", "211 b"}, {"x"}, {"211-a", "212 b", "211-c", "211"}, row("250-a", "", 18, "250 c"), row("250-a", "", 19, "250 c")},
		pop3: {{"+OK", "."}, {"+OK a", "..", "."}, {"-ERR a"}, {"+ a"}, {"x"}, {"+OK a", strings.Repeat("x", 999)}, row("+OK", "", 500, "."), row("+OK", "", 499, strings.Repeat("x", 9))},
	} {
		for i, a := range rows {
			for j, b := range rows {
				for k, c := range rows {
					var alone []string
					for _, lines := range [][]string{a, b, c} {
						alone = append(alone, told(proto, true, lines...))
					}
					if got, want := told(proto, true, slices.Concat(a, b, c)...), strings.Join(alone, " "); got != want {
						t.Fatalf("%d: %d, %d, %d: %s, want %s", proto, i, j, k, got, want)
					}
				}
			}
		}
	}
}

// P11.3: the texts of all replies, and their bodies, are what the lines said, each of them once, and in their order.
func TestNoLineIsInTwo(t *testing.T) {
	for _, proto := range []int{smtp, ftp} {
		m, w := reply.New(proto), &model{proto: proto}
		var given, got []string
		for n := range 2000 {
			text := fmt.Sprintf("line %d", n)
			sign := "-"
			if n%7%4 == 3 {
				sign = " "
			}
			r, whole, _ := gives(t, m, w, "250"+sign+text, n%2 == 0)
			given = append(given, text)
			if whole {
				for _, s := range r.Lines {
					got = append(got, strings.TrimPrefix(s, "250-")) // Ftp has a line within as it is
				}
			}
		}
		if len(got) < 1990 || !slices.Equal(got, given[:len(got)]) {
			t.Errorf("%d: %d lines of %d came back", proto, len(got), len(given))
		}
	}
}

// P11.2, R5: a reply that has no body has none, and a fault, or what is not whole yet, tells nothing beside.
func TestNothingBeside(t *testing.T) {
	for _, x := range []struct {
		proto int
		lines []string
	}{
		{smtp, []string{"250-a", "250-b"}}, {smtp, []string{"x"}}, {smtp, []string{"250-a", "251 b"}}, {smtp, []string{"250-a", "x"}}, {smtp, row("250-a", "250-b", 19, "250 c")},
		{ftp, []string{"250-a", "b"}}, {ftp, []string{"x"}}, {ftp, row("250-a", "b", 19, "250 c")},
		{pop3, []string{"+OK a"}}, {pop3, []string{"+OK a", "b"}}, {pop3, []string{"x"}}, {pop3, []string{"+OK a", "b", strings.Repeat("x", 999)}},
	} {
		m := reply.New(x.proto)
		for _, s := range x.lines {
			if r, whole, _ := m.Line(s, true); r.Code != "" || len(r.Lines) != 0 || len(r.Body) != 0 || whole {
				t.Errorf("%d: %q of %q: %+v, %v", x.proto, s, x.lines, r, whole)
			}
		}
	}
	m := reply.New(pop3)
	for _, s := range []string{"+OK a", "secret", ".", "-ERR b", "+ c"} {
		if r, _, _ := m.Line(s, true); r.Code != "+" && len(r.Body) != 0 {
			t.Errorf("%q: a body is left: %+v", s, r)
		}
	}
}

// spoil changes a reply, and the room behind its lists, as who owns it may.
func spoil(r api.Reply) {
	for i := range r.Lines[:cap(r.Lines)] {
		r.Lines[:cap(r.Lines)][i] = "spoilt"
	}
	for i := range r.Body[:cap(r.Body)] {
		r.Body[:cap(r.Body)][i] ^= 255
	}
}

// R7: a reply is the caller's own: what he does to one shows in no other, nor in the maker.
func TestRepliesAreOnesOwn(t *testing.T) {
	for proto, lines := range map[int][]string{
		smtp: {"250-a", "250-b", "250 c", "220 d", "250-e", "250 f"},
		ftp:  {"250-a", "b", "250 c", "220 d", "250-e", "f", "g", "250 h"},
		pop3: {"+OK a", "b", "c", ".", "+OK d", "e", ".", "-ERR f", "+ g"},
	} {
		m, w := reply.New(proto), &model{proto: proto}
		var kept, copies []api.Reply
		for round := range 6 {
			for _, s := range lines {
				r, whole, _ := gives(t, m, w, s, true)
				if whole && round%2 == 0 {
					spoil(r)
				} else if whole {
					kept = append(kept, r)
					copies = append(copies, api.Reply{Code: r.Code, Lines: slices.Clone(r.Lines), Body: slices.Clone(r.Body)})
				}
			}
		}
		for i, r := range kept {
			if !same(r, copies[i]) {
				t.Errorf("%d: %+v was %+v", proto, r, copies[i])
			}
		}
	}
}

// R6: makers know nothing of each other: of many that are given lines by turns each tells what it would alone.
func TestMakersAreApart(t *testing.T) {
	rows := map[int][]string{smtp: {"250-a", "250-b", "250 c", "x", "250-d", "250 e"}, ftp: {"250-a", "b", "251 c", "250-d", "250 e", "x"}, pop3: {"+OK a", "b", "..", ".", "-ERR c", "+OK d"}}
	var makers []*reply.Maker
	var models []*model
	for _, proto := range []int{smtp, pop3, ftp, pop3, smtp, ftp} {
		makers = append(makers, reply.New(proto))
		models = append(models, &model{proto: proto})
	}
	for i := range 60 {
		for j, m := range makers {
			if lines := rows[models[j].proto]; (i+j)%3 != 0 { // so that those of one protocol are not in step
				gives(t, m, models[j], lines[i%len(lines)], true)
			}
		}
	}
}

// R1: a maker that New did not make is one of no protocol.
func TestMadeOfNothing(t *testing.T) {
	var m reply.Maker
	if m.Busy() {
		t.Error("busy")
	}
	for _, s := range []string{"250 a", "250-a", "+OK", "."} {
		if r, whole, fault := m.Line(s, true); !same(r, api.Reply{}) || whole || fault != bad || m.Busy() {
			t.Errorf("%q: %+v, %v, %d", s, r, whole, fault)
		}
	}
}

// R1: very long lines, and very many, end.
func TestVeryLong(t *testing.T) {
	const n = 1 << 20
	for _, s := range []string{"250-" + strings.Repeat("-", n), "250 " + strings.Repeat("a", n), "+OK " + strings.Repeat(" ", n), strings.Repeat("x", n), strings.Repeat(".", n)} {
		for _, proto := range []int{smtp, pop3, ftp} {
			holds(t, proto, []string{s, s, s, "250 a", ".", s}, never)
			holds(t, proto, []string{s, s, s, "250 a", ".", s}, always)
		}
	}
	for proto, x := range map[int]string{smtp: "250-a", ftp: "211-a", pop3: "+OK"} {
		m, w := reply.New(proto), &model{proto: proto}
		for range 1 << 14 {
			gives(t, m, w, x, true)
		}
	}
}
