package caps_test

import (
	"fmt"
	"math"
	"reflect"
	"slices"
	"strings"
	"testing"

	"rejoinder/api"
	"rejoinder/caps"
	"rejoinder/reply"
	"rejoinder/stuff"
)

const (
	smtp = 1
	pop3 = 2
	ftp  = 3
)

// others are numbers that are no protocol.
var others = []int{0, -1, -2, -3, 4, 7, 9, 1 << 32, 1<<32 + 1, 1<<32 + 2, 1<<32 + 3, math.MinInt, math.MaxInt}

// upper is a text in capitals, said byte by byte.
func upper(s string) string {
	b := []byte(s)
	for i, c := range b {
		if c >= 97 && c <= 122 {
			b[i] = c - 32
		}
	}
	return string(b)
}

// words are the words of a text, said byte by byte.
func words(s string) []string {
	var l []string
	word := ""
	for i := range len(s) + 1 {
		if i < len(s) && s[i] != 32 && s[i] != 9 {
			word += s[i : i+1]
		} else if word != "" {
			l = append(l, word)
			word = ""
		}
	}
	return l
}

// bodyLines are what stands between CRs with LFs, said byte by byte.
func bodyLines(body []byte) []string {
	l := []string{""}
	for i := 0; i < len(body); i++ {
		if body[i] == 13 && i+1 < len(body) && body[i+1] == 10 {
			l = append(l, "")
			i++
		} else {
			l[len(l)-1] += string(body[i : i+1])
		}
	}
	return l
}

// ofWant is P12.1 word for word.
func ofWant(proto int, r api.Reply) []api.Cap {
	var lines []string
	switch proto {
	case smtp, ftp:
		for i, s := range r.Lines {
			if i > 0 && (proto == smtp || i < len(r.Lines)-1) {
				lines = append(lines, s)
			}
		}
	case pop3:
		lines = bodyLines(r.Body)
	}
	var l []api.Cap
	for _, s := range lines {
		if w := words(upper(s)); len(w) > 0 {
			l = append(l, api.Cap{Name: w[0], Args: w[1:]})
		}
	}
	return l
}

// hasWant is P12.2 word for word.
func hasWant(l []api.Cap, want string) bool {
	w := words(upper(want))
	if len(w) == 0 {
		return false
	}
next:
	for _, c := range l {
		if c.Name != w[0] {
			continue
		}
		for _, other := range w[1:] {
			there := false
			for _, a := range c.Args {
				there = there || a == other
			}
			if !there {
				continue next
			}
		}
		return true
	}
	return false
}

// same tells whether two lists are alike: one that is empty may be nil.
func same(a, b []api.Cap) bool {
	return slices.EqualFunc(a, b, func(x, y api.Cap) bool { return x.Name == y.Name && slices.Equal(x.Args, y.Args) })
}

// list is caps as their words, `AUTH plain` as one of the name AUTH.
func list(lines ...string) []api.Cap {
	var l []api.Cap
	for _, s := range lines {
		w := strings.Split(s, " ")
		l = append(l, api.Cap{Name: w[0], Args: w[1:]})
	}
	return l
}

// ofs holds Of against the chapter's words.
func ofs(t *testing.T, proto int, r api.Reply) []api.Cap {
	t.Helper()
	got := caps.Of(proto, r)
	if want := ofWant(proto, r); !same(got, want) {
		t.Fatalf("Of(%d, %q, %q) = %q, want %q", proto, r.Lines, r.Body, got, want)
	}
	return got
}

// has holds Has against the chapter's words.
func has(t *testing.T, l []api.Cap, want string) bool {
	t.Helper()
	got := caps.Has(l, want)
	if got != hasWant(l, want) {
		t.Fatalf("Has(%q, %q) = %v", l, want, got)
	}
	return got
}

// saying are a reply of each protocol that says these lines as what the server can; the body is of Pop3 alone.
func saying(lines ...string) map[int]api.Reply {
	return map[int]api.Reply{
		smtp: {Code: "250", Lines: slices.Concat([]string{"me first"}, lines)},
		ftp:  {Code: "211", Lines: slices.Concat([]string{"me first"}, lines, []string{"me last"})},
		pop3: {Code: "+", Lines: []string{"me first", "me second", "me last"}, Body: []byte(strings.Join(append(slices.Clone(lines), ""), "\r\n"))},
	}
}

// each calls f with all texts of n of the letters.
func each(alphabet string, n int, f func(s string)) {
	if n == 0 {
		f("")
		return
	}
	each(alphabet, n-1, func(s string) {
		for i := range len(alphabet) {
			f(s + alphabet[i:i+1])
		}
	})
}

// eachRow calls f with all rows of n of the parts.
func eachRow[T any](parts []T, n int, f func(row []T)) {
	if n == 0 {
		f(nil)
		return
	}
	eachRow(parts, n-1, func(row []T) {
		for _, p := range parts {
			f(append(row[:len(row):len(row)], p))
		}
	})
}

// P12.1, P12.2: the chapter's example.
func TestExample(t *testing.T) {
	l := caps.Of(smtp, api.Reply{Code: "250", Lines: []string{"me", "AUTH plain LOGIN"}})
	if !same(l, list("AUTH PLAIN LOGIN")) {
		t.Errorf("%q", l)
	}
	for want, ok := range map[string]bool{"auth login": true, "AUTH cram-md5": false} {
		if caps.Has(l, want) != ok {
			t.Errorf("%q: %v", want, !ok)
		}
	}
}

// P12.1: of each protocol by examples: which lines there are, and what they say.
func TestOf(t *testing.T) {
	for _, x := range []struct {
		lines []string
		want  []api.Cap
	}{
		{nil, nil},
		{[]string{""}, nil},
		{[]string{" ", "\t", " \t "}, nil},
		{[]string{"pipelining"}, list("PIPELINING")},
		{[]string{"size 9", "", "PIPELINING"}, list("SIZE 9", "PIPELINING")},
		{[]string{" MDTM", " REST STREAM", " EPSV"}, list("MDTM", "REST STREAM", "EPSV")},
		{[]string{"  auth \t plain\tLOGIN  "}, list("AUTH PLAIN LOGIN")},
		{[]string{"b", "a", "c", "a"}, list("B", "A", "C", "A")},
		{[]string{"auth z", "auth y x z z"}, list("AUTH Z", "AUTH Y X Z Z")},
		{[]string{"me first", "me last"}, list("ME FIRST", "ME LAST")},
		{[]string{"211-a b", "250 c"}, list("211-A B", "250 C")},
		{[]string{"auth=plain,login"}, list("AUTH=PLAIN,LOGIN")},
		{[]string{"caf\xc3\xa9 \xc3\x89 \xff", "\u00a0x\u2003y"}, list("CAF\xc3\xa9 \xc3\x89 \xff", "\u00a0X\u2003Y")},
	} {
		for proto, r := range saying(x.lines...) {
			if got := ofs(t, proto, r); !same(got, x.want) {
				t.Errorf("%d: %q: %q, want %q", proto, x.lines, got, x.want)
			}
		}
	}
}

// P12.1: Smtp has all of Lines but the first, Ftp but the first and the last, however many there are; neither has Body. Pop3 has none of Lines.
func TestOfHowMany(t *testing.T) {
	for n := range 40 {
		var lines []string
		for i := range n {
			lines = append(lines, fmt.Sprintf("cap%d x%d", i, i))
		}
		r := api.Reply{Code: "1", Lines: lines, Body: []byte("body\r\n")}
		for proto, want := range map[int]int{smtp: max(n-1, 0), ftp: max(n-2, 0), pop3: 1} {
			l := ofs(t, proto, r)
			if len(l) != want {
				t.Fatalf("%d: %d lines say %d", proto, n, len(l))
			}
			for i, c := range l {
				if name := fmt.Sprintf("CAP%d", i+1); proto != pop3 && (c.Name != name || !slices.Equal(c.Args, []string{fmt.Sprintf("X%d", i+1)})) {
					t.Fatalf("%d: %d: %q", proto, i, c)
				}
			}
		}
		r.Body = nil
		if l := ofs(t, pop3, r); len(l) != 0 {
			t.Fatalf("no body: %q", l)
		}
	}
}

// P12.1: the code of the reply does not matter.
func TestOfAnyCode(t *testing.T) {
	for proto, r := range saying("auth plain") {
		for _, code := range []string{"", "250", "211", "500", "+", "-", ">", "x"} {
			r.Code = code
			if l := ofs(t, proto, r); !same(l, list("AUTH PLAIN")) {
				t.Errorf("%d: %s: %q", proto, code, l)
			}
		}
	}
}

// P12.1: of other protos none, whatever the reply has.
func TestOfOthers(t *testing.T) {
	for _, proto := range others {
		for _, r := range append([]api.Reply{{}, {Code: "250", Lines: []string{"a", "b", "c", "d"}, Body: []byte("e\r\nf\r\n")}}, saying("auth plain")[smtp], saying("auth plain")[pop3]) {
			if l := ofs(t, proto, r); len(l) != 0 {
				t.Errorf("%d: %q", proto, l)
			}
		}
	}
}

// P12.1: lines of Pop3 end with a CR and an LF, and with nothing else; what stands behind the last of these is a line, too.
func TestOfBodies(t *testing.T) {
	for body, want := range map[string][]api.Cap{
		"":                                      nil,
		"\r\n":                                  nil,
		"\r\n\r\n":                              nil,
		"uidl\r\n":                              list("UIDL"),
		"uidl":                                  list("UIDL"),
		"uidl\r\nsasl plain":                    list("UIDL", "SASL PLAIN"),
		"\r\n\r\nuidl\r\n\r\n \r\nsasl a b\r\n": list("UIDL", "SASL A B"),
		"a\nb\r\n":                              list("A\nB"),
		"a\rb\r\n":                              list("A\rB"),
		"a\n\rb\r\n":                            list("A\n\rB"),
		"a\r\r\nb\r\n":                          list("A\r", "B"),
		"a\r\n\nb\r\n":                          list("A", "\nB"),
		"a \r \n b\r\n":                         list("A \r \n B"),
		"a\r":                                   list("A\r"),
		"a\n":                                   list("A\n"),
		"\r":                                    list("\r"),
		"\n":                                    list("\n"),
		".\r\n..a\r\n":                          list(".", "..A"),
		"top\tx  y\r\n uidl":                    list("TOP X Y", "UIDL"),
	} {
		if got := ofs(t, pop3, api.Reply{Body: []byte(body)}); !same(got, want) {
			t.Errorf("%q: %q, want %q", body, got, want)
		}
	}
	for n := range 8 {
		each("a \r\n", n, func(s string) { ofs(t, pop3, api.Reply{Body: []byte(s)}) })
	}
	for n := range 6 {
		each("bZ\t\r\n.", n, func(s string) { ofs(t, pop3, api.Reply{Body: []byte(s)}) })
	}
}

// P12.1: a CR with an LF in a line of Smtp or Ftp parts nothing.
func TestOfLinesWithEnds(t *testing.T) {
	for _, proto := range []int{smtp, ftp} {
		if l := ofs(t, proto, saying("a\r\nb c")[proto]); !same(l, list("A\r\nB C")) {
			t.Errorf("%d: %q", proto, l)
		}
	}
}

// P12.1: each byte, alone, between, ahead of and behind others, in each protocol: a blank and a tab part words, a to z are put in capitals, all others are as they are.
func TestOfEachByte(t *testing.T) {
	for c := range 256 {
		b := string([]byte{byte(c)})
		for _, s := range []string{b, "x" + b, b + "x", "x" + b + "y", "x " + b + " y", b + b, "x" + b + b + "y", "x y" + b + "z"} {
			for proto, r := range saying(s, "next") {
				ofs(t, proto, r)
			}
		}
	}
}

// P12.1: all short lines, and all short rows of lines.
func TestOfAllShort(t *testing.T) {
	for n := range 7 {
		each("aB \t", n, func(s string) {
			for proto, r := range saying(s, "c") {
				ofs(t, proto, r)
			}
		})
	}
	for n := range 6 {
		eachRow([]string{"", " ", "a", " a B", "b\ta"}, n, func(row []string) {
			for _, proto := range []int{smtp, ftp, pop3, 0} {
				ofs(t, proto, api.Reply{Lines: row, Body: []byte(strings.Join(row, "\r\n"))})
			}
		})
	}
}

// P12.2: by examples: there, and not there.
func TestHas(t *testing.T) {
	l := list("SIZE 9", "AUTH PLAIN LOGIN", "AUTH CRAM-MD5", "PIPELINING", "X Y Y Z", "STARTTLS")
	for want, ok := range map[string]bool{
		"":                     false,
		" ":                    false,
		" \t\t ":               false,
		"size":                 true,
		"SIZE 9":               true,
		"size 10":              false,
		"9":                    false,
		"size size":            false,
		"size 9 9":             true,
		"auth":                 true,
		"auth plain":           true,
		"auth login":           true,
		"auth login plain":     true,
		"auth plain login":     true,
		"auth cram-md5":        true,
		"auth plain cram-md5":  false,
		"auth login gssapi":    false,
		"auth gssapi login":    false,
		"auth auth":            false,
		"plain":                false,
		"plain login":          false,
		"login auth":           false,
		"aut":                  false,
		"authx":                false,
		"uth":                  false,
		"auth plai":            false,
		"auth plainx":          false,
		"auth lain":            false,
		"authplain":            false,
		"auth=plain":           false,
		"auth,plain":           false,
		"pipelining":           true,
		"pipelining size":      false,
		"\tPipeLining ":        true,
		"x z y":                true,
		"x y z y z":            true,
		"x y z w":              false,
		"starttls":             true,
		"starttls\r\n":         false,
		"size\n9":              false,
		"  auth\t\tlogin \t":   true,
		"auth\u00a0login":      false,
		"\u017fize":            false, // a long s is no s
		"auth cram-md5 plain ": false,
	} {
		if has(t, l, want) != ok {
			t.Errorf("%q: %v", want, !ok)
		}
		if caps.Has(nil, want) || caps.Has([]api.Cap{}, want) || caps.Has([]api.Cap{{}}, want) {
			t.Errorf("%q of none", want)
		}
	}
}

// P12.2: each place of the list is as good as each other, and each place of the words.
func TestHasAnywhere(t *testing.T) {
	const n = 30
	var lines, args []string
	for i := range n {
		args = append(args, fmt.Sprintf("ARG%d", i))
	}
	for i := range n {
		lines = append(lines, fmt.Sprintf("CAP%d %s", i, strings.Join(args[:i], " ")))
	}
	l := list(lines...)
	for i := range n {
		for j := range n {
			if want := fmt.Sprintf("cap%d arg%d", i, j); has(t, l, want) != (j < i) {
				t.Errorf("%s: %v", want, j >= i)
			}
			back := slices.Clone(args[:j])
			slices.Reverse(back)
			if want := fmt.Sprintf("cap%d %s", i, strings.Join(back, " ")); has(t, l, want) != (j <= i) {
				t.Errorf("%s: %v", want, j > i)
			}
		}
	}
}

// P12.2: the words of all are in one of the list: what is in two of them is not put together.
func TestHasAllShort(t *testing.T) {
	var wants []string
	for n := range 5 {
		each("ab ", n, func(s string) { wants = append(wants, s) })
	}
	wants = append(wants, "A b", "a A b", "B\ta", "b a B")
	parts := []api.Cap{{}, {Name: "A"}, {Name: "B"}, {Name: "A", Args: []string{"A"}}, {Name: "A", Args: []string{"B"}}, {Name: "B", Args: []string{"A", "B"}}, {Name: "AB", Args: []string{""}}, {Name: "A B"}}
	for n := range 4 {
		eachRow(parts, n, func(row []api.Cap) {
			for _, want := range wants {
				has(t, row, want)
			}
		})
	}
}

// P12.2: names and words in the list are held as they are against those of want in capitals; Of makes none that are not in capitals.
func TestHasAsItIs(t *testing.T) {
	l := []api.Cap{{Name: "auth", Args: []string{"PLAIN"}}, {Name: "SASL", Args: []string{"plain", "", "A B"}}, {Name: ""}, {Name: "A B"}}
	for want, ok := range map[string]bool{"auth": false, "AUTH plain": false, "sasl": true, "sasl plain": false, "SASL PLAIN": false, "sasl a b": false, "a b": false, "a": false, "": false, " ": false} {
		if has(t, l, want) != ok {
			t.Errorf("%q: %v", want, !ok)
		}
	}
}

// P12.2: each byte in want, as a word and within one.
func TestHasEachByte(t *testing.T) {
	var l []api.Cap
	for c := range 256 {
		b := upper(string([]byte{byte(c)}))
		l = append(l, api.Cap{Name: "X" + b, Args: []string{b, "Y" + b}})
	}
	for c := range 256 {
		b := string([]byte{byte(c)})
		for _, want := range []string{b, "x" + b, "x" + b + " " + b, "x" + b + " y" + b, "x" + b + " z" + b, "xa" + b + "a", "xa" + b + "ya", "x" + b + "\ty" + b + " " + b} {
			has(t, l, want)
		}
		if want := "x" + b + " y" + b; c != ' ' && c != '\t' && !caps.Has(l, want) {
			t.Errorf("%q", want)
		}
	}
}

// P12.3: capitals in a reply, and in what is wanted, do not matter; nor does how many blanks there are, or tabs in their stead.
func TestCapitalsAndBlanks(t *testing.T) {
	forms := []func(string) string{
		upper,
		strings.ToLower,
		func(s string) string { return "  " + strings.ReplaceAll(s, " ", "   ") + " " },
		func(s string) string { return "\t" + strings.ReplaceAll(s, " ", " \t ") + "\t\t" },
		func(s string) string {
			b := []byte(s)
			for i := 0; i < len(b); i += 2 {
				b[i] = upper(s[i : i+1])[0]
			}
			return string(b)
		},
	}
	lines := []string{"auth plain login", "size 9", "pipelining", "sasl cram-md5", "Rest Stream"}
	for want, ok := range map[string]bool{"auth": true, "auth login": true, "auth login plain": true, "auth gssapi": false, "size 9": true, "size 8": false, "pipelining": true, "sasl cram-md5": true, "rest stream": true, "stream": false, "me": false} {
		for _, form := range forms {
			var formed []string
			for _, s := range lines {
				formed = append(formed, form(s))
			}
			for proto, r := range saying(formed...) {
				l := ofs(t, proto, r)
				if !same(l, caps.Of(proto, saying(lines...)[proto])) {
					t.Fatalf("%d: %q say %q", proto, formed, l)
				}
				for _, f := range forms {
					if has(t, l, f(want)) != ok {
						t.Errorf("%d: %q of %q: %v", proto, f(want), formed, !ok)
					}
				}
			}
		}
	}
}

// P12.1, P12.2: what the replies of layer 11 say, with the lines as they came.
func TestOfReplies(t *testing.T) {
	for proto, lines := range map[int][]string{
		smtp: {"250-me", "250-AUTH plain LOGIN", "250-", "250 PIPELINING"},
		ftp:  {"211-auth", " AUTH PLAIN login", "", "211-x", "\tPIPELINING", "211 end"},
		pop3: {"+OK me", "auth LOGIN plain", "", "..x", "pipelining", "."},
	} {
		m := reply.New(proto)
		for i, s := range lines {
			r, whole, fault := m.Line(s, true)
			if fault != 0 || whole != (i == len(lines)-1) {
				t.Fatalf("%d: %q: %v, %d", proto, s, whole, fault)
			}
			if !whole {
				continue
			}
			l := ofs(t, proto, r)
			for want, ok := range map[string]bool{"auth plain login": true, "pipelining": true, "me": false, "end": false, "auth": true, "211-x": proto == ftp, ".x": proto == pop3} {
				if has(t, l, want) != ok {
					t.Errorf("%d: %q: %v", proto, want, !ok)
				}
			}
		}
	}
	body := stuff.Whole([]byte("uidl\r\nsasl plain"))
	if l := ofs(t, pop3, api.Reply{Body: body}); !same(l, list("UIDL", "SASL PLAIN")) {
		t.Errorf("%q", l)
	}
}

// R5: a cap without other words has none, and a name is never empty.
func TestNoArgs(t *testing.T) {
	for proto, r := range saying("a", " b ", "c d", "e", "\t") {
		for _, c := range ofs(t, proto, r) {
			if c.Name == "" || (len(c.Args) != 0) != (c.Name == "C") {
				t.Errorf("%d: %+v", proto, c)
			}
		}
	}
}

// R6, R7: neither a reply, nor a list, nor the room behind them, is changed, and what is answered does not change with them; the same is answered again.
func TestGivenIsLeft(t *testing.T) {
	for _, proto := range []int{smtp, pop3, ftp, 0} {
		lines := append(make([]string, 0, 20), "me", "auth Plain login", "size 9", "last")
		body := append(make([]byte, 0, 100), "auth Plain login\r\nsize 9\r\n"...)
		behind := lines[:cap(lines)]
		for i := range behind[len(lines):] {
			behind[len(lines)+i] = "behind me"
		}
		wholeBody := body[:cap(body)]
		for i := range wholeBody[len(body):] {
			wholeBody[len(body)+i] = 'b'
		}
		copyLines, copyBody := slices.Clone(behind), slices.Clone(wholeBody)
		r := api.Reply{Code: "250", Lines: lines, Body: body}
		want := ofWant(proto, r)
		l := ofs(t, proto, r)
		again := ofs(t, proto, r)
		if !slices.Equal(behind, copyLines) || !slices.Equal(wholeBody, copyBody) || r.Code != "250" {
			t.Fatalf("%d: the reply is changed: %q, %q", proto, behind, wholeBody)
		}
		for i := range behind {
			behind[i] = "spoilt"
		}
		for i := range wholeBody {
			wholeBody[i] ^= 255
		}
		if !same(l, want) || !same(again, want) {
			t.Errorf("%d: %q, want %q", proto, l, want)
		}
	}
}

// R7: each list that is answered is the caller's own: what he does to one, and to the room behind it, shows in no other, nor in the next answer.
func TestAnswersAreOnesOwn(t *testing.T) {
	var lines []string
	for n := range 12 {
		lines = append(lines, "c"+strings.Repeat(" x", n))
	}
	for proto, r := range saying(lines...) {
		want := ofWant(proto, r)
		for k := range want {
			l := ofs(t, proto, r)
			room := l[k].Args[:cap(l[k].Args)]
			for i := range room {
				room[i] = "SPOILT"
			}
			l[k] = api.Cap{Name: "SPOILT"}
			spare := l[len(l):cap(l)]
			for i := range spare {
				spare[i] = api.Cap{Name: "SPOILT", Args: []string{"SPOILT"}}
			}
			for i := range want {
				if i != k && !same(l[i:i+1], want[i:i+1]) {
					t.Fatalf("%d: %d shows in %d: %q", proto, k, i, l[i])
				}
			}
		}
		ofs(t, proto, r)
	}
}

// R6, R7: Has leaves its list as it is, with the room behind it, and reads nothing there.
func TestHasLeavesItsList(t *testing.T) {
	args := append(make([]string, 0, 4), "PLAIN", "LOGIN", "BEHIND")[:2]
	l := append(make([]api.Cap, 0, 4), api.Cap{Name: "SIZE"}, api.Cap{Name: "AUTH", Args: args}, api.Cap{Name: "BEHIND"})[:2]
	deep := func() []api.Cap {
		c := slices.Clone(l[:cap(l)])
		for i := range c {
			c[i].Args = slices.Clone(c[i].Args[:cap(c[i].Args)])
		}
		return c
	}
	ahead := deep()
	for range 3 {
		for want, ok := range map[string]bool{"auth login plain": true, "auth behind": false, "behind": false, "size": true, "size plain": false, "": false} {
			if has(t, l, want) != ok {
				t.Errorf("%q: %v", want, !ok)
			}
		}
	}
	if !reflect.DeepEqual(deep(), ahead) {
		t.Errorf("changed: %q, was %q", deep(), ahead)
	}
}

// R1: nothing at all, very many lines and very long ones end.
func TestGreat(t *testing.T) {
	for _, proto := range append([]int{smtp, pop3, ftp}, others...) {
		if l := caps.Of(proto, api.Reply{}); len(l) != 0 {
			t.Errorf("%d: %q", proto, l)
		}
	}
	const n = 1 << 18
	for proto, r := range saying(slices.Repeat([]string{"ab c"}, n)...) {
		if l := caps.Of(proto, r); len(l) != n || !same(l[n-1:], list("AB C")) || caps.Has(l, "ab d") || !caps.Has(l, "ab c") {
			t.Errorf("%d: %d", proto, len(l))
		}
	}
	for proto, r := range saying(strings.Repeat("x", n), strings.Repeat(" \t", n), strings.Repeat("y ", n)) {
		l := caps.Of(proto, r)
		if len(l) != 2 || len(l[0].Name) != n || len(l[1].Args) != n-1 || !caps.Has(l, strings.Repeat("X", n)) || caps.Has(l, strings.Repeat("x", n+1)) || !caps.Has(l, strings.Repeat(" y", n)) || caps.Has(l, strings.Repeat(" \t", n)) {
			t.Errorf("%d: %d", proto, len(l))
		}
	}
}
