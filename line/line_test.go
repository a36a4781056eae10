package line_test

import (
	"fmt"
	"math"
	"slices"
	"strings"
	"testing"

	"rejoinder/api"
	"rejoinder/line"
)

const (
	smtp = 1
	pop3 = 2
	ftp  = 3
)

// protos are all protocols, and numbers that are none.
var protos = []int{smtp, pop3, ftp, 0, -1, -2, -3, 4, 7, 1 << 32, 1<<32 + 1, 1<<32 + 2, math.MinInt, math.MaxInt}

// saidBy is P10.1 said word for word.
func saidBy(proto int, s string) (api.Status, bool) {
	switch {
	case proto == smtp || proto == ftp:
		if len(s) < 3 || !isDigit(s[0], '1', '5') || !isDigit(s[1], '0', '9') || !isDigit(s[2], '0', '9') {
			return api.Status{}, false
		}
		code := s[0:3]
		if len(s) == 3 {
			return api.Status{Code: code}, true
		}
		if s[3] == 32 {
			return api.Status{Code: code, Text: s[4:]}, true
		}
		if s[3] == 45 {
			return api.Status{Code: code, More: true, Text: s[4:]}, true
		}
	case proto == pop3:
		if s == "+OK" || strings.HasPrefix(s, "+OK ") {
			return api.Status{Code: "+", Text: behind(s, 4)}, true
		}
		if s == "-ERR" || strings.HasPrefix(s, "-ERR ") {
			return api.Status{Code: "-", Text: behind(s, 5)}, true
		}
		if s == "+" || strings.HasPrefix(s, "+ ") {
			return api.Status{Code: ">", Text: behind(s, 2)}, true
		}
	}
	return api.Status{}, false
}

func isDigit(c, least, most byte) bool { return least <= c && c <= most }

// behind is what stands behind the first n bytes, if there are so many.
func behind(s string, n int) string { return s[min(n, len(s)):] }

// isPattern is P10.2 of one pattern, said word for word.
func isPattern(proto int, s string) bool {
	switch {
	case proto == smtp || proto == ftp:
		if len(s) != 1 && len(s) != 2 && len(s) != 3 {
			return false
		}
		for i := range len(s) {
			if !isDigit(s[i], '0', '9') {
				return false
			}
		}
		return isDigit(s[0], '1', '5')
	case proto == pop3:
		return s == "+" || s == "-" || s == ">"
	}
	return false
}

// mayBe is P10.2 of Codes, said word for word: one pattern, or one, a comma, and more.
func mayBe(proto int, codes string) bool {
	for i := range len(codes) {
		if codes[i] == ',' {
			return isPattern(proto, codes[:i]) && mayBe(proto, codes[i+1:])
		}
	}
	return isPattern(proto, codes)
}

// matches is P10.2 of Match, said word for word.
func matches(codes, code string) bool {
	for _, part := range strings.Split(codes, ",") {
		if len(part) > 0 && len(part) <= len(code) && code[:len(part)] == part {
			return true
		}
	}
	return false
}

// holdsLine holds what a line says against the chapter's words, of all protocols and of others.
func holdsLine(t *testing.T, s string) {
	t.Helper()
	for _, proto := range protos {
		said, ok := line.Status(proto, s)
		want, wantOK := saidBy(proto, s)
		if said != want || ok != wantOK {
			t.Fatalf("Status(%d, %q) = %+v, %v, want %+v, %v", proto, s, said, ok, want, wantOK)
		}
	}
}

// holdsCodes holds whether patterns may be against the chapter's words, of all protocols and of others.
func holdsCodes(t *testing.T, codes string) {
	t.Helper()
	for _, proto := range protos {
		if got, want := line.Codes(proto, codes), mayBe(proto, codes); got != want {
			t.Fatalf("Codes(%d, %q) = %v, want %v", proto, codes, got, want)
		}
	}
}

// holdsMatch holds Match against the chapter's words.
func holdsMatch(t *testing.T, codes, code string) {
	t.Helper()
	if got, want := line.Match(codes, code), matches(codes, code); got != want {
		t.Fatalf("Match(%q, %q) = %v, want %v", codes, code, got, want)
	}
}

// each calls f with all texts of n of the letters.
func each(alphabet string, n int, f func(s string)) {
	if n == 0 {
		f("")
		return
	}
	each(alphabet, n-1, func(s string) {
		for i := range len(alphabet) {
			f(s + alphabet[i:i+1])
		}
	})
}

// everyByte is each byte once.
func everyByte() string {
	b := make([]byte, 256)
	for i := range b {
		b[i] = byte(i)
	}
	return string(b)
}

// P10.1: the chapter's example.
func TestExample(t *testing.T) {
	said, ok := line.Status(api.Smtp, "250-SIZE 9")
	if want := (api.Status{Code: "250", More: true, Text: "SIZE 9"}); said != want || !ok {
		t.Error(said, ok)
	}
}

// P10.1: by hand: lines of Smtp and Ftp that say something.
func TestNumbered(t *testing.T) {
	for _, x := range []struct {
		s, code string
		more    bool
		text    string
	}{
		{"220", "220", false, ""},
		{"220 ", "220", false, ""},
		{"220-", "220", true, ""},
		{"100 a", "100", false, "a"},
		{"199-a", "199", true, "a"},
		{"500 a", "500", false, "a"},
		{"599 a", "599", false, "a"},
		{"250 a b", "250", false, "a b"},
		{"250  a", "250", false, " a"},
		{"250 -a", "250", false, "-a"},
		{"250- a", "250", true, " a"},
		{"250--", "250", true, "-"},
		{"250  ", "250", false, " "},
		{"250 250-a", "250", false, "250-a"},
		{"250 \r\n", "250", false, "\r\n"},
		{"250-\x00\xff", "250", true, "\x00\xff"},
		{"250 \xc3\xa9", "250", false, "\xc3\xa9"},
	} {
		want := api.Status{Code: x.code, More: x.more, Text: x.text}
		for _, proto := range []int{smtp, ftp} {
			if said, ok := line.Status(proto, x.s); said != want || !ok {
				t.Errorf("Status(%d, %q) = %+v, %v, want %+v", proto, x.s, said, ok, want)
			}
		}
	}
}

// P10.1: by hand: lines of Smtp and Ftp that say nothing.
func TestNotNumbered(t *testing.T) {
	for _, s := range []string{
		"", "2", "25", "25 ", "25-a", "2 50", " 250 a", "-250", "050 a", "000", "600 a", "999", "/00", "650 a", "2x0 a", "25x a", "x50 a", "2/0", "2:0", "25/", "25:",
		"2500", "250x", "250\t", "250\r", "250\r\n", "250,a", "250+a", "250_a", "250\xa0a", "250\x00", "250\xe2\x80\x94a", "2,3", "2,3 a", "+OK", "-ERR", "+", "٢٥٠ a",
	} {
		for _, proto := range []int{smtp, ftp} {
			if said, ok := line.Status(proto, s); said != (api.Status{}) || ok {
				t.Errorf("Status(%d, %q) = %+v, %v", proto, s, said, ok)
			}
		}
	}
}

// P10.1: by hand: lines of Pop3 that say something.
func TestMarked(t *testing.T) {
	for _, x := range []struct{ s, code, text string }{
		{"+OK", "+", ""},
		{"+OK ", "+", ""},
		{"+OK a", "+", "a"},
		{"+OK  a ", "+", " a "},
		{"+OK +OK b", "+", "+OK b"},
		{"+OK -ERR", "+", "-ERR"},
		{"+OK -", "+", "-"},
		{"+OK \r\n", "+", "\r\n"},
		{"-ERR", "-", ""},
		{"-ERR ", "-", ""},
		{"-ERR no\x00\xff", "-", "no\x00\xff"},
		{"-ERR  ", "-", " "},
		{"+", ">", ""},
		{"+ ", ">", ""},
		{"+ x", ">", "x"},
		{"+  x", ">", " x"},
		{"+ OK", ">", "OK"},
		{"+ +", ">", "+"},
	} {
		want := api.Status{Code: x.code, Text: x.text}
		if said, ok := line.Status(pop3, x.s); said != want || !ok {
			t.Errorf("Status(2, %q) = %+v, %v, want %+v", x.s, said, ok, want)
		}
	}
}

// P10.1: by hand: lines of Pop3 that say nothing.
func TestNotMarked(t *testing.T) {
	for _, s := range []string{
		"", " ", "  ", " +OK", " +", "-", "- ", "- a", ">", "> a", "O", "OK", "OK a", "ERR", "-ER", "-ERR\t", "-ERRa", "-ERR-a", "-err", "-Err no", "-OK", "+ERR",
		"+O", "+OKa", "+OK-a", "+OK\ta", "+OK\r", "+OK\r\n", "+OKOK", "+ok", "+Ok a", "+oK", "+a", "++", "+-", "+\t", "+\x00", "250 ok", "250", "+OK\xa0a", "+\xc2\xa0a",
	} {
		if said, ok := line.Status(pop3, s); said != (api.Status{}) || ok {
			t.Errorf("Status(2, %q) = %+v, %v", s, said, ok)
		}
	}
}

// P10.1: of other protos no line says anything, and no codes may be.
func TestOtherProtos(t *testing.T) {
	for _, proto := range protos[3:] {
		for _, s := range []string{"", "250", "250 ok", "250-ok", "+OK", "+OK a", "-ERR", "+", "+ a", "2", "2,3", "-", ">"} {
			if said, ok := line.Status(proto, s); said != (api.Status{}) || ok || line.Codes(proto, s) {
				t.Errorf("%d, %q: %+v, %v", proto, s, said, ok)
			}
		}
	}
}

// P10.1: each code of three digits, each of its bytes any.
func TestEachCode(t *testing.T) {
	for n := range 1000 {
		code := fmt.Sprintf("%03d", n)
		for _, end := range []string{"", " ", "-", " a", "-a", "a", "0", "\t", ","} {
			holdsLine(t, code+end)
		}
		holdsCodes(t, code)
	}
	for c := range 256 {
		x := string([]byte{byte(c)})
		for _, s := range []string{x + "50 a", "2" + x + "0-a", "25" + x + " a", "250" + x, "250" + x + "a", "250 " + x, "250-" + x, x + "250 a", "1" + x + "9", "5" + x + "9", "19" + x, "59" + x} {
			holdsLine(t, s)
		}
	}
}

// P10.1: each byte, at each place of what Pop3 says, and behind it.
func TestEachByteOfMarks(t *testing.T) {
	for c := range 256 {
		x := string([]byte{byte(c)})
		for _, head := range []string{"+", "+OK", "-ERR", "-", ""} {
			for i := range len(head) {
				holdsLine(t, head[:i]+x+head[i+1:])
				holdsLine(t, head[:i]+x+head[i+1:]+" a")
				holdsLine(t, head[:i]+x+head[i:]+" a")
			}
			holdsLine(t, head+x)
			holdsLine(t, head+x+"a")
			holdsLine(t, head+" "+x)
			holdsLine(t, head+x+" a")
		}
	}
}

// P10.1, P10.3: all short lines of the bytes that count.
func TestAllShortLines(t *testing.T) {
	for n := range 6 {
		each("0156-a, ", n, func(s string) { holdsLine(t, s) })
		each("+-OKER ", n, func(s string) { holdsLine(t, s) })
	}
}

// P10.3: what a line says, it says again when it is written anew of what it said: its code, whether more follow and its text are in it once, and nothing else is.
func TestOneThing(t *testing.T) {
	heads := map[string]string{"+": "+OK", "-": "-ERR", ">": "+"}
	texts := []string{"", " ", "-", "a", " a", "-a", "+OK", "250 a", "\r\n", everyByte()}
	for _, text := range texts {
		for n := 100; n < 600; n++ {
			for sign, more := range map[string]bool{" ": false, "-": true} {
				code := fmt.Sprint(n)
				said, ok := line.Status(smtp, code+sign+text)
				if want := (api.Status{Code: code, More: more, Text: text}); said != want || !ok {
					t.Fatalf("%q: %+v, %v", code+sign+text, said, ok)
				}
			}
		}
		for code, head := range heads {
			said, ok := line.Status(pop3, head+" "+text)
			if want := (api.Status{Code: code, Text: text}); said != want || !ok {
				t.Fatalf("%q: %+v, %v", head+" "+text, said, ok)
			}
		}
	}
}

// P10.2: by hand: codes that may be, and codes that are none.
func TestCodes(t *testing.T) {
	for _, x := range []struct {
		codes          string
		numbers, marks bool
	}{
		{"1", true, false}, {"5", true, false}, {"0", false, false}, {"6", false, false}, {"9", false, false},
		{"10", true, false}, {"59", true, false}, {"05", false, false}, {"60", false, false},
		{"100", true, false}, {"599", true, false}, {"099", false, false}, {"600", false, false}, {"2500", false, false}, {"25000", false, false},
		{"2,3", true, false}, {"250,3,45", true, false}, {"2,2,2", true, false}, {"2,0", false, false}, {"0,2", false, false}, {"2,2500", false, false}, {"2,2,x", false, false}, {"x,2", false, false},
		{"", false, false}, {",", false, false}, {",2", false, false}, {"2,", false, false}, {"2,,3", false, false}, {",+", false, false}, {"+,", false, false}, {"+,,-", false, false},
		{" 2", false, false}, {"2 ", false, false}, {"2, 3", false, false}, {"2 ,3", false, false}, {"2;3", false, false}, {"2 3", false, false}, {"2.3", false, false},
		{"2a", false, false}, {"a2", false, false}, {"25a", false, false}, {"2a0", false, false}, {"2-", false, false}, {"-2", false, false}, {"2/", false, false}, {"2:", false, false}, {"25/", false, false}, {"25:", false, false}, {"/", false, false},
		{"+", false, true}, {"-", false, true}, {">", false, true}, {"+,-", false, true}, {">,-,+", false, true}, {"+,+", false, true},
		{"++", false, false}, {"+-", false, false}, {"<", false, false}, {"+OK", false, false}, {"-ERR", false, false}, {"+ ", false, false}, {"+, -", false, false}, {"+,2", false, false}, {"2,+", false, false}, {"+,x", false, false}, {"*", false, false}, {"\x00", false, false}, {"\xff", false, false},
	} {
		for proto, want := range map[int]bool{smtp: x.numbers, ftp: x.numbers, pop3: x.marks} {
			if got := line.Codes(proto, x.codes); got != want {
				t.Errorf("Codes(%d, %q) = %v", proto, x.codes, got)
			}
		}
	}
}

// P10.2: all short codes of the bytes that count, and each byte at each place.
func TestAllShortCodes(t *testing.T) {
	for n := range 7 {
		each("0256,x", n, func(s string) { holdsCodes(t, s) })
	}
	for n := range 6 {
		each("+->,2 ", n, func(s string) { holdsCodes(t, s) })
	}
	for c := range 256 {
		x := string([]byte{byte(c)})
		for _, s := range []string{x, x + x, "2" + x, x + "2", "25" + x, "2" + x + "0", x + "50", "250" + x, "2," + x, x + ",2", "2,3" + x, "2" + x + "3", "+" + x, x + "+", "+," + x, x + ",+", "+" + x + "-"} {
			holdsCodes(t, s)
		}
	}
}

// P10.2: by hand: a part of the codes begins the code, or none does.
func TestMatch(t *testing.T) {
	for _, x := range []struct {
		codes, code string
		want        bool
	}{
		{"2", "250", true}, {"25", "250", true}, {"250", "250", true}, {"251", "250", false}, {"5", "250", false}, {"50", "250", false}, {"0", "250", false}, {"2500", "250", false},
		{"2,3", "354", true}, {"3,2", "354", true}, {"2,33", "354", false}, {"4,35,5", "354", true}, {"4,53", "354", false},
		{"+", "+", true}, {"-", "+", false}, {">", ">", true}, {"+,-,>", "-", true}, {"+,>", "-", false},
		{"", "250", false}, {",", "250", false}, {",,", "250", false}, {",2", "250", true}, {"2,", "250", true}, {",,2,,", "250", true}, {",+", "+", true},
		{"", "", false}, {",", "", false}, {"2", "", false}, {"+", "", false}, {",", ",", false}, {"2,3", "2,3", true}, {"23", "2,3", false}, {"2,", ",", false}, {"3", "2,3", false},
		{" ", " ", true}, {"2, 3", "354", false}, {" 2", "250", false}, {"2 ", "250", false}, {"a", "abc", true}, {"A", "abc", false}, {"x,ab", "abc", true}, {"\x00", "\x00", true}, {"\xff", "\xffa", true}, {"\xc3", "\xc3\xa9", true},
	} {
		if got := line.Match(x.codes, x.code); got != x.want {
			t.Errorf("Match(%q, %q) = %v", x.codes, x.code, got)
		}
	}
}

// P10.2: all short codes against all short others, each byte too.
func TestAllShortMatches(t *testing.T) {
	for n := range 6 {
		each("25,", n, func(codes string) {
			for m := range 5 {
				each("25,", m, func(code string) { holdsMatch(t, codes, code) })
			}
		})
	}
	for c := range 256 {
		for d := range 256 {
			x, y := string([]byte{byte(c)}), string([]byte{byte(d)})
			holdsMatch(t, x, y)
			holdsMatch(t, "a,"+x, y+"b")
			holdsMatch(t, x+y, y+x)
		}
	}
}

// P10.3: who matches a pattern matches each that begins it, and each code that goes on behind its own.
func TestWhoBeginsMatches(t *testing.T) {
	for n := range 5 {
		each("0259", n, func(code string) {
			for m := range 5 {
				each("0259", m, func(pattern string) {
					if !line.Match(pattern, code) {
						return
					}
					for i := 1; i <= len(pattern); i++ {
						if !line.Match(pattern[:i], code) || !line.Match("x,"+pattern[:i], code+"9") {
							t.Fatalf("%q matches %q, and not %q", code, pattern, pattern[:i])
						}
					}
				})
			}
		})
	}
}

// P10.1, P10.2: each code that a line says is a pattern of its protocol, and matches itself.
func TestCodesOfLines(t *testing.T) {
	for proto, lines := range map[int][]string{smtp: {"100", "250 a", "599-a"}, ftp: {"150", "226-"}, pop3: {"+OK", "-ERR a", "+ a"}} {
		for _, s := range lines {
			said, ok := line.Status(proto, s)
			if !ok || !line.Codes(proto, said.Code) || !line.Match(said.Code, said.Code) || !line.Match("x,"+said.Code, said.Code) {
				t.Errorf("%d, %q: %+v", proto, s, said)
			}
		}
	}
}

// R1: very long lines and codes end.
func TestVeryLong(t *testing.T) {
	const n = 1 << 20
	for _, s := range []string{strings.Repeat("250 ", n), strings.Repeat("250-", n), strings.Repeat("+OK ", n), "+" + strings.Repeat(" ", n), strings.Repeat("2", n), strings.Repeat("-", n), strings.Repeat(" ", n), "-ERR " + strings.Repeat(everyByte(), n/256)} {
		holdsLine(t, s)
	}
	for proto, pattern := range map[int]string{smtp: "250", ftp: "1", pop3: ">"} {
		long := strings.Repeat(pattern+",", n)
		if line.Codes(proto, long) || !line.Codes(proto, long+pattern) || line.Codes(proto, long+pattern+"x") || line.Codes(proto, strings.Repeat(",", n)) {
			t.Errorf("%d: long codes", proto)
		}
		if line.Match(long, "4") || !line.Match(long+"4", "451") || line.Match(strings.Repeat(",", n), "250") {
			t.Errorf("%d: a long match", proto)
		}
	}
}

// R6: what is asked again is answered as it was, whatever else was asked.
func TestAskingChangesNothing(t *testing.T) {
	lines := []string{"250 ok", "250-ok", "+OK a", "-ERR b", "+ c", "+OK", "-ERR", "+", "250", "x", ""}
	for range 3 {
		for _, s := range slices.Concat(lines, []string{"2", "2,3", "+,-,>", ","}) {
			holdsLine(t, s)
			holdsCodes(t, s)
			holdsMatch(t, s, "250")
			holdsMatch(t, s, "+")
		}
	}
}
