package lex_test

import (
	"regexp"
	"slices"
	"strings"
	"testing"

	"rejoinder/api"
	"rejoinder/lex"
)

// What a kind of token may be where it begins, however long it is; a text up to the mark that has no `\` of its own ahead of it.
var (
	aName = regexp.MustCompile(`^[a-z][a-z0-9_]*`)
	anInt = regexp.MustCompile(`^[0-9]+`)
	aText = regexp.MustCompile(`^(?s)"([^"\\]|\\.)*"`)
	aSign = regexp.MustCompile(`^[{};=]`)
)

// Each `\` that may be, with the one behind it, and that for which both stand.
var (
	turned = []string{`\\`, `\"`, `\n`, `\r`, `\t`}
	meant  = []string{"\\", "\"", "\n", "\r", "\t"}
)

// allPlain tells whether each byte is 32 to 126.
func allPlain(s string) bool {
	for i := range len(s) {
		if s[i] < 32 || s[i] > 126 {
			return false
		}
	}
	return true
}

// pairs are a text's bytes, but each `\` together with the one behind it.
func pairs(s string) []string {
	var l []string
	for s != "" {
		n := 1
		if s[0] == 92 {
			n = min(2, len(s))
		}
		l = append(l, s[:n])
		s = s[n:]
	}
	return l
}

// between is that for which what is between two marks stands, if it may be.
func between(s string) (string, bool) {
	out := ""
	for _, p := range pairs(s) {
		if at := slices.Index(turned, p); at >= 0 {
			out += meant[at]
		} else if p[0] != 92 && allPlain(p) {
			out += p
		} else {
			return "", false
		}
	}
	return out, len(out) <= 100
}

// oneWant is the token that s begins with, and how many bytes it has.
func oneWant(s string) (api.Token, int, api.Errno) {
	if n := len(aName.FindString(s)); n > 12 {
		return api.Token{}, 0, 13
	} else if n > 0 {
		return api.Token{Kind: 1, Text: s[:n]}, n, 0
	}
	if n := len(anInt.FindString(s)); n > 9 {
		return api.Token{}, 0, 12
	} else if n > 0 {
		return api.Token{Kind: 2, Text: s[:n]}, n, 0
	}
	if s[0] == 34 {
		whole := aText.FindString(s)
		if whole == "" {
			return api.Token{}, 0, 11
		}
		text, ok := between(whole[1 : len(whole)-1])
		if !ok {
			return api.Token{}, 0, 11
		}
		return api.Token{Kind: 3, Text: text}, len(whole), 0
	}
	if aSign.MatchString(s) {
		return api.Token{Kind: 4, Text: s[:1]}, 1, 0
	}
	return api.Token{}, 0, 10
}

// allWant is P14.1 and P14.2 word for word.
func allWant(src string) ([]api.Token, int, api.Errno) {
	if len(src) > 2000 {
		return nil, 0, 4
	}
	var l []api.Token
	remark := false
	for at := 0; at < len(src); {
		c := src[at]
		remark = (remark || c == 35) && c != 10
		if remark || c == 32 || c == 9 || c == 10 || c == 13 {
			at++
			continue
		}
		token, n, fault := oneWant(src[at:])
		if fault != 0 {
			return nil, at, fault
		}
		token.At = at
		l = append(l, token)
		if len(l) > 400 {
			return nil, 0, 4
		}
		at += n
	}
	return append(l, api.Token{At: len(src)}), 0, 0
}

// quoteWant is P14.3 word for word.
func quoteWant(s string) (string, bool) {
	out := "\""
	for i := range len(s) {
		one := s[i : i+1]
		if at := slices.Index(meant, one); at >= 0 {
			one = turned[at]
		} else if !allPlain(one) {
			return "", false
		}
		out += one
	}
	return out + "\"", len(s) <= 100
}

// all holds All against the chapter's words; with an error, and without, what is not told is zero.
func all(t *testing.T, src string) ([]api.Token, int, api.Errno) {
	t.Helper()
	l, at, fault := lex.All(src)
	want, place, is := allWant(src)
	if !slices.Equal(l, want) || at != place || fault != is {
		t.Fatalf("All(%.300q) = %v, %d, %d, want %v, %d, %d", src, l, at, fault, want, place, is)
	}
	if (fault == 0) != (len(l) > 0) || fault == 0 && at != 0 {
		t.Fatalf("All(%.300q) = %v, %d, %d", src, l, at, fault)
	}
	return l, at, fault
}

// tokens are those of a source that has no fault, but the last one.
func tokens(t *testing.T, src string) []api.Token {
	t.Helper()
	l, _, fault := all(t, src)
	if fault != 0 || l[len(l)-1] != (api.Token{At: len(src)}) {
		t.Fatalf("All(%.300q) = %v, %d", src, l, fault)
	}
	return l[:len(l)-1]
}

// wrong holds that a source has this fault at this place.
func wrong(t *testing.T, src string, at int, fault api.Errno) {
	t.Helper()
	if l, place, is := all(t, src); len(l) != 0 || place != at || is != fault {
		t.Fatalf("All(%.300q) = %v, %d, %d, want none, %d, %d", src, l, place, is, at, fault)
	}
}

// quote holds Quote against the chapter's words.
func quote(t *testing.T, s string) (string, bool) {
	t.Helper()
	q, ok := lex.Quote(s)
	want, is := quoteWant(s)
	if !is {
		want = ""
	}
	if q != want || ok != is {
		t.Fatalf("Quote(%.200q) = %q, %v, want %q, %v", s, q, ok, want, is)
	}
	return q, ok
}

// token is one of a kind; it stands for itself, but for a text.
type token struct {
	kind       int
	said, text string
}

// some are tokens of each kind that need something between them, or do not.
var some = []token{{1, "a", "a"}, {1, "let_0", "let_0"}, {2, "0", "0"}, {2, "09", "09"}, {3, `""`, ""}, {3, `"a\"b"`, `a"b`}, {3, `"\\"`, `\`}, {3, `"#;"`, "#;"}, {4, "{", "{"}, {4, "}", "}"}, {4, ";", ";"}, {4, "=", "="}}

// each calls f with all texts of n of the letters.
func each(alphabet string, n int, f func(s string)) {
	if n == 0 {
		f("")
		return
	}
	each(alphabet, n-1, func(s string) {
		for i := range len(alphabet) {
			f(s + alphabet[i:i+1])
		}
	})
}

// nearby calls f with a text, and with each in which one byte is put in, left out, or in the stead of another.
func nearby(s string, f func(s string)) {
	f(s)
	for i := range len(s) + 1 {
		for c := range 256 {
			b := string([]byte{byte(c)})
			f(s[:i] + b + s[i:])
			if i < len(s) {
				f(s[:i] + b + s[i+1:])
			}
		}
		if i < len(s) {
			f(s[:i] + s[i+1:])
			f(s[:i])
		}
	}
}

// P14.1, P14.2: the chapter's example.
func TestExample(t *testing.T) {
	want := []api.Token{{Kind: api.TkName, Text: "let"}, {Kind: api.TkName, Text: "a", At: 4}, {Kind: api.TkSign, Text: "=", At: 6}, {Kind: api.TkText, Text: "x", At: 8}, {Kind: api.TkSign, Text: ";", At: 11}, {Kind: api.TkEnd, At: 12}}
	if l, at, fault := lex.All(`let a = "x";`); !slices.Equal(l, want) || at != 0 || fault != api.OK {
		t.Errorf("%v, %d, %d", l, at, fault)
	}
}

// P14.1, P14.2: which tokens there are, and where, by examples.
func TestAll(t *testing.T) {
	for src, want := range map[string][]api.Token{
		"":                           nil,
		" \t\r\n":                    nil,
		"#":                          nil,
		"# a \" \x00":                nil,
		"a":                          {{Kind: 1, Text: "a"}},
		"z9_":                        {{Kind: 1, Text: "z9_"}},
		"a__0_":                      {{Kind: 1, Text: "a__0_"}},
		"ab cd":                      {{Kind: 1, Text: "ab"}, {Kind: 1, Text: "cd", At: 3}},
		"ab#cd\nef":                  {{Kind: 1, Text: "ab"}, {Kind: 1, Text: "ef", At: 6}},
		"ab#cd\ref":                  {{Kind: 1, Text: "ab"}},
		"ab\rcd":                     {{Kind: 1, Text: "ab"}, {Kind: 1, Text: "cd", At: 3}},
		"0":                          {{Kind: 2, Text: "0"}},
		"007":                        {{Kind: 2, Text: "007"}},
		"12ab":                       {{Kind: 2, Text: "12"}, {Kind: 1, Text: "ab", At: 2}},
		"ab12":                       {{Kind: 1, Text: "ab12"}},
		"1 2":                        {{Kind: 2, Text: "1"}, {Kind: 2, Text: "2", At: 2}},
		"123456789 0":                {{Kind: 2, Text: "123456789"}, {Kind: 2, Text: "0", At: 10}},
		"abcdefghijkl m":             {{Kind: 1, Text: "abcdefghijkl"}, {Kind: 1, Text: "m", At: 13}},
		`""`:                         {{Kind: 3}},
		`""""`:                       {{Kind: 3}, {Kind: 3, At: 2}},
		`"a""b"`:                     {{Kind: 3, Text: "a"}, {Kind: 3, Text: "b", At: 3}},
		`"a"b"c"`:                    {{Kind: 3, Text: "a"}, {Kind: 1, Text: "b", At: 3}, {Kind: 3, Text: "c", At: 4}},
		`"\\"`:                       {{Kind: 3, Text: `\`}},
		`"\""`:                       {{Kind: 3, Text: `"`}},
		`"\\\""`:                     {{Kind: 3, Text: `\"`}},
		`"\\n"`:                      {{Kind: 3, Text: `\n`}},
		`"\n\r\t"`:                   {{Kind: 3, Text: "\n\r\t"}},
		`"nrt"`:                      {{Kind: 3, Text: "nrt"}},
		`"#{};= _A~$"`:               {{Kind: 3, Text: "#{};= _A~$"}},
		"{}=;":                       {{Kind: 4, Text: "{"}, {Kind: 4, Text: "}", At: 1}, {Kind: 4, Text: "=", At: 2}, {Kind: 4, Text: ";", At: 3}},
		"if{a;}":                     {{Kind: 1, Text: "if"}, {Kind: 4, Text: "{", At: 2}, {Kind: 1, Text: "a", At: 3}, {Kind: 4, Text: ";", At: 4}, {Kind: 4, Text: "}", At: 5}},
		"# one\r\n a # \"two\n\n\t;": {{Kind: 1, Text: "a", At: 8}, {Kind: 4, Text: ";", At: 19}},
	} {
		if l := tokens(t, src); !slices.Equal(l, want) {
			t.Errorf("%q: %v, want %v", src, l, want)
		}
	}
}

// P14.1, P14.2: what is wrong, and where, by examples.
func TestWrong(t *testing.T) {
	for src, want := range map[string]struct {
		at    int
		fault api.Errno
	}{
		"A":                          {0, api.ErrByte},
		"aB":                         {1, api.ErrByte},
		"_a":                         {0, api.ErrByte},
		"-1":                         {0, api.ErrByte},
		"1.5":                        {1, api.ErrByte},
		"a, b":                       {1, api.ErrByte},
		"a == b !":                   {7, api.ErrByte},
		"'a'":                        {0, api.ErrByte},
		`\n`:                         {0, api.ErrByte},
		"a\v":                        {1, api.ErrByte},
		"a\f":                        {1, api.ErrByte},
		"a\x00":                      {1, api.ErrByte},
		"a\u00a0b":                   {1, api.ErrByte},
		"caf\u00e9":                  {3, api.ErrByte},
		"\ufeffa":                    {0, api.ErrByte},
		"# a\n?":                     {4, api.ErrByte},
		`"`:                          {0, api.ErrText},
		` "a`:                        {1, api.ErrText},
		`"a" "`:                      {4, api.ErrText},
		`"a""" "`:                    {6, api.ErrText},
		`"\`:                         {0, api.ErrText},
		`"\"`:                        {0, api.ErrText},
		`"\\\"`:                      {0, api.ErrText},
		`"\N"`:                       {0, api.ErrText},
		`"\x41"`:                     {0, api.ErrText},
		`"\0"`:                       {0, api.ErrText},
		`"\ "`:                       {0, api.ErrText},
		"\"\\\n\"":                   {0, api.ErrText},
		"\"a\nb\"":                   {0, api.ErrText},
		"\"a\tb\"":                   {0, api.ErrText},
		"\"a\r\nb\"":                 {0, api.ErrText},
		"\"\x1f\"":                   {0, api.ErrText},
		"\"\x7f\"":                   {0, api.ErrText},
		"\"\u00e9\"":                 {0, api.ErrText},
		"; \"a\n":                    {2, api.ErrText},
		"1234567890":                 {0, api.ErrNumber},
		"0000000000":                 {0, api.ErrNumber},
		"a 1234567890b":              {2, api.ErrNumber},
		"abcdefghijklm":              {0, api.ErrName},
		"a1234567890_ a1234567890__": {13, api.ErrName},
		"; a___________0;":           {2, api.ErrName},
	} {
		wrong(t, src, want.at, want.fault)
	}
}

// P14.1: the five that are passed over ahead of, between and behind tokens, alone and together; they part tokens that would be one, and nothing within a text.
func TestPassedOver(t *testing.T) {
	parts := []string{"", " ", "\t", "\n", "\r", "#\n", "# a \"b\" ; 1\n", "##\r\n", "#\x00\xff\t\n", "\r\n", "\n#\n#\n", " # \n "}
	for _, ahead := range parts {
		for _, mid := range parts {
			for _, behind := range append(parts, "#", "# a", "#\r") {
				src := ahead + "ab" + mid + "cd" + behind
				want := []api.Token{{Kind: 1, Text: "ab", At: len(ahead)}, {Kind: 1, Text: "cd", At: len(ahead) + 2 + len(mid)}}
				if mid == "" {
					want = []api.Token{{Kind: 1, Text: "abcd", At: len(ahead)}}
				}
				if l := tokens(t, src); !slices.Equal(l, want) {
					t.Errorf("%q: %v, want %v", src, l, want)
				}
			}
		}
	}
}

// P14.1: each byte in a remark, at its beginning and end, up to a newline and up to the end; a newline alone ends it.
func TestEachByteInRemark(t *testing.T) {
	for c := range 256 {
		b := string([]byte{byte(c)})
		for _, remark := range []string{"#" + b, "# a" + b, "#" + b + b, "#" + b + "\""} {
			if c == '\n' {
				all(t, remark)
				continue
			}
			for _, ahead := range []string{"", " ", "a", ";", `""`} {
				n := len(tokens(t, ahead))
				if l := tokens(t, ahead+remark); len(l) != n {
					t.Errorf("%q: %v", ahead+remark, l)
				}
				if l := tokens(t, ahead+remark+"\nz"); len(l) != n+1 || l[n] != (api.Token{Kind: 1, Text: "z", At: len(ahead+remark) + 1}) {
					t.Errorf("%q: %v", ahead+remark, l)
				}
			}
		}
	}
}

// P14.1: each byte, and each two, at the beginning, behind and within each kind of token, and behind a `\`.
func TestEachByte(t *testing.T) {
	for c := range 256 {
		b := string([]byte{byte(c)})
		for _, frame := range []string{"%", "a%", "a%b", "0%", "0%1", ";%", ";%;", `""%`, `"%"`, `"%`, `"a%b"`, `"\%"`, `"\%`, `"\\%"`, " %", " % ", "%a", "%0", "%;", `%"`, `%""`, `%\`, "#%", "a %=", "\n%\n"} {
			all(t, strings.ReplaceAll(frame, "%", b))
		}
		for d := range 256 {
			two := b + string([]byte{byte(d)})
			all(t, two)
			all(t, "a"+two)
			all(t, `"`+two+`"`)
		}
	}
}

// P14.1: which bytes begin what, and no others do.
func TestBegins(t *testing.T) {
	for c := range 256 {
		b := string([]byte{byte(c)})
		kind := 0
		switch {
		case strings.Contains("abcdefghijklmnopqrstuvwxyz", b):
			kind = 1
		case strings.Contains("0123456789", b):
			kind = 2
		case strings.Contains("{};=", b):
			kind = 4
		case strings.Contains(" \t\r\n#", b):
			if l := tokens(t, ";"+b); len(l) != 1 {
				t.Errorf("%q: %v", b, l)
			}
			continue
		case c == '"':
			wrong(t, ";"+b, 1, api.ErrText)
			continue
		default:
			wrong(t, ";"+b, 1, api.ErrByte)
			continue
		}
		if l := tokens(t, ";"+b); len(l) != 2 || l[1] != (api.Token{Kind: kind, Text: b, At: 1}) {
			t.Errorf("%q: %v", b, l)
		}
	}
}

// P14.1: which bytes go on with a name, which with an int, and which stand in a text for themselves; each that may not stand in one is ErrText at its beginning.
func TestGoesOn(t *testing.T) {
	for c := range 256 {
		b := string([]byte{byte(c)})
		l, _, fault := all(t, "a"+b+"a")
		if goes := fault == 0 && l[0].Text == "a"+b+"a"; goes != strings.Contains("abcdefghijklmnopqrstuvwxyz0123456789_", b) {
			t.Errorf("a name and %q: %v", b, l)
		}
		l, _, fault = all(t, "0"+b+"0")
		if goes := fault == 0 && l[0].Text == "0"+b+"0"; goes != strings.Contains("0123456789", b) {
			t.Errorf("an int and %q: %v", b, l)
		}
		src := `; "a` + b + `a"`
		switch {
		case c < 32 || c > 126 || c == '\\':
			wrong(t, src, 2, api.ErrText)
		case c == '"':
			wrong(t, src, 6, api.ErrText)
		default:
			if l := tokens(t, src); len(l) != 2 || l[1].Text != "a"+b+"a" {
				t.Errorf("a text and %q: %v", b, l)
			}
		}
		src = `; "a\` + b + `a"`
		if at := strings.Index(`\"nrt`, b); at >= 0 {
			if l := tokens(t, src); len(l) != 2 || l[1].Text != "a"+"\\\"\n\r\t"[at:at+1]+"a" {
				t.Errorf("a text and a turned %q: %v", b, l)
			}
		} else {
			wrong(t, src, 2, api.ErrText)
		}
	}
}

// P14.1, P14.2: all short sources of bytes of each sort.
func TestAllShort(t *testing.T) {
	for alphabet, most := range map[string]int{
		"a0_;\" \n#\\A":    6,
		"\"\\n":            10,
		"\"\\rt\x1f\x7fx":  6,
		"\"#\na":           9,
		"az09_`/:{@":       5,
		"{}=;<|~ ":         5,
		"\t\r\n #\v\f\x00": 5,
	} {
		for n := range most + 1 {
			each(alphabet, n, func(s string) { all(t, s) })
		}
	}
}

// P14.1, P14.2: sources that are nearly whole scripts.
func TestNearby(t *testing.T) {
	for _, src := range []string{
		`mode smtp; greet "2"; send "QUIT" "221";`,
		"if cap \"a\" { stop; } # x\nelse{let x_1=\"\\\\\\\"\\n\";}",
		"timeout 123456789;\r\n\tbody abcdefghijkl \"\" \"+\";",
	} {
		nearby(src, func(s string) { all(t, s) })
	}
}

// P14.1, P14.2: all rows of tokens, with each of what may stand between; those that need nothing between do without.
func TestRows(t *testing.T) {
	gaps := []string{"", " ", "#a\n"}
	var from func(src string, want []api.Token, n int)
	from = func(src string, want []api.Token, n int) {
		if n == 0 {
			if l := tokens(t, src); !slices.Equal(l, want) {
				t.Fatalf("%q: %v, want %v", src, l, want)
			}
			return
		}
		for _, x := range some {
			for _, gap := range gaps {
				if gap == "" && len(want) > 0 && x.kind <= 2 && want[len(want)-1].Kind <= 2 && (x.kind == 2 || want[len(want)-1].Kind == 1) {
					continue
				}
				from(src+gap+x.said, append(want[:len(want):len(want)], api.Token{Kind: x.kind, Text: x.text, At: len(src + gap)}), n-1)
			}
		}
	}
	for n := range 4 {
		from("", nil, n)
	}
}

// P14.1: a name has 12 bytes at most, wherever it stands and whatever is in it, and an int 9 digits.
func TestLongNamesAndInts(t *testing.T) {
	for n := 1; n < 40; n++ {
		for _, body := range []string{"a", "z", "0", "9", "_"} {
			name := "b" + strings.Repeat(body, n-1)
			number := strings.Repeat("0", n)
			if body == "0" || body == "9" {
				number = strings.Repeat(body, n)
			}
			for _, ahead := range []string{"", ";", " # x\n", `"a"`, "0 "} {
				for _, behind := range []string{"", ";", " ", "#", `"a"`, " ?", "\n\x00"} {
					if n > 12 {
						wrong(t, ahead+name+behind, len(ahead), api.ErrName)
					} else if l, _, fault := all(t, ahead+name+behind); fault == 0 && !slices.Contains(l, api.Token{Kind: 1, Text: name, At: len(ahead)}) {
						t.Errorf("%q: %v", ahead+name+behind, l)
					}
					if n > 9 {
						wrong(t, ahead+number+behind, len(ahead), api.ErrNumber)
					} else if l, _, fault := all(t, ahead+number+behind); fault == 0 && !slices.Contains(l, api.Token{Kind: 2, Text: number, At: len(ahead)}) {
						t.Errorf("%q: %v", ahead+number+behind, l)
					}
				}
			}
		}
	}
	tokens(t, "abcdefghijkl 123456789")
	tokens(t, "123456789abcdefghijkl")
	wrong(t, "123456789abcdefghijklm", 9, api.ErrName)
}

// P14.1: a text stands for 100 bytes at most, in however many it is written.
func TestLongTexts(t *testing.T) {
	parts := append([]string{"a", " ", "~", "#"}, turned...)
	for n := 95; n < 106; n++ {
		for _, p := range parts {
			for _, q := range parts {
				for _, m := range []int{0, 1, n / 2, n - 1, n} {
					src := `; "` + strings.Repeat(p, m) + strings.Repeat(q, n-m) + `"`
					if n > 100 {
						wrong(t, src, 2, api.ErrText)
					} else if l := tokens(t, src); len(l) != 2 || len(l[1].Text) != n {
						t.Errorf("%q: %v", src, l)
					}
				}
			}
		}
	}
	for n := range 300 {
		wrong(t, `"`+strings.Repeat("a", n), 0, api.ErrText)
		all(t, `"`+strings.Repeat("a", n)+`"`)
		all(t, strings.Repeat(`"`, n))
		all(t, `"`+strings.Repeat(`\`, n)+`"`)
	}
}

// P14.1: a source has 2000 bytes at most, whatever it is and whatever is wrong in it.
func TestLongSources(t *testing.T) {
	for _, one := range []string{" ", "\t", "\n", "#", "\x00", "a", "0", ";", `"`, "A", `\`, "\xff"} {
		for n := 1990; n < 2010; n++ {
			src := strings.Repeat(one, n)
			if n > 2000 {
				wrong(t, src, 0, api.ErrBig)
				wrong(t, src[1:]+"a", 0, api.ErrBig)
				continue
			}
			all(t, src)
			all(t, src[1:]+";")
			all(t, ";"+src[1:])
		}
	}
	room := strings.Repeat(" ", 1999)
	if l := tokens(t, room+";"); len(l) != 1 || l[0].At != 1999 {
		t.Errorf("%v", l)
	}
	wrong(t, room+"?", 1999, api.ErrByte)
	wrong(t, " "+room+";", 0, api.ErrBig)
	wrong(t, "?"+room+" ", 0, api.ErrBig)
	tokens(t, "#"+room)
	wrong(t, "#"+room+" ", 0, api.ErrBig)
}

// P14.1: there are 400 tokens at most, but the last one, whatever is passed over between and behind.
func TestManyTokens(t *testing.T) {
	for _, one := range []string{";", "; ", "a ", "7 ", `""`, "{\n", "a;7=", "#\n;"} {
		n := len(tokens(t, one))
		for _, ahead := range []string{"", " ", "#\n"} {
			for _, behind := range []string{"", " ", "#", "\n"} {
				for count := 396; count < 405; count += n {
					src := ahead + strings.Repeat(one, count/n) + strings.Repeat(";", count%n) + behind
					if count > 400 {
						wrong(t, src, 0, api.ErrBig)
					} else if l := tokens(t, src); len(l) != count {
						t.Errorf("%q: %d", src, len(l))
					}
				}
			}
		}
	}
	wrong(t, strings.Repeat(";", 2000), 0, api.ErrBig)
}

// P14.1, R3: the first fault is told, from the first byte on: a fault ahead of the one token too many, that one ahead of a fault behind it; and of one that is a fault and too many, the fault.
func TestFirstFault(t *testing.T) {
	faults := []struct {
		src   string
		fault api.Errno
	}{{"?", 10}, {`"\z"`, 11}, {"1234567890", 12}, {"abcdefghijklm", 13}}
	for _, x := range faults {
		for _, y := range faults {
			wrong(t, x.src+" "+y.src, 0, x.fault)
			wrong(t, " "+x.src+"\n"+y.src, 1, x.fault)
		}
		for _, n := range []int{0, 1, 399, 400} {
			wrong(t, strings.Repeat(";", n)+x.src, n, x.fault)
			wrong(t, strings.Repeat(";", n)+" "+x.src+strings.Repeat(";", 401), n+1, x.fault)
		}
		for _, n := range []int{401, 402, 500} {
			wrong(t, strings.Repeat(";", n)+x.src, 0, api.ErrBig)
		}
		wrong(t, x.src+strings.Repeat(";", 2000), 0, api.ErrBig)
	}
	wrong(t, strings.Repeat(";", 400)+`"`, 400, api.ErrText)
	wrong(t, strings.Repeat(";", 401)+`"`, 0, api.ErrBig)
}

// P14.3: by examples: what is quoted, and what is not.
func TestQuote(t *testing.T) {
	for s, want := range map[string]string{
		"":                  `""`,
		"a":                 `"a"`,
		"QUIT":              `"QUIT"`,
		" ~":                `" ~"`,
		"#{};='$%":          `"#{};='$%"`,
		"\n":                `"\n"`,
		"\r":                `"\r"`,
		"\t":                `"\t"`,
		`\`:                 `"\\"`,
		`"`:                 `"\""`,
		`\n`:                `"\\n"`,
		`""`:                `"\"\""`,
		"a\r\nb\tc":         `"a\r\nb\tc"`,
		"n\nr\rt\t\"\"\\\\": `"n\nr\rt\t\"\"\\\\"`,
	} {
		if q, ok := quote(t, s); q != want || !ok {
			t.Errorf("%q: %q, %v, want %q", s, q, ok, want)
		}
	}
	for _, s := range []string{"\x00", "\x1f", "\x7f", "\v", "\f", "\b", "\x1b", "\x80", "\xff", "\u00e9", "\u2028", "a\x00", "\x00a", "a\x7fb", "\n\v"} {
		if q, ok := quote(t, s); q != "" || ok {
			t.Errorf("%q: %q, %v", s, q, ok)
		}
	}
}

// P14.3: each byte, and each two, alone and between others.
func TestQuoteEachByte(t *testing.T) {
	for c := range 256 {
		b := string([]byte{byte(c)})
		for _, s := range []string{b, "a" + b, b + "a", "a" + b + "a", b + b, strings.Repeat("a", 99) + b, b + strings.Repeat(" ", 99), strings.Repeat("a", 100) + b, b + strings.Repeat("\n", 100)} {
			quote(t, s)
		}
		for d := range 256 {
			quote(t, b+string([]byte{byte(d)}))
		}
		if _, ok := quote(t, b); ok != (c >= 32 && c <= 126 || c == 9 || c == 10 || c == 13) {
			t.Errorf("%q: %v", b, ok)
		}
	}
}

// P14.3: 100 bytes at most, as they are, not as they are written.
func TestQuoteLong(t *testing.T) {
	for _, one := range append([]string{"a", " ", "~"}, meant...) {
		for n := range 120 {
			s := strings.Repeat(one, n)
			if _, ok := quote(t, s); ok != (n <= 100) {
				t.Errorf("%d of %q: %v", n, one, ok)
			}
			if n <= 100 {
				continue
			}
			quote(t, s+"\x00")
			quote(t, "\xff"+s)
		}
	}
}

// P14.4: what was quoted is one token of that text, alone, between others, and beside another that was.
func TestQuotedIsOne(t *testing.T) {
	holds := func(s string) {
		t.Helper()
		q, ok := quote(t, s)
		if !ok {
			return
		}
		if l := tokens(t, q); !slices.Equal(l, []api.Token{{Kind: 3, Text: s}}) {
			t.Fatalf("%q: %v", s, l)
		}
		at := len("send " + q)
		if l := tokens(t, "send "+q+q+";"); !slices.Equal(l, []api.Token{{Kind: 1, Text: "send"}, {Kind: 3, Text: s, At: 5}, {Kind: 3, Text: s, At: at}, {Kind: 4, Text: ";", At: at + len(q)}}) {
			t.Fatalf("%q: %v", s, l)
		}
	}
	for n := range 6 {
		each("a\"\\n\n# ", n, holds)
	}
	for n := range 5 {
		each("\r\t\n\\rt~\x7f", n, holds)
	}
	for c := range 256 {
		b := string([]byte{byte(c)})
		for _, n := range []int{1, 2, 50, 99, 100} {
			holds(strings.Repeat(b, n))
			holds(b + strings.Repeat("\\", n-1))
			holds(strings.Repeat("\"", n-1) + b)
		}
	}
	for n := range 101 {
		holds(strings.Repeat("a\"\\\n\r\tz", 20)[:n])
	}
}

// P14.4: and the other way round: what a text stands for is quoted again so that it stands for the same.
func TestTextIsQuoted(t *testing.T) {
	for n := range 6 {
		each("a\"\\nt \n", n, func(s string) {
			l, _, _ := all(t, `"`+s+`"`)
			for _, x := range l {
				if x.Kind != api.TkText {
					continue
				}
				if q, ok := quote(t, x.Text); !ok || tokens(t, q)[0].Text != x.Text {
					t.Fatalf("%q: %q", x.Text, q)
				}
			}
		})
	}
}

// R5: a token has no more than its kind, its text and its place; the last one has its place alone.
func TestNoMore(t *testing.T) {
	l, _, _ := all(t, `a 1 "" ;`+" # z\n")
	if want := []api.Token{{Kind: 1, Text: "a"}, {Kind: 2, Text: "1", At: 2}, {Kind: 3, At: 4}, {Kind: 4, Text: ";", At: 7}, {At: 13}}; !slices.Equal(l, want) {
		t.Errorf("%v, want %v", l, want)
	}
}

// R6, R7: the same is answered again, and each list is the caller's own: what he does to one, and to the room behind it, shows in no other.
func TestAnswersAreOnesOwn(t *testing.T) {
	sources := []string{"", ";", `let a = "x";`, "a 1 b 2 c 3", strings.Repeat("; ", 400), `"a\"\\"`, "?", strings.Repeat(";", 401)}
	var kept [][]api.Token
	for _, src := range sources {
		l, _, _ := all(t, src)
		kept = append(kept, l)
		again, _, _ := all(t, src)
		room := again[:cap(again)]
		for i := range room {
			room[i] = api.Token{Kind: 9, Text: "spoilt", At: 9}
		}
	}
	for i, src := range sources {
		want, _, _ := allWant(src)
		if !slices.Equal(kept[i], want) {
			t.Errorf("%.50q: %v, want %v", src, kept[i], want)
		}
		all(t, src)
	}
	for range 3 {
		quote(t, "a\"b")
		quote(t, "\x00")
		quote(t, "")
	}
}

// R1, R2: very long sources and texts end, with nothing but what is told.
func TestGreat(t *testing.T) {
	const n = 1 << 24
	for _, one := range []string{" ", "#", "a", "0", `"`, ";", "\\", "\x00"} {
		s := strings.Repeat(one, n)
		if l, at, fault := lex.All(s); len(l) != 0 || at != 0 || fault != api.ErrBig {
			t.Errorf("%q: %d, %d, %d", one, len(l), at, fault)
		}
		if q, ok := lex.Quote(s); q != "" || ok {
			t.Errorf("%q: %d", one, len(q))
		}
	}
}
