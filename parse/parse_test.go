package parse_test

import (
	"math"
	"slices"
	"strconv"
	"strings"
	"testing"

	"rejoinder/api"
	"rejoinder/lex"
	"rejoinder/parse"
)

// looks are the chapter's shapes, in order; the first is that of the kind 1.
var looks = []string{"let n = t ;", "greet t ;", "send t t ;", "caps t t ;", "if w t {", "pipe i {", "auth n t t ;", "data t t ;", "body n t t ;", "get n t ;", "put t t ;", "timeout i ;", "label n ;", "goto n ;", "on n ;", "print t ;", "stop ;"}

// protocols are those that have a name; the first is 1.
var protocols = []string{"smtp", "pop3", "ftp"}

// node is a statement as the reference reads it: those within it stand in it, and those behind its else.
type node struct {
	api.Stmt
	in, otherwise []node
}

// fault is what the reference panics with.
type fault struct {
	at int
	is api.Errno
}

// next is the first token, which must be one that may stand there.
func next(l *[]api.Token, may bool) api.Token {
	one := (*l)[0]
	if !may {
		panic(fault{one.At, 20})
	}
	*l = (*l)[1:]
	return one
}

// sign takes one; within is how many `{` are not closed.
func sign(l *[]api.Token, s string, within int) {
	one := next(l, (*l)[0].Kind == 4 && (*l)[0].Text == s)
	if s == "{" && within == 8 {
		panic(fault{one.At, 21})
	}
}

// block is `{`, statements, `}`.
func block(l *[]api.Token, within int) []node {
	sign(l, "{", within)
	var row []node
	for (*l)[0].Kind != 4 || (*l)[0].Text != "}" {
		row = append(row, statement(l, within+1))
	}
	sign(l, "}", within)
	return row
}

// statement is P15.2 and P15.3 word for word, of one statement.
func statement(l *[]api.Token, within int) node {
	one := (*l)[0]
	kind := 1 + slices.IndexFunc(looks, func(look string) bool {
		return one.Kind == 1 && strings.HasPrefix(look, one.Text+" ")
	})
	next(l, kind > 0)
	s := node{Stmt: api.Stmt{Kind: kind, At: one.At}}
	var texts []string
	for _, c := range strings.Fields(looks[kind-1])[1:] {
		one := (*l)[0]
		switch c {
		case "n":
			texts = append(texts, next(l, one.Kind == 1).Text)
		case "t":
			texts = append(texts, next(l, one.Kind == 3).Text)
		case "w":
			texts = append(texts, next(l, one.Kind == 1 && (one.Text == "cap" || one.Text == "code" || one.Text == "text")).Text)
		case "i":
			s.N, _ = strconv.Atoi(next(l, one.Kind == 2).Text)
		case "{":
			s.in = block(l, within)
		default:
			sign(l, c, within)
		}
	}
	if one.Text == "greet" {
		texts = []string{"", texts[0]}
	}
	texts = append(texts, "", "", "")
	s.S, s.T, s.U = texts[0], texts[1], texts[2]
	if one.Text == "if" && (*l)[0].Kind == 1 && (*l)[0].Text == "else" {
		next(l, true)
		s.otherwise = block(l, within)
	}
	return s
}

// placed puts statements into the row, each behind all that it has, and tells their places.
func placed(row *[]api.Stmt, l []node) []int {
	var places []int
	for _, x := range l {
		s := x.Stmt
		s.L = placed(row, x.in)
		s.M = placed(row, x.otherwise)
		places = append(places, len(*row))
		*row = append(*row, s)
	}
	return places
}

// allWant is P15.2 and P15.3 word for word.
func allWant(src string) (p api.Prog, at int, is api.Errno) {
	l, place, wrong := lex.All(src)
	if wrong != 0 {
		return api.Prog{}, place, wrong
	}
	defer func() {
		if x, ok := recover().(fault); ok {
			p, at, is = api.Prog{}, x.at, x.is
		}
	}()
	next(&l, l[0].Kind == 1 && l[0].Text == "mode")
	name := next(&l, l[0].Kind == 1 && slices.Contains(protocols, l[0].Text)).Text
	sign(&l, ";", 0)
	var top []node
	for l[0].Kind != 0 {
		top = append(top, statement(&l, 0))
	}
	p.Mode = 1 + slices.Index(protocols, name)
	p.Top = placed(&p.Stmts, top)
	if len(p.Stmts) > 100 {
		return api.Prog{}, 0, 4
	}
	return p, 0, 0
}

func sameStmt(a, b api.Stmt) bool {
	return a.Kind == b.Kind && a.At == b.At && a.S == b.S && a.T == b.T && a.U == b.U && a.N == b.N && slices.Equal(a.L, b.L) && slices.Equal(a.M, b.M)
}

func same(a, b api.Prog) bool {
	return a.Mode == b.Mode && slices.EqualFunc(a.Stmts, b.Stmts, sameStmt) && slices.Equal(a.Top, b.Top)
}

// once is P15.4: each place is in Top, or within one other, which is behind it; and each list is in order.
func once(t *testing.T, src string, p api.Prog) {
	t.Helper()
	times := make([]int, len(p.Stmts))
	count := func(places []int, outer int) {
		for i, place := range places {
			if place < 0 || place >= outer || i > 0 && place <= places[i-1] {
				t.Fatalf("All(%.300q): %v within %d", src, places, outer)
			}
			times[place]++
		}
	}
	count(p.Top, len(p.Stmts))
	for outer, s := range p.Stmts {
		count(s.L, outer)
		count(s.M, outer)
	}
	for place, n := range times {
		if n != 1 {
			t.Fatalf("All(%.300q): the place %d stands %d times", src, place, n)
		}
	}
}

// all holds All against the chapter's words; with an error, and without, what is not told is zero.
func all(t *testing.T, src string) (api.Prog, int, api.Errno) {
	t.Helper()
	p, at, is := parse.All(src)
	want, place, fault := allWant(src)
	if !same(p, want) || at != place || is != fault {
		t.Fatalf("All(%.300q) = %v, %d, %d, want %v, %d, %d", src, p, at, is, want, place, fault)
	}
	if is != 0 && (p.Mode != 0 || len(p.Stmts) != 0 || len(p.Top) != 0) || is == 0 && at != 0 {
		t.Fatalf("All(%.300q) = %v, %d, %d", src, p, at, is)
	}
	once(t, src, p)
	return p, at, is
}

// right is what a source that has no fault comes to.
func right(t *testing.T, src string) api.Prog {
	t.Helper()
	p, at, is := all(t, src)
	if is != 0 {
		t.Fatalf("All(%.300q): %d, %d", src, at, is)
	}
	return p
}

// wrong holds that a source has this fault at this place.
func wrong(t *testing.T, src string, at int, fault api.Errno) {
	t.Helper()
	if _, place, is := all(t, src); place != at || is != fault {
		t.Fatalf("All(%.300q): %d, %d, want %d, %d", src, place, is, at, fault)
	}
}

// each calls f with all rows of n of the pieces, with a blank between.
func each(pieces []string, n int, f func(s string)) {
	if n == 0 {
		f("")
		return
	}
	each(pieces, n-1, func(s string) {
		for _, piece := range pieces {
			f(s + " " + piece)
		}
	})
}

// pieces are tokens of each sort that a script may have, and some that look like others.
var pieces = []string{"mode", "smtp", "pop3", "ftp", "let", "greet", "send", "caps", "if", "pipe", "auth", "data", "body", "get", "put", "timeout", "label", "goto", "on", "print", "stop", "else", "cap", "code", "text", "n", "t", "i", "w", "m", "other", "0", "17", `""`, `"a"`, `"n"`, `"stop"`, `"cap"`, `";"`, `"}"`, "{", "}", ";", "="}

// leaves are whole statements that have none within, with what they come to, but their place.
var leaves = []struct {
	src  string
	stmt api.Stmt
}{
	{`let a = "b";`, api.Stmt{Kind: 1, S: "a", T: "b"}},
	{`greet "2";`, api.Stmt{Kind: 2, T: "2"}},
	{`send "QUIT" "221,4";`, api.Stmt{Kind: 3, S: "QUIT", T: "221,4"}},
	{`caps "EHLO me" "";`, api.Stmt{Kind: 4, S: "EHLO me"}},
	{`auth plain "tim" "secret";`, api.Stmt{Kind: 7, S: "plain", T: "tim", U: "secret"}},
	{`data "" "2";`, api.Stmt{Kind: 8, T: "2"}},
	{`body x "RETR 1" "+";`, api.Stmt{Kind: 9, S: "x", T: "RETR 1", U: "+"}},
	{`get f "RETR f";`, api.Stmt{Kind: 10, S: "f", T: "RETR f"}},
	{`put "STOR f" "all\n";`, api.Stmt{Kind: 11, S: "STOR f", T: "all\n"}},
	{`timeout 30;`, api.Stmt{Kind: 12, N: 30}},
	{`label l;`, api.Stmt{Kind: 13, S: "l"}},
	{`goto l;`, api.Stmt{Kind: 14, S: "l"}},
	{`on l;`, api.Stmt{Kind: 15, S: "l"}},
	{`print "}";`, api.Stmt{Kind: 16, S: "}"}},
	{`stop;`, api.Stmt{Kind: 17}},
}

// spaced is a source with the same tokens, and something between all of them.
func spaced(src, between string) string {
	l, _, _ := lex.All(src)
	out := between
	for _, x := range l {
		said := x.Text
		if x.Kind == api.TkText {
			said, _ = lex.Quote(said)
		}
		out += said + between
	}
	return out
}

// P15.1: each protocol's name, and no other text; each byte put in, left out or in the stead of each.
func TestMode(t *testing.T) {
	for i, name := range []string{"smtp", "pop3", "ftp"} {
		if got := parse.Mode(name); got != i+1 {
			t.Errorf("Mode(%q) = %d", name, got)
		}
		for at := range len(name) + 1 {
			others := []string{name[:at]}
			for c := range 256 {
				b := string([]byte{byte(c)})
				others = append(others, name[:at]+b+name[at:])
				if at < len(name) {
					others = append(others, name[:at]+b+name[at+1:])
				}
			}
			if at < len(name) {
				others = append(others, name[:at]+name[at+1:])
			}
			for _, s := range others {
				if got := parse.Mode(s); s != name && got != 0 {
					t.Errorf("Mode(%q) = %d", s, got)
				}
			}
		}
	}
	for _, s := range []string{"", "SMTP", "Smtp", "imap", "1", "smtp pop3", "smtpftp", " smtp", "mode", strings.Repeat("smtp", 1<<22)} {
		if got := parse.Mode(s); got != 0 {
			t.Errorf("Mode(%.50q) = %d", s, got)
		}
	}
}

// P15.1: the shapes of all kinds, in order, and of no other number.
func TestShape(t *testing.T) {
	kinds := []int{api.StLet, api.StGreet, api.StSend, api.StCaps, api.StIf, api.StPipe, api.StAuth, api.StData, api.StBody, api.StGet, api.StPut, api.StTimeout, api.StLabel, api.StGoto, api.StOn, api.StPrint, api.StStop}
	for i, kind := range kinds {
		if got := parse.Shape(kind); got != looks[i] {
			t.Errorf("Shape(%d) = %q, want %q", kind, got, looks[i])
		}
	}
	others := []int{math.MinInt, math.MinInt + 1, -1 << 32, 1<<32 + 1, 1 << 62, math.MaxInt - 1, math.MaxInt}
	for i := range 1000 {
		others = append(others, -i, 18+i)
	}
	for _, kind := range others {
		if got := parse.Shape(kind); got != "" {
			t.Errorf("Shape(%d) = %q", kind, got)
		}
	}
}

// P15.2, P15.3: the chapter's example.
func TestExample(t *testing.T) {
	p := right(t, `mode ftp; if cap "a" { stop; }`)
	want := api.Prog{Mode: api.Ftp, Stmts: []api.Stmt{{Kind: api.StStop, At: 23}, {Kind: api.StIf, S: "cap", T: "a", At: 10, L: []int{0}}}, Top: []int{1}}
	if !same(p, want) {
		t.Errorf("%v, want %v", p, want)
	}
}

// P15.2, P15.3: what each kind of statement comes to, alone and one behind the other, in each protocol, with much and with nothing between.
func TestStatements(t *testing.T) {
	for i, name := range protocols {
		if p := right(t, "mode "+name+";"); !same(p, api.Prog{Mode: i + 1}) {
			t.Errorf("%v", p)
		}
		for _, x := range leaves {
			head := "mode " + name + ";"
			want := api.Prog{Mode: i + 1, Stmts: []api.Stmt{x.stmt}, Top: []int{0}}
			want.Stmts[0].At = len(head)
			if p := right(t, head+x.src); !same(p, want) {
				t.Errorf("%q: %v, want %v", x.src, p, want)
			}
			for _, between := range []string{" ", "\r\n\t", "# ; }\n", " # \"\n "} {
				p := right(t, spaced(head+x.src, between))
				p.Stmts[0].At = len(head)
				if !same(p, want) {
					t.Errorf("%q: %v, want %v", x.src, p, want)
				}
			}
			for _, y := range leaves {
				src := head + x.src + " # z\n" + y.src
				want := api.Prog{Mode: i + 1, Stmts: []api.Stmt{x.stmt, y.stmt}, Top: []int{0, 1}}
				want.Stmts[0].At = len(head)
				want.Stmts[1].At = len(src) - len(y.src)
				if p := right(t, src); !same(p, want) {
					t.Errorf("%q: %v, want %v", src, p, want)
				}
			}
		}
	}
}

// P15.2: a name is any, those that begin a statement and those that stand for others in a shape too; and so is a text.
func TestAnyName(t *testing.T) {
	for _, name := range append([]string{"abcdefghijkl", "a_0"}, pieces...) {
		if name[0] < 'a' || name[0] > 'z' {
			continue
		}
		for _, x := range []struct{ ahead, behind string }{{"let ", ` = "";`}, {"auth ", ` "" "";`}, {"body ", ` "" "";`}, {"get ", ` "";`}, {"label ", ";"}, {"goto ", ";"}, {"on ", ";"}} {
			p := right(t, "mode smtp;"+x.ahead+name+x.behind)
			if len(p.Stmts) != 1 || p.Stmts[0].S != name {
				t.Errorf("%q: %v", x.ahead+name, p)
			}
			wrong(t, "mode smtp;"+x.ahead+`"`+name+`"`+x.behind, 10+len(x.ahead), api.ErrSyntax)
		}
		for _, x := range []struct{ ahead, behind string }{{"print ", ";"}, {"greet ", ";"}, {"let a = ", ";"}, {"send ", ` "";`}, {`send "" `, ";"}, {`auth a "" `, ";"}, {"if cap ", "{}"}} {
			p := right(t, "mode smtp;"+x.ahead+`"`+name+`"`+x.behind)
			if s := p.Stmts[0]; s.S+s.T+s.U != strings.Repeat("cap", strings.Count(x.ahead, "cap"))+strings.Repeat("a", strings.Count(x.ahead, "a "))+name {
				t.Errorf("%q: %v", x.ahead+name, p)
			}
			wrong(t, "mode smtp;"+x.ahead+name+x.behind, 10+len(x.ahead), api.ErrSyntax)
		}
	}
}

// P15.2: what an if may ask for: these three, as names.
func TestWhich(t *testing.T) {
	for _, x := range append([]string{"caps", "ca", "codes", "texts", "tex", "cap_", "a", `"code"`, `"text"`, "1"}, pieces...) {
		src := "mode pop3; if " + x + ` "b" { }`
		if x == "cap" || x == "code" || x == "text" {
			if p := right(t, src); len(p.Stmts) != 1 || p.Stmts[0].S != x || p.Stmts[0].T != "b" {
				t.Errorf("%q: %v", src, p)
			}
			continue
		}
		wrong(t, src, 14, api.ErrSyntax)
	}
}

// P15.3: an int is its number, with noughts ahead of it too.
func TestInts(t *testing.T) {
	for digits, n := range map[string]int{"0": 0, "1": 1, "9": 9, "10": 10, "007": 7, "000000000": 0, "000000009": 9, "1073741824": 0, "1073741825": 0, "123456789": 123456789, "999999999": 999999999} {
		if len(digits) > 9 {
			wrong(t, "mode ftp; pipe "+digits+"{}", 15, api.ErrNumber)
			continue
		}
		p := right(t, "mode ftp; timeout "+digits+"; pipe "+digits+" { }")
		if len(p.Stmts) != 2 || p.Stmts[0].N != n || p.Stmts[1].N != n {
			t.Errorf("%q: %v", digits, p)
		}
	}
}

// P15.2: what is wrong, and where, by examples.
func TestWrong(t *testing.T) {
	for src, want := range map[string]struct {
		at    int
		fault api.Errno
	}{
		"":                                     {0, api.ErrSyntax},
		" \n":                                  {2, api.ErrSyntax},
		"# mode ftp;":                          {11, api.ErrSyntax},
		";":                                    {0, api.ErrSyntax},
		"stop;":                                {0, api.ErrSyntax},
		"smtp;":                                {0, api.ErrSyntax},
		`"mode" ftp;`:                          {0, api.ErrSyntax},
		"mode":                                 {4, api.ErrSyntax},
		"mode;":                                {4, api.ErrSyntax},
		"mode 1;":                              {5, api.ErrSyntax},
		"mode mode;":                           {5, api.ErrSyntax},
		"mode imap;":                           {5, api.ErrSyntax},
		`mode "ftp";`:                          {5, api.ErrSyntax},
		"mode ftp":                             {8, api.ErrSyntax},
		"mode ftp {":                           {9, api.ErrSyntax},
		`mode ftp ";"`:                         {9, api.ErrSyntax},
		"mode ftp smtp;":                       {9, api.ErrSyntax},
		"mode ftp;;":                           {9, api.ErrSyntax},
		"mode ftp; mode ftp;":                  {10, api.ErrSyntax},
		"mode ftp; }":                          {10, api.ErrSyntax},
		"mode ftp; { stop; }":                  {10, api.ErrSyntax},
		"mode ftp; =":                          {10, api.ErrSyntax},
		"mode ftp; 1":                          {10, api.ErrSyntax},
		`mode ftp; "stop";`:                    {10, api.ErrSyntax},
		"mode ftp; else {}":                    {10, api.ErrSyntax},
		"mode ftp; stopp;":                     {10, api.ErrSyntax},
		"mode ftp; sto;":                       {10, api.ErrSyntax},
		"mode ftp; n;":                         {10, api.ErrSyntax},
		"mode ftp; stop":                       {14, api.ErrSyntax},
		"mode ftp; stop }":                     {15, api.ErrSyntax},
		"mode ftp; stop stop;":                 {15, api.ErrSyntax},
		"mode ftp; stop; }":                    {16, api.ErrSyntax},
		`mode ftp; let a "b";`:                 {16, api.ErrSyntax},
		`mode ftp; let a = b;`:                 {18, api.ErrSyntax},
		`mode ftp; let a = 1;`:                 {18, api.ErrSyntax},
		`mode ftp; let a == "b";`:              {17, api.ErrSyntax},
		`mode ftp; let = "b";`:                 {14, api.ErrSyntax},
		`mode ftp; let a "=" "b";`:             {16, api.ErrSyntax},
		`mode ftp; greet;`:                     {15, api.ErrSyntax},
		`mode ftp; greet a;`:                   {16, api.ErrSyntax},
		`mode ftp; greet "2" "3";`:             {20, api.ErrSyntax},
		`mode ftp; send "a";`:                  {18, api.ErrSyntax},
		`mode ftp; send "a" "2" "3";`:          {23, api.ErrSyntax},
		`mode ftp; timeout;`:                   {17, api.ErrSyntax},
		`mode ftp; timeout a;`:                 {18, api.ErrSyntax},
		`mode ftp; timeout "1";`:               {18, api.ErrSyntax},
		`mode ftp; label 1;`:                   {16, api.ErrSyntax},
		`mode ftp; if "a" {}`:                  {13, api.ErrSyntax},
		`mode ftp; if x "a" {}`:                {13, api.ErrSyntax},
		`mode ftp; if cap a {}`:                {17, api.ErrSyntax},
		`mode ftp; if cap "a"; `:               {20, api.ErrSyntax},
		`mode ftp; if cap "a" stop;`:           {21, api.ErrSyntax},
		`mode ftp; if cap "a" {`:               {22, api.ErrSyntax},
		`mode ftp; if cap "a" {;}`:             {22, api.ErrSyntax},
		`mode ftp; if cap "a" {} }`:            {24, api.ErrSyntax},
		`mode ftp; if cap "a" {};`:             {23, api.ErrSyntax},
		`mode ftp; if cap "a" {} else`:         {28, api.ErrSyntax},
		`mode ftp; if cap "a" {} else;`:        {28, api.ErrSyntax},
		`mode ftp; if cap "a" {} "else" {}`:    {24, api.ErrSyntax},
		`mode ftp; if cap "a" {} else stop;`:   {29, api.ErrSyntax},
		`mode ftp; if cap "a" {} else {`:       {30, api.ErrSyntax},
		`mode ftp; if cap "a" {} else {} else`: {32, api.ErrSyntax},
		`mode ftp; if cap "a" {} stop; else`:   {30, api.ErrSyntax},
		`mode ftp; if cap "a" { else {} }`:     {23, api.ErrSyntax},
		`mode ftp; if cap "a" { stop; else }`:  {29, api.ErrSyntax},
		`mode ftp; if cap "a" {} else if`:      {29, api.ErrSyntax},
		`mode ftp; pipe 1 {} else {}`:          {20, api.ErrSyntax},
		`mode ftp; pipe {}`:                    {15, api.ErrSyntax},
		`mode ftp; pipe "1" {}`:                {15, api.ErrSyntax},
		`mode ftp; pipe 1 2 {}`:                {17, api.ErrSyntax},
		`mode ftp; pipe 1 {"}"`:                {18, api.ErrSyntax},
		`mode ftp; pipe 1 {} }`:                {20, api.ErrSyntax},
		`mode ftp; $`:                          {10, api.ErrByte},
		`stop; $`:                              {6, api.ErrByte},
		`mode ftp; "`:                          {10, api.ErrText},
		`; 1234567890`:                         {2, api.ErrNumber},
		`; abcdefghijklm`:                      {2, api.ErrName},
	} {
		wrong(t, src, want.at, want.fault)
	}
}

// P15.2: all short rows of tokens, from the beginning on.
func TestHeads(t *testing.T) {
	for n := range 6 {
		each([]string{"mode", "smtp", "ftp", "imap", ";", "stop", `"ftp"`, "{"}, n, func(s string) { all(t, s) })
	}
}

// P15.2, P15.3: all short rows of tokens behind the mode, and within an if and an else.
func TestRows(t *testing.T) {
	for n := range 4 {
		each(pieces, n, func(s string) {
			all(t, "mode ftp;"+s)
			if n < 3 {
				all(t, `mode ftp; if text "" {`+s)
				all(t, `mode ftp; if text "" {} else {`+s+"}")
			}
		})
	}
	few := []string{"let", "if", "auth", "on", "cap", "0", `""`, "{", "}", ";", "="}
	for n := range 6 {
		each(few, n, func(s string) { all(t, "mode ftp;"+s) })
	}
}

// P15.2, P15.3: all short rows of statements and parts of such.
func TestParts(t *testing.T) {
	for n := range 8 {
		each([]string{"stop;", `if cap "a" {`, "pipe 2 {", "}", "else {"}, n, func(s string) {
			all(t, "mode ftp;"+s)
		})
	}
	for n := range 6 {
		each([]string{"stop", ";", `if code "2"`, "{", "}", "else", "on a;"}, n, func(s string) {
			all(t, "mode ftp;"+s)
		})
	}
}

// P15.2, P15.3: each token left out, put in, or in the stead of another, and each end, in scripts that have all kinds of statements.
func TestNearbyTokens(t *testing.T) {
	const many = `mode pop3 ; let a = "b" ; greet "+" ; send "x" "+" ; caps "CAPA" "+" ; if cap "SASL" { auth plain "u" "p" ; } else { pipe 2 { send "y" "" ; } } body m "RETR 1" "+" ; timeout 9 ; label l ; goto l ;`
	const more = `mode ftp ; pipe 1 { if text "t" { get f "RETR" ; put "STOR" "z" ; } data "d" "2" ; if code "5" { } else { } on l ; print "p" ; stop ; } stop ;`
	for _, src := range []string{many, more} {
		l := strings.Fields(src)
		right(t, src)
		for i := range len(l) + 1 {
			all(t, strings.Join(l[:i], " "))
			for _, piece := range pieces {
				all(t, strings.Join(slices.Concat(l[:i], []string{piece}, l[i:]), " "))
				if i < len(l) {
					all(t, strings.Join(slices.Concat(l[:i], []string{piece}, l[i+1:]), " "))
				}
			}
			if i < len(l) {
				all(t, strings.Join(slices.Concat(l[:i], l[i+1:]), " "))
			}
		}
	}
}

// P15.2: each byte put in, left out, or in the stead of each: layer 14's error comes ahead of all others, wherever it stands.
func TestNearbyBytes(t *testing.T) {
	for _, src := range []string{`mode smtp; if cap "a" { let b="c"; }else{on d;}`, "mode ftp;pipe 10 {stop;}#z", `; ; "a" 1`} {
		for i := range len(src) + 1 {
			for c := range 256 {
				b := string([]byte{byte(c)})
				all(t, src[:i]+b+src[i:])
				if i < len(src) {
					all(t, src[:i]+b+src[i+1:])
				}
			}
			if i < len(src) {
				all(t, src[:i]+src[i+1:])
			}
		}
	}
}

// tree is a statement that is to be written: one of leaves, or an if, with an else or without, or a pipe.
type tree struct {
	head      string // of one that has others within
	in        []tree
	hasElse   bool
	otherwise []tree
}

// forests are all rows of trees of n statements.
func forests(n int) [][]tree {
	if n == 0 {
		return [][]tree{nil}
	}
	var out [][]tree
	for size := 1; size <= n; size++ {
		for _, first := range trees(size) {
			for _, rest := range forests(n - size) {
				out = append(out, append([]tree{first}, rest...))
			}
		}
	}
	return out
}

// trees are all of n statements.
func trees(n int) []tree {
	var out []tree
	if n == 1 {
		out = append(out, tree{})
	}
	for _, in := range forests(n - 1) {
		out = append(out, tree{head: "if", in: in}, tree{head: "pipe", in: in})
	}
	for size := range n {
		for _, in := range forests(size) {
			for _, otherwise := range forests(n - 1 - size) {
				out = append(out, tree{head: "if", in: in, hasElse: true, otherwise: otherwise})
			}
		}
	}
	return out
}

// writer writes trees, and what they come to.
type writer struct {
	src  strings.Builder
	row  []api.Stmt
	turn int
}

// write answers the places of the trees.
func (w *writer) write(l []tree) []int {
	var places []int
	for _, x := range l {
		w.turn++
		s := api.Stmt{}
		at := w.src.Len()
		switch x.head {
		case "if":
			s = api.Stmt{Kind: 5, S: []string{"cap", "code", "text"}[w.turn%3], T: strconv.Itoa(w.turn)}
			w.src.WriteString("if " + s.S + ` "` + s.T + `"{`)
			s.L = w.write(x.in)
			w.src.WriteString("}")
		case "pipe":
			s = api.Stmt{Kind: 6, N: w.turn}
			w.src.WriteString("pipe " + strconv.Itoa(w.turn) + " {\n")
			s.L = w.write(x.in)
			w.src.WriteString("}")
		default:
			leaf := leaves[w.turn%len(leaves)]
			s = leaf.stmt
			w.src.WriteString(leaf.src)
		}
		if x.hasElse {
			w.src.WriteString("else {")
			s.M = w.write(x.otherwise)
			w.src.WriteString("}\n")
		}
		s.At = at
		places = append(places, len(w.row))
		w.row = append(w.row, s)
	}
	return places
}

// P15.2 to P15.4: all ways in which few statements can stand within others come to what was written.
func TestTrees(t *testing.T) {
	turn := 0
	for n := range 6 {
		for _, l := range forests(n) {
			w := writer{turn: turn}
			w.src.WriteString("mode pop3;")
			want := api.Prog{Mode: api.Pop3}
			want.Top = w.write(l)
			want.Stmts = w.row
			turn = w.turn % 1000
			p, at, is := parse.All(w.src.String())
			if !same(p, want) || at != 0 || is != 0 {
				t.Fatalf("All(%q) = %v, %d, %d, want %v", w.src.String(), p, at, is, want)
			}
			once(t, w.src.String(), p)
		}
	}
}

// openers are what has a `{` that counts: the else's counts, and its if's no more.
var openers = []string{`if cap "a" {`, "pipe 1 {", `if code "" {stop;} else {`, `pipe 1{}if text "{" {`}

// P15.2: each opener at each depth, up to eight, and nine, and more; closed behind, or not.
func TestDeep(t *testing.T) {
	for _, one := range openers {
		for _, other := range openers {
			for n := range 12 {
				src := "mode smtp;"
				ninth := 0
				for i := range n {
					if i == 8 {
						ninth = len(src) + strings.Index(other, "{")
					}
					src += []string{one, other}[i%2]
				}
				switch {
				case n > 8 && one == other:
					wrong(t, src, ninth, api.ErrDeep)
					wrong(t, src+strings.Repeat("}", n), ninth, api.ErrDeep)
					wrong(t, src+"?", len(src), api.ErrByte)
				case n > 8:
					if _, _, is := all(t, src); is != api.ErrDeep {
						t.Errorf("%q: %d", src, is)
					}
				case n > 0:
					wrong(t, src, len(src), api.ErrSyntax)
				}
				if n > 8 {
					continue
				}
				right(t, src+strings.Repeat("}", n))
				right(t, src+"stop;"+strings.Repeat("}stop;", n))
				for k := range n {
					all(t, src+strings.Repeat("}", k)+" else {"+strings.Repeat("}", n-k+1))
					all(t, src+strings.Repeat("}", k)+other+strings.Repeat("}", n-k+1))
				}
			}
		}
	}
}

// P15.2: what is too deep is a `{` that else might stand there; what may not stand is told where it comes first.
func TestDeepOrSyntax(t *testing.T) {
	eight := "mode ftp;" + strings.Repeat(`if cap "" {`, 8)
	at := len(eight)
	for behind, want := range map[string]struct {
		n     int
		fault api.Errno
	}{
		`pipe 1 {`:                   {7, api.ErrDeep},
		`pipe 1 { ;`:                 {7, api.ErrDeep},
		`pipe 1 {}}}}}}}}}`:          {7, api.ErrDeep},
		`pipe 1 ;`:                   {7, api.ErrSyntax},
		`pipe {`:                     {5, api.ErrSyntax},
		`pipe 1 1 {`:                 {7, api.ErrSyntax},
		`{`:                          {0, api.ErrSyntax},
		`stop {`:                     {5, api.ErrSyntax},
		`stop; {`:                    {6, api.ErrSyntax},
		`else {`:                     {0, api.ErrSyntax},
		`} else { } else {`:          {11, api.ErrSyntax},
		`} else { pipe 1 {`:          {16, api.ErrDeep},
		`} else { if code "2" {`:     {21, api.ErrDeep},
		`} else { stop } pipe 1 {`:   {14, api.ErrSyntax},
		`} pipe 1 { } pipe 1 { if`:   {24, api.ErrSyntax},
		`} pipe 1 { pipe 1 {`:        {18, api.ErrDeep},
		`}} pipe 1 { pipe 1 { } ; `:  {23, api.ErrSyntax},
		`}}pipe 1{pipe 1{pipe 1{`:    {22, api.ErrDeep},
		`} pipe 1 { } else {`:        {13, api.ErrSyntax},
		`print "{"; print "{" "{"`:   {21, api.ErrSyntax},
		`if cap "" {`:                {10, api.ErrDeep},
		`if cap "" { } else { } } ?`: {25, api.ErrByte},
	} {
		wrong(t, eight+behind, at+want.n, want.fault)
	}
	right(t, eight+"}else{"+strings.Repeat("}", 8))
	right(t, eight+strings.Repeat("} else { }", 8))
	right(t, eight+strings.Repeat("} else { } pipe 1 { }", 7)+"}")
}

// P15.2: a hundred statements may be, wherever they stand, and one more may not, if nothing else is wrong.
func TestMany(t *testing.T) {
	for _, x := range []struct {
		ahead, one, behind string
		more               int // statements beside
	}{
		{"", "stop;", "", 0},
		{"", "on a;", "", 0},
		{"", "stop;", "stop;", 1},
		{"stop;", "stop;", "", 1},
		{"pipe 1 {", "stop;", "}", 1},
		{`if cap "" {`, "stop;", "}", 1},
		{`if cap "" {} else {`, "stop;", "}", 1},
		{`if cap "" {stop;} else {`, "stop;", "}stop;", 3},
		{strings.Repeat("pipe 1 {", 8), "stop;", strings.Repeat("}", 8), 8},
		{strings.Repeat("pipe 1 {stop;", 8), "stop;", strings.Repeat("stop;}", 8), 24},
	} {
		for n := 98; n < 110; n++ {
			rows := "mode smtp;" + x.ahead + strings.Repeat(x.one, n-x.more)
			src := rows + x.behind
			if lexed, _, is := lex.All(src); is != 0 || len(lexed) > 401 {
				t.Fatalf("%q: %d", src, is)
			}
			wrong(t, rows+";"+x.behind, len(rows), api.ErrSyntax)
			wrong(t, src+"}", len(src), api.ErrSyntax)
			wrong(t, src+"?", len(src), api.ErrByte)
			wrong(t, src+strings.Repeat("pipe 2{", 9), len(src)+62, api.ErrDeep)
			if n > 100 {
				wrong(t, src, 0, api.ErrBig)
			} else if p := right(t, src); len(p.Stmts) != n {
				t.Errorf("%q: %d", src, len(p.Stmts))
			}
		}
	}
	wrong(t, "mode smtp;"+strings.Repeat("stop;", 198), 0, api.ErrBig)
	wrong(t, "mode smtp;"+strings.Repeat("stop;", 199), 0, api.ErrBig)
	wrong(t, "mode smtp;"+strings.Repeat("stop;", 99)+"stop;stop", 10+5*101-1, api.ErrSyntax)
}

// P15.2: layer 14's bounds: so many bytes and tokens, and one more.
func TestBounds(t *testing.T) {
	src := "mode smtp;"
	right(t, src+strings.Repeat(" ", 1990))
	wrong(t, src+strings.Repeat(" ", 1991), 0, api.ErrBig)
	right(t, src+strings.Repeat("#", 1990))
	wrong(t, "stop;"+strings.Repeat("#", 2000), 0, api.ErrBig)
	wrong(t, strings.Repeat(";", 400), 0, api.ErrSyntax)
	wrong(t, strings.Repeat(";", 401), 0, api.ErrBig)
	text := `"` + strings.Repeat("a", 100) + `"`
	if p := right(t, src+"send "+text+text+";"); p.Stmts[0].S != strings.Repeat("a", 100) || p.Stmts[0].T != p.Stmts[0].S {
		t.Error(p)
	}
	wrong(t, src+`print "`+strings.Repeat("a", 101)+`";`, 16, api.ErrText)
	full := src + strings.Repeat(`auth a "" "" ;`, 79)
	right(t, full+"stop;")
	wrong(t, full+"stop;;", 0, api.ErrBig)
	wrong(t, full+"on a;", 0, api.ErrBig)
	wrong(t, full+"on a", len(full)+4, api.ErrSyntax)
	wrong(t, full+"; ;", len(full), api.ErrSyntax)
}

// P15.3: the lists of a script that has many, by example.
func TestLists(t *testing.T) {
	p := right(t, `mode pop3; stop; if cap "a" { stop; if text "b" { stop; stop; } else { stop; } stop; } else { pipe 3 { } stop; } if code "+" { } else { } if code "-" { } stop;`)
	lists := []struct {
		kind int
		l, m []int
	}{
		{api.StStop, nil, nil}, {api.StStop, nil, nil}, {api.StStop, nil, nil}, {api.StStop, nil, nil}, {api.StStop, nil, nil},
		{api.StIf, []int{2, 3}, []int{4}}, {api.StStop, nil, nil}, {api.StPipe, nil, nil}, {api.StStop, nil, nil},
		{api.StIf, []int{1, 5, 6}, []int{7, 8}}, {api.StIf, nil, nil}, {api.StIf, nil, nil}, {api.StStop, nil, nil},
	}
	if len(p.Stmts) != len(lists) || !slices.Equal(p.Top, []int{0, 9, 10, 11, 12}) {
		t.Fatal(p)
	}
	for i, want := range lists {
		if s := p.Stmts[i]; s.Kind != want.kind || !slices.Equal(s.L, want.l) || !slices.Equal(s.M, want.m) {
			t.Errorf("%d: %v, want %v", i, s, want)
		}
	}
}

// P15.3, R5: a statement has what its shape has, and no more; an else is none of its texts.
func TestNoMore(t *testing.T) {
	p := right(t, `mode ftp; if cap "a" { } else { } pipe 7 { } greet "2"; stop;`)
	want := []api.Stmt{{Kind: api.StIf, S: "cap", T: "a", At: 10}, {Kind: api.StPipe, N: 7, At: 34}, {Kind: api.StGreet, T: "2", At: 45}, {Kind: api.StStop, At: 56}}
	if !slices.EqualFunc(p.Stmts, want, sameStmt) {
		t.Errorf("%v, want %v", p.Stmts, want)
	}
}

// lists are all of a script's.
func lists(p api.Prog) [][]int {
	l := [][]int{p.Top}
	for _, s := range p.Stmts {
		l = append(l, s.L, s.M)
	}
	return l
}

// R6, R7: the same is answered again; each list is the caller's own, and no two share any, nor the room behind them.
func TestAnswersAreOnesOwn(t *testing.T) {
	sources := []string{
		"mode ftp;",
		`mode smtp; if cap "a" { stop; stop; stop; } else { stop; on a; } stop; stop;`,
		`mode smtp; if cap "a" { if cap "b" { stop; } stop; } else { if cap "c" { } else { stop; stop; } stop; } pipe 3 { stop; }`,
		"mode smtp;" + strings.Repeat("pipe 1 { stop;", 8) + strings.Repeat("stop; }", 8),
		"mode smtp;" + strings.Repeat("stop;", 100),
		"mode smtp;" + strings.Repeat("stop;", 101),
		"mode smtp; stop",
	}
	for _, src := range sources {
		kept, _, _ := all(t, src)
		want, _, _ := allWant(src)
		for i := range lists(kept) {
			p, _, _ := parse.All(src)
			spoilt := lists(p)[i]
			for at := range spoilt[:cap(spoilt)] {
				spoilt[:cap(spoilt)][at] = -7
			}
			for k, l := range lists(p) {
				if k != i && !slices.Equal(l, lists(want)[k]) {
					t.Errorf("%q: the list %d shares with the list %d", src, k, i)
				}
			}
		}
		p, _, _ := parse.All(src)
		room := p.Stmts[:cap(p.Stmts)]
		for at := range room {
			room[at] = api.Stmt{Kind: 99, L: []int{-7}}
		}
		if !same(kept, want) {
			t.Errorf("%q: %v, want %v", src, kept, want)
		}
		all(t, src)
	}
}

// R1, R2: very long sources end, with nothing but what is told.
func TestGreat(t *testing.T) {
	for _, one := range []string{" ", "#", "a", `"`, "{", "}", "stop;", `if cap "" {`, "\x00"} {
		for _, src := range []string{strings.Repeat(one, 1<<22), "mode ftp;" + strings.Repeat(one, 1<<22)} {
			if p, at, is := parse.All(src); !same(p, api.Prog{}) || at != 0 || is != api.ErrBig {
				t.Errorf("%q: %d, %d", one, at, is)
			}
		}
	}
	for n := range 8 {
		each([]string{"{", "}", `if cap "" {`}, n, func(s string) {
			all(t, s)
			all(t, "mode ftp; "+s+strings.Repeat(s, 20))
		})
	}
}
