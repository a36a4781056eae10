package code_test

import (
	"fmt"
	"math"
	"reflect"
	"slices"
	"strconv"
	"strings"
	"testing"

	"rejoinder/api"
	"rejoinder/check"
	"rejoinder/code"
)

// modes are the protocols' names; the first is 1.
var modes = []string{"smtp", "pop3", "ftp"}

// size is how many ops the statements of these places have.
func size(p api.Prog, places []int) int {
	n := 0
	for _, at := range places {
		s := p.Stmts[at]
		switch s.Kind {
		case 13:
		case 5:
			n += 1 + size(p, s.L)
			if len(s.M) != 0 {
				n += 1 + size(p, s.M)
			}
		case 6:
			n += 1 + size(p, s.L)
		default:
			n++
		}
	}
	return n
}

// labelsOf are the places of the ops behind the labels among these statements, of which the first op is at n.
func labelsOf(p api.Prog, places []int, n int) map[string]int {
	all := map[string]int{}
	for i, at := range places {
		s := p.Stmts[at]
		here := n + size(p, places[:i])
		if s.Kind == 13 {
			all[s.S] = here
		}
		for name, to := range labelsOf(p, s.L, here+1) {
			all[name] = to
		}
		for name, to := range labelsOf(p, s.M, here+2+size(p, s.L)) {
			all[name] = to
		}
	}
	return all
}

// opsOf are the ops of these statements, word for word, of which the first one is at n.
func opsOf(p api.Prog, places []int, n int, labels map[string]int) []api.Op {
	var l []api.Op
	for i, at := range places {
		s := p.Stmts[at]
		here := n + size(p, places[:i])
		behindL := here + 1 + size(p, s.L)
		switch s.Kind {
		case 13:
		case 14:
			l = append(l, api.Op{Kind: 18, To: labels[s.S]})
		case 15:
			l = append(l, api.Op{Kind: 15, To: labels[s.S]})
		case 5:
			if len(s.M) == 0 {
				l = append(l, api.Op{Kind: 5, S: s.S, T: s.T, To: behindL})
				l = append(l, opsOf(p, s.L, here+1, labels)...)
				break
			}
			l = append(l, api.Op{Kind: 5, S: s.S, T: s.T, To: behindL + 1})
			l = append(l, opsOf(p, s.L, here+1, labels)...)
			l = append(l, api.Op{Kind: 18, To: behindL + 1 + size(p, s.M)})
			l = append(l, opsOf(p, s.M, behindL+1, labels)...)
		case 6:
			l = append(l, api.Op{Kind: 6, N: s.N, To: behindL})
			l = append(l, opsOf(p, s.L, here+1, labels)...)
		default:
			l = append(l, api.Op{Kind: s.Kind, S: s.S, T: s.T, U: s.U, N: s.N})
		}
	}
	return l
}

// ofWant is P18.1.
func ofWant(p api.Prog) []api.Op {
	return append(opsOf(p, p.Top, 0, labelsOf(p, p.Top, 0)), api.Op{Kind: 19})
}

// there holds P18.3.
func there(t *testing.T, what string, ops []api.Op) {
	t.Helper()
	for i, op := range ops {
		if op.To < 0 || op.To >= len(ops) {
			t.Fatalf("%.300s: the op %d, %v, goes to none of %d", what, i, op, len(ops))
		}
	}
}

// of holds Of against the chapter's words.
func of(t *testing.T, p api.Prog) []api.Op {
	t.Helper()
	ops, want := code.Of(p), ofWant(p)
	if !slices.Equal(ops, want) {
		t.Fatalf("Of(%.500v) = %.900v, want %.900v", p, ops, want)
	}
	there(t, fmt.Sprint(p), ops)
	return ops
}

// source holds Source, and Of of what check.Source tells, against the chapter's words.
func source(t *testing.T, src string) ([]api.Op, api.Errno) {
	t.Helper()
	ops, mode, at, is := code.Source(src)
	p, wantAt, want := check.Source(src)
	if mode != p.Mode || at != wantAt || is != want {
		t.Fatalf("Source(%.300q) = mode %d, %d, %d, want %d, %d, %d", src, mode, at, is, p.Mode, wantAt, want)
	}
	if want != 0 {
		if len(ops) != 0 {
			t.Fatalf("Source(%.300q) = %v, beside %d", src, ops, is)
		}
		return ops, is
	}
	if good := of(t, p); !slices.Equal(ops, good) {
		t.Fatalf("Source(%.300q) = %v, want %v", src, ops, good)
	}
	return ops, is
}

// short writes ops as texts: a word, texts and the number if there are some, and where it goes, of those that go.
func short(ops []api.Op) string {
	words := []string{1: "let", "greet", "send", "caps", "if", "pipe", "auth", "data", "body", "get", "put", "timeout", "label", "goto", "on", "print", "stop", "jump", "end"}
	var l []string
	for _, op := range ops {
		x := words[op.Kind]
		for _, s := range []string{op.S, op.T, op.U} {
			if s != "" {
				x += " " + s
			}
		}
		if op.N != 0 {
			x += " " + strconv.Itoa(op.N)
		}
		if op.Kind == 5 || op.Kind == 6 || op.Kind == 15 || op.Kind == 18 || op.To != 0 {
			x += " -> " + strconv.Itoa(op.To)
		}
		l = append(l, x)
	}
	return strings.Join(l, "; ")
}

// told holds that a script's ops are as the chapter's words say, and as is said here.
func told(t *testing.T, src, want string) {
	t.Helper()
	ops, is := source(t, src)
	if got := short(ops); is != 0 || got != want {
		t.Errorf("%.300q: %s, %d, want %s", src, got, is, want)
	}
}

// wrong holds that a script is no ops, but this error at this place.
func wrong(t *testing.T, src string, at int, is api.Errno) {
	t.Helper()
	source(t, src)
	if ops, mode, gotAt, got := code.Source(src); len(ops) != 0 || mode != 0 || gotAt != at || got != is {
		t.Errorf("%.300q: %v, %d, %d, %d, want %d, %d", src, ops, mode, gotAt, got, at, is)
	}
}

// P18.1: the chapter's example.
func TestExample(t *testing.T) {
	ops, mode, at, is := code.Source("mode smtp; label a; goto a;")
	if !slices.Equal(ops, []api.Op{{Kind: api.OpJump}, {Kind: api.OpEnd}}) || mode != api.Smtp || at != 0 || is != api.OK {
		t.Errorf("%v, %d, %d, %d", ops, mode, at, is)
	}
}

// P18.1: by hand: the op of each statement that stands alone.
func TestEachStatement(t *testing.T) {
	for src, want := range map[string]string{
		``:                             "",
		`let a = "x";`:                 "let a x; ",
		`greet "2";`:                   "greet 2; ",
		`send "A" "2,3";`:              "send A 2,3; ",
		`caps "EHLO me" "250";`:        "caps EHLO me 250; ",
		`if cap "x" {}`:                "if cap x -> 1; ",
		`if code "2" {} else {}`:       "if code 2 -> 1; ",
		`pipe 8 {}`:                    "pipe 8 -> 1; ",
		`auth cram "tim" "secret";`:    "auth cram tim secret; ",
		`data "a\nb" "250";`:           "data a\nb 250; ",
		`timeout 9;`:                   "timeout 9; ",
		`timeout 0;`:                   "timeout; ",
		`timeout 999999999;`:           "timeout 999999999; ",
		`label a;`:                     "",
		`label a; label b; label c;`:   "",
		`label a; goto a;`:             "jump -> 0; ",
		`goto a; label a;`:             "jump -> 1; ",
		`on a; label a;`:               "on -> 1; ",
		`label a; on a;`:               "on -> 0; ",
		`print "$$";`:                  "print $$; ",
		`print "";`:                    "print; ",
		`stop;`:                        "stop; ",
		`stop; stop; stop; stop;`:      "stop; stop; stop; stop; ",
		`pipe 1 { send "A" "2"; }`:     "pipe 1 -> 2; send A 2; ",
		`if text "x" { stop; }`:        "if text x -> 2; stop; ",
		`if cap "x" {} else { stop; }`: "if cap x -> 2; jump -> 3; stop; ",
	} {
		told(t, "mode smtp; "+src, want+"end")
	}
	told(t, `mode pop3; body a "RETR 1" "+";`, "body a RETR 1 +; end")
	told(t, `mode pop3; auth apop "tim" "x";`, "auth apop tim x; end")
	told(t, `mode ftp; get a "RETR x";`, "get a RETR x; end")
	told(t, `mode ftp; put "STOR x" "y";`, "put STOR x y; end")
}

// P18.1, R5: each kind's op has what is named of it alone, whatever stands in its statement's fields.
func TestFields(t *testing.T) {
	for kind := 1; kind <= 17; kind++ {
		for _, n := range []int{math.MinInt, -1, 0, 1, 8, math.MaxInt} {
			for _, at := range []int{-1, 0, 5, 1999} {
				s := api.Stmt{Kind: kind, S: "s", T: "t", U: "u", N: n, At: at}
				end := api.Op{Kind: 19}
				var want []api.Op
				switch kind {
				case 5:
					want = []api.Op{{Kind: 5, S: "s", T: "t", To: 3}, {Kind: 17}, {Kind: 18, To: 4}, {Kind: 17}, end}
					s.L, s.M = []int{0}, []int{1}
				case 6:
					want = []api.Op{{Kind: 6, N: n, To: 2}, {Kind: 17}, end}
					s.L = []int{0}
				case 13:
					want = []api.Op{end}
				case 14:
					want = []api.Op{{Kind: 18}, end}
				case 15:
					want = []api.Op{{Kind: 15}, end}
				default:
					want = []api.Op{{Kind: kind, S: "s", T: "t", U: "u", N: n}, end}
				}
				p := api.Prog{Mode: 1, Stmts: []api.Stmt{{Kind: 17}, {Kind: 17}, s, {Kind: 13, S: "s"}}, Top: []int{3, 2}}
				if got := code.Of(p); !slices.Equal(got, want) {
					t.Errorf("%v: %v, want %v", s, got, want)
				}
			}
		}
	}
}

// P18.1: by hand: where an if goes, with and without what it has, and within others.
func TestIfs(t *testing.T) {
	for src, want := range map[string]string{
		`if cap "x" {} stop;`:                "if cap x -> 1; stop",
		`if cap "x" {} else {} stop;`:        "if cap x -> 1; stop",
		`if cap "x" { stop; } else {} stop;`: "if cap x -> 2; stop; stop",
		`if cap "x" { print "a"; stop; } else { print "b"; stop; } greet "2";`:                                                 "if cap x -> 4; print a; stop; jump -> 6; print b; stop; greet 2",
		`if cap "x" {} else { label a; } stop;`:                                                                                "if cap x -> 2; jump -> 2; stop",
		`if cap "x" { label a; } stop;`:                                                                                        "if cap x -> 1; stop",
		`if cap "x" { label a; } else { label b; }`:                                                                            "if cap x -> 2; jump -> 2",
		`if cap "x" { if cap "y" { if cap "z" { } } }`:                                                                         "if cap x -> 3; if cap y -> 3; if cap z -> 3",
		`if cap "x" {} else { if cap "y" {} else { if cap "z" {} else { } } }`:                                                 "if cap x -> 2; jump -> 5; if cap y -> 4; jump -> 5; if cap z -> 5",
		`if cap "x" { if cap "y" { stop; } else { print "b"; } } else { if cap "z" { stop; } else { print "c"; } } print "d";`: "if cap x -> 6; if cap y -> 4; stop; jump -> 5; print b; jump -> 10; if cap z -> 9; stop; jump -> 10; print c; print d",
		`stop; if cap "x" { pipe 2 { send "a" "2"; send "b" "2"; } } else { pipe 3 {} } stop;`:                                 "stop; if cap x -> 6; pipe 2 -> 5; send a 2; send b 2; jump -> 7; pipe 3 -> 7; stop",
		`pipe 2 { send "a" "2"; } pipe 3 {} pipe 4 { send "b" "2"; send "c" "3"; }`:                                            "pipe 2 -> 2; send a 2; pipe 3 -> 3; pipe 4 -> 6; send b 2; send c 3",
	} {
		told(t, "mode smtp; "+src, want+"; end")
	}
}

// P18.1: by hand: where a goto and an on go: to the op that comes next behind the label, wherever it stands.
func TestLabels(t *testing.T) {
	for src, want := range map[string]string{
		`goto a; label a;`:                                                                 "G -> 1",
		`stop; goto a; stop; label a; stop;`:                                               "stop; G -> 3; stop; stop",
		`stop; label a; stop; goto a; stop;`:                                               "stop; stop; G -> 1; stop",
		`label a; label b; stop; goto b; goto a;`:                                          "stop; G -> 0; G -> 0",
		`goto a; goto a; goto b; label b; stop; label a; goto b; goto a;`:                  "G -> 4; G -> 4; G -> 3; stop; G -> 3; G -> 4",
		`goto a; if cap "x" { label a; stop; }`:                                            "G -> 2; if cap x -> 3; stop",
		`goto a; if cap "x" { stop; label a; }`:                                            "G -> 3; if cap x -> 3; stop",
		`goto a; if cap "x" { stop; label a; } else { stop; }`:                             "G -> 3; if cap x -> 4; stop; jump -> 5; stop",
		`goto a; if cap "x" { stop; label a; } else {} stop;`:                              "G -> 3; if cap x -> 3; stop; stop",
		`goto a; if cap "x" { stop; } else { label a; stop; }`:                             "G -> 4; if cap x -> 4; stop; jump -> 5; stop",
		`goto a; if cap "x" { stop; } else { stop; label a; } stop;`:                       "G -> 5; if cap x -> 4; stop; jump -> 5; stop; stop",
		`goto a; if cap "x" {} else { label a; }`:                                          "G -> 3; if cap x -> 3; jump -> 3",
		`if cap "x" { goto a; } label a; stop;`:                                            "if cap x -> 2; G -> 2; stop",
		`if cap "x" { stop; } else { goto a; } stop; label a;`:                             "if cap x -> 3; stop; jump -> 4; G -> 5; stop",
		`label a; if cap "x" { goto a; } else { if cap "y" { label b; goto b; goto a; } }`: "if cap x -> 3; G -> 0; jump -> 6; if cap y -> 6; G -> 4; G -> 0",
		`label a; pipe 2 { send "x" "2"; } label b; goto a; goto b;`:                       "pipe 2 -> 2; send x 2; G -> 0; G -> 2",
		`goto a; pipe 2 { send "x" "2"; } label a;`:                                        "G -> 3; pipe 2 -> 3; send x 2",
		`goto ab; goto a; label a; stop; label ab; label a_; goto a_;`:                     "G -> 3; G -> 2; stop; G -> 3",
		`let a = "a"; goto a; print "a"; label a; print "$a";`:                             "let a a; G -> 3; print a; print $a",
	} {
		told(t, "mode smtp; "+src, strings.ReplaceAll(want, "G", "jump")+"; end")
		told(t, "mode smtp; "+strings.ReplaceAll(src, "goto", "on"), strings.ReplaceAll(want, "G", "on")+"; end")
	}
	told(t, `mode ftp; goto a; on a; label a; on b; goto b; stop; label b;`, "jump -> 2; on -> 2; on -> 5; jump -> 5; stop; end")
}

// rows calls f with all rows of up to n of the pieces.
func rows(pieces []string, n int, f func(row string)) {
	f("")
	if n == 0 {
		return
	}
	for _, x := range pieces {
		rows(pieces, n-1, func(row string) { f(x + row) })
	}
}

// P18.1 to P18.3: all short rows of statements, and of what opens and closes.
func TestShortRows(t *testing.T) {
	pieces := []string{
		`let a="";`, `greet "2";`, `send "$a" "+";`, `caps "" "2";`, `if code "2"{`, `if cap "x"{`, `}`, `}else{`, `pipe 1{`, `pipe 9{`, `auth cram "u" "v";`, `auth apop "u" "v";`,
		`data "d" "2";`, `body a "e" "+";`, `get b "f";`, `put "g" "$b";`, `label a;`, `label b;`, `goto a;`, `on b;`, `print "p";`, `stop;`, `timeout 7;`, `?`,
	}
	count := map[api.Errno]int{}
	for _, mode := range modes {
		rows(pieces, 3, func(row string) {
			_, is := source(t, "mode "+mode+";"+row)
			count[is]++
		})
	}
	for _, is := range []api.Errno{0, api.ErrByte, api.ErrSyntax, api.ErrArg, api.ErrMode, api.ErrTwice, api.ErrUnknown, api.ErrLabel, api.ErrCodes} {
		if count[is] < 20 {
			t.Errorf("%d is told %d times", is, count[is])
		}
	}
}

// trees calls f with all rows of n statements that may stand within ifs and their elses: an x is one that has none within.
func trees(n int, f func(row string)) {
	if n == 0 {
		f("")
		return
	}
	for within := range n {
		trees(n-1-within, func(behind string) {
			if within == 0 {
				f("x" + behind)
			}
			for inElse := range within + 1 {
				trees(within-inElse, func(l string) {
					trees(inElse, func(m string) {
						f(`if cap "t"{` + l + "}else{" + m + "}" + behind)
					})
				})
			}
		})
	}
}

// P18.1, P18.3: all ways in which up to five statements can stand within ifs and elses, with one label at each place, to which all others go.
func TestTrees(t *testing.T) {
	seen := 0
	for n := range 6 {
		trees(n, func(row string) {
			parts := strings.SplitAfter(row, "x")
			for k := range parts {
				one := ""
				for i, part := range parts {
					word := []string{"goto a;", "on a;", "print \"y\";"}[i%3]
					if i == k {
						word = "label a;"
					}
					one += strings.ReplaceAll(part, "x", word)
				}
				if !strings.Contains(one, "label") {
					one = "label a;" + one
				}
				if _, is := source(t, "mode ftp;"+one); is != 0 {
					t.Fatalf("%q: %d", one, is)
				}
				seen++
			}
		})
	}
	if seen < 1000 {
		t.Errorf("%d seen", seen)
	}
}

// P18.1, P18.3: by one label each, a place in a script from its begin to its end.
func TestEachPlace(t *testing.T) {
	parts := []string{`goto z;`, `if cap "a" {`, `send "b" "2";`, `on z;`, `} else {`, `print "c";`, `if code "3" {`, `stop;`, `}`, `goto z;`, `}`, `pipe 3 { send "d" "2"; send "e" "2"; }`, `if text "f" {`, `} else {`, `}`, `goto z;`}
	var to []int
	for k := range len(parts) + 1 {
		ops, is := source(t, "mode smtp;"+strings.Join(slices.Insert(slices.Clone(parts), k, "label z;"), ""))
		if is != 0 {
			t.Fatal(k, is)
		}
		to = append(to, ops[0].To)
	}
	// Of the last label but two the else is not empty any more, so one jump more stands there.
	if want := []int{0, 1, 2, 3, 4, 5, 6, 7, 8, 8, 9, 9, 12, 13, 14, 13, 14}; !slices.Equal(to, want) {
		t.Errorf("%v, want %v", to, want)
	}
}

// full is a script with each statement that its protocol has.
var full = map[string]string{
	"smtp": `mode smtp; timeout 9; greet "220"; let a = "x$$"; caps "EHLO $a" "250"; on z; if cap "PIPE" { pipe 8 { send "a" "2"; send "$a" "250,251"; } } else { send "b" "2,3"; goto y; } auth cram "$a" "b"; label y; data "$a" "354"; if code "5" { stop; } label z; print "$a";`,
	"pop3": `mode pop3; timeout 9; greet "+"; let a = "x$$"; caps "CAPA $a" "+"; on z; if text "hi" { pipe 1 { send "a" "+"; send "$a" "+,-"; } } else { send "b" "+"; goto y; } auth apop "$a" "b"; label y; body b "RETR $a" "+"; if code "-" { stop; } label z; print "$a$b";`,
	"ftp":  `mode ftp; timeout 9; greet "220"; let a = "x$$"; caps "FEAT $a" "211"; on z; if text "hi" { send "b" "2"; goto y; } label y; get g "RETR $a"; put "STOR $a" "$g"; if code "5" { stop; } label z; print "$a$g";`,
}

// P18.1, P18.2: scripts with each statement, by hand.
func TestFullScripts(t *testing.T) {
	told(t, full["smtp"], "timeout 9; greet 220; let a x$$; caps EHLO $a 250; on -> 16; if cap PIPE -> 10; pipe 8 -> 9; send a 2; send $a 250,251; jump -> 12; send b 2,3; jump -> 13; auth cram $a b; data $a 354; if code 5 -> 16; stop; print $a; end")
	told(t, full["pop3"], "timeout 9; greet +; let a x$$; caps CAPA $a +; on -> 16; if text hi -> 10; pipe 1 -> 9; send a +; send $a +,-; jump -> 12; send b +; jump -> 13; auth apop $a b; body b RETR $a +; if code - -> 16; stop; print $a$b; end")
	told(t, full["ftp"], "timeout 9; greet 220; let a x$$; caps FEAT $a 211; on -> 12; if text hi -> 8; send b 2; jump -> 8; get g RETR $a; put STOR $a $g; if code 5 -> 12; stop; print $a$g; end")
}

// P18.1 to P18.3: scripts with each statement, with each byte or statement left out, put in, or in the stead of each, as the chapter's words say.
func TestNearlyFullScripts(t *testing.T) {
	for _, mode := range modes {
		src := full[mode]
		for i := range src {
			source(t, src[:i]+src[i+1:])
			source(t, src[:i])
			for _, b := range []byte("az$+2 \"};0") {
				source(t, src[:i]+string(b)+src[i:])
				source(t, src[:i]+string(b)+src[i+1:])
			}
		}
		for _, other := range modes {
			source(t, strings.Replace(src, mode, other, 1))
		}
		stmts := strings.SplitAfter(src, ";")
		for i := range stmts {
			source(t, strings.Join(slices.Delete(slices.Clone(stmts), i, i+1), ""))
			for j := range stmts {
				source(t, strings.Join(slices.Insert(slices.Clone(stmts), i, stmts[j]), ""))
				stmts[i], stmts[j] = stmts[j], stmts[i]
				source(t, strings.Join(stmts, ""))
				stmts[i], stmts[j] = stmts[j], stmts[i]
			}
		}
	}
}

// P18.2, R2, R3: by hand: what check.Source tells, with nothing beside it.
func TestErrors(t *testing.T) {
	for src, want := range map[string]struct {
		at int
		is api.Errno
	}{
		"":                                {0, api.ErrSyntax},
		"mode":                            {4, api.ErrSyntax},
		"mode imap;":                      {5, api.ErrSyntax},
		"mode smtp; ?":                    {11, api.ErrByte},
		"mode smtp; \"":                   {11, api.ErrText},
		"mode smtp; 1234567890":           {11, api.ErrNumber},
		"mode smtp; abcdefghijklm":        {11, api.ErrName},
		"mode smtp; }":                    {11, api.ErrSyntax},
		strings.Repeat(" ", 2001):         {0, api.ErrBig},
		"mode smtp;goto x; stop; label y": {31, api.ErrSyntax},
		"mode smtp; goto x; stop;":        {11, api.ErrLabel},
		"mode smtp; stop; on x;":          {17, api.ErrLabel},
		"mode smtp; label a; label a;":    {20, api.ErrTwice},
		"mode smtp; pipe 0 {}":            {11, api.ErrArg},
		"mode ftp; pipe 1 {}":             {10, api.ErrMode},
		"mode pop3; data \"x\" \"+\";":    {11, api.ErrMode},
		"mode pop3; greet \"2\";":         {11, api.ErrCodes},
		"mode ftp; print \"$a\";":         {10, api.ErrUnknown},
		"mode ftp;" + strings.Repeat("if cap \"\" {", 9): {9 + 8*11 + 10, api.ErrDeep},
		"mode ftp;" + strings.Repeat("stop;", 101):       {0, api.ErrBig},
	} {
		wrong(t, src, want.at, want.is)
	}
}

// P18.2: the Mode is told of each protocol, also of scripts that do nothing.
func TestMode(t *testing.T) {
	for i, mode := range modes {
		for _, row := range []string{"", "stop;", "label a;", "goto a; label a;"} {
			ops, got, at, is := code.Source("mode " + mode + ";" + row)
			if len(ops) == 0 || got != i+1 || at != 0 || is != 0 {
				t.Errorf("%s %s: %v, %d, %d, %d", mode, row, ops, got, at, is)
			}
		}
	}
}

// P18.1 to P18.3: scripts as great as they may be.
func TestBounds(t *testing.T) {
	for _, x := range []string{"stop;", "goto a;", "on a;", "if cap\"\"{}", "if cap\"\"{}else{}", "pipe 8{}"} {
		for n := 90; n <= 99; n++ {
			source(t, "mode smtp;label a;"+strings.Repeat(x, n))
			source(t, "mode smtp;"+strings.Repeat(x, n)+"label a;")
		}
	}
	labels := ""
	for i := range 99 {
		labels += "label l" + strconv.Itoa(i) + ";"
	}
	told(t, "mode pop3;"+labels+"goto l0;", "jump -> 0; end")
	told(t, "mode pop3;goto l98;"+labels, "jump -> 1; end")
	for depth := range 9 {
		for _, inner := range []string{"", "stop;", "goto a;", "label b;"} {
			for _, closes := range []string{"}", "}else{}", "}else{stop;}", "}else{label X;}", "}stop;", "}goto a;"} {
				src := "mode ftp;label a;" + strings.Repeat("if cap\"\"{", depth) + inner
				for i := range depth {
					src += strings.ReplaceAll(closes, "X", "x"+strconv.Itoa(i))
				}
				if _, is := source(t, src); is != 0 {
					t.Errorf("%q: %d", src, is)
				}
				src = "mode ftp;label a;" + strings.Repeat("if cap\"\"{stop;}else{", depth) + inner + strings.Repeat("}", depth)
				if _, is := source(t, src); is != 0 {
					t.Errorf("%q: %d", src, is)
				}
			}
		}
	}
}

// walker runs the statements of a script as they stand within each other.
type walker struct {
	p    api.Prog
	next []int          // of each statement the one behind it, -1 at the end
	at   map[string]int // the labels
}

func walkerOf(p api.Prog) *walker {
	w := &walker{p: p, next: make([]int, len(p.Stmts)), at: map[string]int{}}
	w.chain(p.Top, -1)
	for i, s := range p.Stmts {
		if s.Kind == 13 {
			w.at[s.S] = i
		}
	}
	return w
}

func (w *walker) chain(places []int, behind int) {
	for i, at := range places {
		w.next[at] = behind
		if i+1 < len(places) {
			w.next[at] = places[i+1]
		}
		w.chain(w.p.Stmts[at].L, w.next[at])
		w.chain(w.p.Stmts[at].M, w.next[at])
	}
}

// first is the first of the places, or behind.
func first(places []int, behind int) int {
	if len(places) > 0 {
		return places[0]
	}
	return behind
}

// trace is what the statements do, each if by the next bit of choices; an on is where it goes as what comes next there.
func (w *walker) trace(choices uint, steps int) string {
	out := ""
	at := first(w.p.Top, -1)
	for range steps {
		if at < 0 {
			return out + "end."
		}
		s := w.p.Stmts[at]
		switch s.Kind {
		case 13:
			at = w.next[at]
		case 14:
			at = w.at[s.S]
		case 15:
			out += "on " + w.comes(w.at[s.S]) + "."
			at = w.next[at]
		case 5:
			out += "if " + s.T + "."
			if choices&1 == 1 {
				at = first(s.L, w.next[at])
			} else {
				at = first(s.M, w.next[at])
			}
			choices >>= 1
		case 6:
			out += "pipe."
			at = first(s.L, w.next[at])
		default:
			out += s.S + "."
			at = w.next[at]
		}
	}
	return out
}

// comes is the first statement from at on that does something.
func (w *walker) comes(at int) string {
	for range 200 {
		if at < 0 {
			return "end"
		}
		s := w.p.Stmts[at]
		switch s.Kind {
		case 13:
			at = w.next[at]
		case 14:
			at = w.at[s.S]
		default:
			return fmt.Sprint(s.Kind, s.S, s.T)
		}
	}
	return "for ever"
}

// runs is what the ops do, likewise.
func runs(ops []api.Op, choices uint, steps int) string {
	out := ""
	at := 0
	for range steps {
		op := ops[at]
		at++
		switch op.Kind {
		case 19:
			return out + "end."
		case 18:
			at = op.To
		case 15:
			out += "on " + reached(ops, op.To) + "."
		case 5:
			out += "if " + op.T + "."
			if choices&1 == 0 {
				at = op.To
			}
			choices >>= 1
		case 6:
			out += "pipe."
		default:
			out += op.S + "."
		}
	}
	return out
}

// reached is the first op from at on that is no jump.
func reached(ops []api.Op, at int) string {
	for range 200 {
		switch op := ops[at]; op.Kind {
		case 18:
			at = op.To
		case 19:
			return "end"
		case 15: // its statement has a label, too, which the op has not
			return "15"
		default:
			return fmt.Sprint(op.Kind, op.S, op.T)
		}
	}
	return "for ever"
}

// T1, P18.1: the ops do what the statements do, in the order in which they stand within each other, whichever ifs hold.
func TestDoesTheSame(t *testing.T) {
	pieces := []string{`label a;`, `goto a;`, `goto b;`, `print "x";`, `if cap "m"{`, `if cap "n"{print "y";`, `}`, `}else{`, `}else{print "z";}`, `label b;`}
	seen := 0
	rows(pieces, 5, func(row string) {
		src := "mode ftp;" + row + strings.Repeat("}", max(0, strings.Count(row, "{")-strings.Count(row, "}")))
		if strings.Contains(row, "goto b") && !strings.Contains(row, "label b") {
			src += "print \"w\";label b;"
		}
		p, _, is := check.Source(src)
		if is != 0 {
			return
		}
		seen++
		w := walkerOf(p)
		ops := code.Of(p)
		for choices := range uint(16) {
			// Both are cut after many steps, of which some are not seen, so just what was seen of both is held.
			want, got := w.trace(choices, 60), runs(ops, choices, 60)
			n := min(len(want), len(got))
			if want[:n] != got[:n] || strings.HasSuffix(want, "end.") != strings.HasSuffix(got, "end.") {
				t.Fatalf("%q by %b: the ops do %s, the statements %s", src, choices, got, want)
			}
		}
	})
	if seen < 1000 {
		t.Errorf("%d seen", seen)
	}
	for _, mode := range modes {
		p, _, _ := check.Source(full[mode])
		for choices := range uint(8) {
			want := walkerOf(p).trace(choices, 90)
			if got := runs(code.Of(p), choices, 90); got != want || !strings.Contains(want, "on ") {
				t.Errorf("%s by %b: the ops do %s, the statements %s", mode, choices, got, want)
			}
		}
	}
}

// R1, P18.3: scripts that check tells never: other kinds and places, a statement within itself, labels that are not there or are there twice.
func TestOddProgs(t *testing.T) {
	if got := code.Of(api.Prog{}); !slices.Equal(got, []api.Op{{Kind: 19}}) {
		t.Errorf("of nothing: %v", got)
	}
	odd := []int{math.MinInt, -1, 0, 1, 2, 3, 4, 5, 6, 7, 99, math.MaxInt} // of six
	for kind := -1; kind <= 20; kind++ {
		for _, within := range odd {
			for _, top := range odd {
				s := api.Stmt{Kind: kind, S: "q", L: []int{within, 0, 1, 2}, M: []int{within, 2, 1, 0, within}, N: 1}
				p := api.Prog{Mode: 1, Stmts: []api.Stmt{s, {Kind: 15, S: "r"}, s, {Kind: 14, S: "q"}, {Kind: 13, S: "t"}, {Kind: 13, S: "t"}}, Top: []int{top, 0, 2, top, 3, 4, 5}}
				ops := code.Of(p)
				there(t, fmt.Sprint(p), ops)
				if n := len(ops); ops[n-1] != (api.Op{Kind: 19}) {
					t.Errorf("%v: %v", p, ops)
				}
			}
		}
	}
}

// nested is a script of n levels, each an if within the L of the next one, or by turns its M.
func nested(n int, alsoElse bool) api.Prog {
	p := api.Prog{Mode: 3, Stmts: []api.Stmt{{Kind: 17}}, Top: []int{n}}
	for i := range n {
		s := api.Stmt{Kind: 5, S: "cap", L: []int{i}}
		if alsoElse && i%2 == 1 {
			s.L, s.M = nil, s.L
		}
		p.Stmts = append(p.Stmts, s)
	}
	return p
}

// R1, P18.3: great rows, and many levels.
func TestGreat(t *testing.T) {
	const levels = 1 << 16
	for _, alsoElse := range []bool{false, true} {
		ops := code.Of(nested(levels, alsoElse))
		there(t, "levels", ops)
		want := levels + 2
		if alsoElse {
			want += levels / 2
		}
		if len(ops) != want || ops[0].Kind != 5 || ops[want-2].Kind != 17 {
			t.Errorf("%d levels: %d ops, want %d", levels, len(ops), want)
		}
	}
	const n = 100000
	p := api.Prog{Mode: 1}
	for i := range n {
		name := "l" + strconv.Itoa(n-1-i)
		p.Stmts = append(p.Stmts, api.Stmt{Kind: 14, S: "l" + strconv.Itoa(i)}, api.Stmt{Kind: 13, S: name}, api.Stmt{Kind: 15, S: "l7"})
		p.Top = append(p.Top, 3*i, 3*i+1, 3*i+2)
	}
	ops := code.Of(p)
	if len(ops) != 2*n+1 {
		t.Fatalf("%d ops", len(ops))
	}
	for i := range n {
		if ops[2*i] != (api.Op{Kind: 18, To: 2*(n-1-i) + 1}) || ops[2*i+1] != (api.Op{Kind: 15, To: 2*(n-8) + 1}) {
			t.Fatalf("%d: %v, %v", i, ops[2*i], ops[2*i+1])
		}
	}
}

// roomy is p with spare room behind each list's end, in which something stands.
func roomy(p api.Prog) api.Prog {
	places := func(l []int) []int { return append(slices.Clone(l), 0, 1)[:len(l)] }
	q := api.Prog{Mode: p.Mode, Top: places(p.Top), Stmts: append(slices.Clone(p.Stmts), api.Stmt{Kind: 13, S: "z", At: 57})[:len(p.Stmts)]}
	for i := range q.Stmts {
		q.Stmts[i].L = places(q.Stmts[i].L)
		q.Stmts[i].M = places(q.Stmts[i].M)
	}
	return q
}

// whole is p with its lists up to the ends of their room.
func whole(p api.Prog) api.Prog {
	q := api.Prog{Mode: p.Mode, Top: p.Top[:cap(p.Top)], Stmts: slices.Clone(p.Stmts[:cap(p.Stmts)])}
	for i, s := range p.Stmts {
		q.Stmts[i].L, q.Stmts[i].M = s.L[:cap(s.L)], s.M[:cap(s.M)]
	}
	return q
}

// R6, R7: a script that is handed in stays as it is, and so does the room behind its lists, which does not matter.
func TestKeepsWhatIsGiven(t *testing.T) {
	for _, src := range []string{full["smtp"], full["pop3"], full["ftp"], "mode smtp;", "mode smtp; if cap \"x\" {} else {}", "mode smtp; label a; goto a; on b; if cap \"x\" { label b; } else { stop; }"} {
		p, _, fault := check.Source(src)
		if fault != 0 {
			t.Fatal(src, fault)
		}
		given, twin := roomy(p), roomy(p) // ahead of each call, which may spoil p
		want := code.Of(p)
		for range 3 {
			if got := code.Of(given); !slices.Equal(got, want) {
				t.Errorf("%q with room: %v, want %v", src, got, want)
			}
			if !reflect.DeepEqual(whole(given), whole(twin)) {
				t.Errorf("%q is changed", src)
			}
		}
	}
}

// R6, R7: what is answered is the caller's own: spoiling it changes no other answer.
func TestAnswersAreOnesOwn(t *testing.T) {
	for _, mode := range modes {
		p, _, _ := check.Source(full[mode])
		want := ofWant(p)
		kept, _, _, _ := code.Source(full[mode])
		also := code.Of(p)
		for range 3 {
			spoilt, _, _, _ := code.Source(full[mode])
			of := code.Of(p)
			for _, l := range [][]api.Op{spoilt, of} {
				for i := range l {
					l[i] = api.Op{Kind: 99, S: "spoilt", To: -1}
				}
				_ = append(l, api.Op{Kind: 98})
			}
		}
		again, _, _, _ := code.Source(full[mode])
		for _, l := range [][]api.Op{kept, also, again, code.Of(p)} {
			if !slices.Equal(l, want) {
				t.Errorf("%s: %v, want %v", mode, l, want)
			}
		}
	}
}

// R6: many labels, again and again: the order in which they are joined does not show, nor what was asked ahead.
func TestAgain(t *testing.T) {
	src := "mode ftp;"
	for i := range 24 {
		src += fmt.Sprintf("goto l%d;on l%d;label l%d;", 23-i, i*7%24, i)
	}
	want, is := source(t, src)
	if is != 0 {
		t.Fatal(is)
	}
	for range 300 {
		got, _, _, _ := code.Source(src)
		if !slices.Equal(got, want) {
			t.Fatalf("%v, want %v", got, want)
		}
		told(t, "mode ftp; goto l9; stop; label l9;", "jump -> 2; stop; end")
		wrong(t, "mode ftp; goto l8; stop; label l9;", 10, api.ErrLabel)
	}
}
