package check_test

import (
	"fmt"
	"math"
	"reflect"
	"regexp"
	"slices"
	"strconv"
	"strings"
	"testing"

	"rejoinder/api"
	"rejoinder/check"
	"rejoinder/parse"
	"rejoinder/vars"
)

// modes are the protocols' names; the first is 1.
var modes = []string{"smtp", "pop3", "ftp"}

// look is what the chapter says of a kind: in which protocols it may stand, and which of its fields are codes, and texts.
type look struct{ protos, codes, texts string }

// looks are those of the kinds, by their numbers.
var looks = []look{
	1:  {"123", "", "T"},
	2:  {"123", "T", ""},
	3:  {"123", "T", "S"},
	4:  {"123", "T", "S"},
	5:  {"123", "", ""}, // codes just where its S is code
	6:  {"12", "", ""},
	7:  {"12", "", "TU"},
	8:  {"1", "T", "S"},
	9:  {"2", "U", "T"},
	10: {"3", "", "T"},
	11: {"3", "", "ST"},
	12: {"123", "", ""},
	13: {"123", "", ""},
	14: {"123", "", ""},
	15: {"123", "", ""},
	16: {"123", "", "S"},
	17: {"123", "", ""},
}

// inOrder are the faults as the chapter names them.
var inOrder = []api.Errno{30, 1, 34, 31, 33, 32}

// codesOf are what codes of a protocol are.
var codesOf = []*regexp.Regexp{
	1: regexp.MustCompile(`\A[1-5][0-9]{0,2}(,[1-5][0-9]{0,2})*\z`),
	2: regexp.MustCompile(`\A[-+>](,[-+>])*\z`),
	3: regexp.MustCompile(`\A[1-5][0-9]{0,2}(,[1-5][0-9]{0,2})*\z`),
}

// aMark is what a `$` and what is behind it may be, and a `$` that is wrong.
var aMark = regexp.MustCompile(`\$(\$|[a-z][a-z0-9_]*)?`)

// field is a text of a statement, by its letter.
func field(s api.Stmt, letter rune) string {
	return map[rune]string{'S': s.S, 'T': s.T, 'U': s.U}[letter]
}

// within are all that stand within a statement, in others that do so too.
func within(p api.Prog, s api.Stmt) []api.Stmt {
	var all []api.Stmt
	for _, at := range append(slices.Clone(s.L), s.M...) {
		all = append(all, p.Stmts[at])
		all = append(all, within(p, p.Stmts[at])...)
	}
	return all
}

// called tells whether the row has a statement of one of the kinds with this S.
func called(row []api.Stmt, name string, kinds ...int) bool {
	for _, s := range row {
		if s.S == name && slices.Contains(kinds, s.Kind) {
			return true
		}
	}
	return false
}

// faults are all that the statement at i of the row is, word for word, in no order.
func faults(p api.Prog, i int) []api.Errno {
	s := p.Stmts[i]
	is := looks[s.Kind]
	var all []api.Errno
	if !strings.Contains(is.protos, strconv.Itoa(p.Mode)) {
		all = append(all, 30)
	}
	ways := []string{"plain", "login", "cram"}
	if p.Mode == 2 {
		ways = append(ways, "apop")
	}
	if s.Kind == 7 && !slices.Contains(ways, s.S) {
		all = append(all, 30)
	}
	if s.Kind == 6 {
		for _, x := range within(p, s) {
			if x.Kind != 3 {
				all = append(all, 30)
			}
		}
		if !slices.Contains([]int{1, 2, 3, 4, 5, 6, 7, 8}, s.N) {
			all = append(all, 1)
		}
	}
	codes := is.codes
	if s.Kind == 5 && s.S == "code" {
		codes = "T"
	}
	for _, letter := range codes {
		if !codesOf[p.Mode].MatchString(field(s, letter)) {
			all = append(all, 34)
		}
	}
	if s.Kind == 13 && called(p.Stmts[:i], s.S, 13) {
		all = append(all, 31)
	}
	if (s.Kind == 14 || s.Kind == 15) && !called(p.Stmts, s.S, 13) {
		all = append(all, 33)
	}
	for _, letter := range is.texts {
		for _, mark := range aMark.FindAllString(field(s, letter), -1) {
			if mark == "$" || mark != "$$" && !called(p.Stmts, mark[1:], 1, 9, 10) {
				all = append(all, 32)
			}
		}
	}
	return all
}

// progWant is P17.2.
func progWant(p api.Prog) (int, api.Errno) {
	for i, s := range p.Stmts {
		has := faults(p, i)
		for _, is := range inOrder {
			if slices.Contains(has, is) {
				return s.At, is
			}
		}
	}
	return 0, 0
}

// bound holds P17.3 of a script that may be run.
func bound(t *testing.T, p api.Prog) {
	t.Helper()
	for _, s := range p.Stmts {
		if (s.Kind == 14 || s.Kind == 15) && !called(p.Stmts, s.S, 13) {
			t.Fatalf("%v goes to a label that is not there", s)
		}
		for _, letter := range looks[s.Kind].texts {
			names, ok := vars.Names(field(s, letter))
			for _, name := range names {
				ok = ok && called(p.Stmts, name, 1, 9, 10)
			}
			if !ok {
				t.Fatalf("%v names a variable that is not there", s)
			}
		}
	}
}

// source holds Source, and Prog of what parse.All tells, against the chapter's words.
func source(t *testing.T, src string) (int, api.Errno) {
	t.Helper()
	p, at, is := check.Source(src)
	parsed, wantAt, want := parse.All(src)
	if want == 0 {
		wantAt, want = progWant(parsed)
		if progAt, progIs := check.Prog(parsed); progAt != wantAt || progIs != want {
			t.Fatalf("Prog of %.300q = %d, %d, want %d, %d", src, progAt, progIs, wantAt, want)
		}
	}
	if at != wantAt || is != want {
		t.Fatalf("Source(%.300q) = %d, %d, want %d, %d", src, at, is, wantAt, want)
	}
	if want != 0 {
		parsed = api.Prog{}
	} else {
		bound(t, p)
	}
	if !reflect.DeepEqual(p, parsed) {
		t.Fatalf("Source(%.300q) tells %v, want %v", src, p, parsed)
	}
	return at, is
}

// told holds that a script is as the chapter's words say, and as is said here.
func told(t *testing.T, src string, at int, is api.Errno) {
	t.Helper()
	if gotAt, got := source(t, src); gotAt != at || got != is {
		t.Errorf("%.300q: %d, %d, want %d, %d", src, gotAt, got, at, is)
	}
}

// alone holds that of a script, of these statements, the first statement is so.
func alone(t *testing.T, mode, row string, is api.Errno) {
	t.Helper()
	head := "mode " + mode + "; "
	at := 0
	if is != 0 {
		at = len(head)
	}
	told(t, head+row, at, is)
}

// P17.1, P17.2: the chapter's example.
func TestExample(t *testing.T) {
	told(t, "mode smtp; goto x;", 11, api.ErrLabel)
}

// P17.2: which statements may stand in which protocol.
func TestModes(t *testing.T) {
	codes := map[string]string{"smtp": "250", "pop3": "+", "ftp": "226"}
	for _, mode := range modes {
		for row, in := range map[string]string{
			`let a = "x";`:               "smtp pop3 ftp",
			`greet "C";`:                 "smtp pop3 ftp",
			`send "x" "C";`:              "smtp pop3 ftp",
			`caps "x" "C";`:              "smtp pop3 ftp",
			`if cap "x" {}`:              "smtp pop3 ftp",
			`if text "x" {} else {}`:     "smtp pop3 ftp",
			`if code "C" {}`:             "smtp pop3 ftp",
			`pipe 1 {}`:                  "smtp pop3",
			`pipe 8 { send "x" "C"; }`:   "smtp pop3",
			`auth plain "a" "b";`:        "smtp pop3",
			`auth login "a" "b";`:        "smtp pop3",
			`auth cram "a" "b";`:         "smtp pop3",
			`auth apop "a" "b";`:         "pop3",
			`auth smtp "a" "b";`:         "",
			`auth plai "a" "b";`:         "",
			`auth plain2 "a" "b";`:       "",
			`auth crammd5 "a" "b";`:      "",
			`auth apo "a" "b";`:          "",
			`auth apop2 "a" "b";`:        "",
			`auth pop3 "a" "b";`:         "",
			`data "x" "C";`:              "smtp",
			`body a "x" "C";`:            "pop3",
			`get a "x";`:                 "ftp",
			`put "x" "y";`:               "ftp",
			`timeout 9;`:                 "smtp pop3 ftp",
			`label a;`:                   "smtp pop3 ftp",
			`goto a; label a;`:           "smtp pop3 ftp",
			`on a; label a;`:             "smtp pop3 ftp",
			`print "x";`:                 "smtp pop3 ftp",
			`stop;`:                      "smtp pop3 ftp",
			`timeout 0; timeout 000001;`: "smtp pop3 ftp",
			``:                           "smtp pop3 ftp",
		} {
			row = strings.ReplaceAll(row, "C", codes[mode])
			is := api.ErrMode
			if slices.Contains(strings.Fields(in), mode) {
				is = 0
			}
			alone(t, mode, row, is)
		}
	}
}

// P17.2: only a send may stand within a pipe, wherever else it stands there.
func TestPipeWithin(t *testing.T) {
	inner := map[string]string{
		"smtp": `let a = "x";|greet "2";|caps "x" "2";|if cap "x" {}|if text "x" { send "a" "2"; }|if code "2" {} else { send "a" "2"; }|pipe 1 {}|pipe 8 { send "a" "2"; }|auth plain "a" "b";|data "x" "2";|timeout 1;|label a;|goto z;|on z;|print "x";|stop;`,
		"pop3": `let a = "x";|greet "+";|caps "x" "+";|if cap "x" {}|if text "x" { send "a" "+"; }|if code "+" {} else { send "a" "+"; }|pipe 1 {}|pipe 8 { send "a" "+"; }|auth plain "a" "b";|body a "x" "+";|timeout 1;|label a;|goto z;|on z;|print "x";|stop;`,
	}
	for mode, l := range inner {
		send := `send "x" "2";`
		if mode == "pop3" {
			send = `send "x" "+";`
		}
		for _, x := range strings.Split(l, "|") {
			for before := range 4 {
				for behind := range 4 {
					row := strings.Repeat(send, before) + x + strings.Repeat(send, behind)
					alone(t, mode, "pipe 2 {"+row+"} label z;", api.ErrMode)
					alone(t, mode, "if cap \"x\" {"+row+"} label z;", 0)
				}
			}
		}
		for n := range 20 {
			alone(t, mode, "pipe 2 {"+strings.Repeat(send, n)+"}", 0)
		}
		told(t, "mode "+mode+"; pipe 1 { if cap \"x\" { "+send+" } }", 11, api.ErrMode)
		told(t, "mode "+mode+"; pipe 1 { pipe 1 { stop; } }", 20, api.ErrMode)
		told(t, "mode "+mode+"; stop; if cap \"a\" {} else { pipe 1 { stop; } }", 38, api.ErrMode)
		told(t, "mode "+mode+"; pipe 1 { "+send+" } stop;", 0, 0)
		told(t, "mode "+mode+"; stop; pipe 1 { "+send+" } stop;", 0, 0)
	}
}

// P17.2: a window is of 1 to 8.
func TestWindow(t *testing.T) {
	for _, n := range []string{"0", "1", "2", "3", "4", "5", "6", "7", "8", "9", "10", "11", "16", "17", "18", "81", "000", "001", "008", "009", "00000001", "100000000", "999999999"} {
		is := api.ErrArg
		if v, _ := strconv.Atoi(n); v >= 1 && v <= 8 {
			is = 0
		}
		alone(t, "smtp", "pipe "+n+` { send "x" "2"; }`, is)
		alone(t, "smtp", "pipe "+n+" {}", is)
		alone(t, "pop3", "pipe "+n+" {}", is)
		alone(t, "ftp", "pipe "+n+" {}", api.ErrMode)
		alone(t, "smtp", "pipe "+n+" { stop; }", api.ErrMode)
		for _, mode := range modes {
			alone(t, mode, "timeout "+n+";", 0)
		}
	}
	for _, n := range []int{math.MinInt, math.MinInt32, -9, -8, -1, math.MaxInt32, math.MaxInt32 + 2, 1<<32 + 1, 1<<62 + 8, math.MaxInt} {
		p := api.Prog{Mode: 1, Stmts: []api.Stmt{{Kind: 6, N: n, At: 7}}, Top: []int{0}}
		if at, is := check.Prog(p); at != 7 || is != api.ErrArg {
			t.Errorf("a window of %d: %d, %d", n, at, is)
		}
	}
}

// oddCodes are codes, and what is nearly so.
var oddCodes = []string{"", "2", "25", "250", "2505", "0", "1", "5", "6", "9", "199", "099", "600", "599", "2,3", "250,35,4", "250,", ",250", "250,,3", ",", "250 ", " 250", "250, 3", "25x", "x", "2a", "a2", "+", "-", ">", "+,-", "+,-,>", "+,+", "+-", "+OK", "-ERR", "+,", ",+", "+,2", "2,+", "<", "*", "=", "+ ", "2-3", "$a", "$", "$$", "250,6", "6,250", "250,3,0", "1,2,3,4,5"}

// P17.2: the codes of each statement that has some; what else it says is none.
func TestCodes(t *testing.T) {
	in := map[string]string{"smtp": "", "pop3": "", "ftp": ""}
	for mode := range in {
		proto := 1 + slices.Index(modes, mode)
		for _, codes := range oddCodes {
			is := api.ErrCodes
			if codesOf[proto].MatchString(codes) {
				is = 0
			}
			quoted := `"` + codes + `"`
			alone(t, mode, "greet "+quoted+";", is)
			alone(t, mode, `send "x" `+quoted+";", is)
			alone(t, mode, `caps "x" `+quoted+";", is)
			alone(t, mode, "if code "+quoted+" {}", is)
			alone(t, mode, "if code "+quoted+" {} else {}", is)
			alone(t, mode, "if cap "+quoted+" {}", 0)
			alone(t, mode, "if text "+quoted+" {}", 0)
			data, body := api.ErrMode, api.ErrMode
			if mode == "smtp" {
				data = is
			}
			if mode == "pop3" {
				body = is
			}
			alone(t, mode, `data "x" `+quoted+";", data)
			alone(t, mode, `body b "x" `+quoted+";", body)
			if !strings.Contains(codes, "$") {
				good := map[string]string{"smtp": `"2"`, "pop3": `"-"`, "ftp": `"3,4"`}[mode]
				alone(t, mode, "send "+quoted+good+";", 0)
				alone(t, mode, "caps "+quoted+good+";", 0)
				alone(t, mode, "let a = "+quoted+";", 0)
				alone(t, mode, "print "+quoted+";", 0)
				switch mode {
				case "smtp":
					alone(t, mode, "data "+quoted+good+";", 0)
					alone(t, mode, "auth plain "+quoted+quoted+";", 0)
				case "pop3":
					alone(t, mode, "body b "+quoted+good+";", 0)
				case "ftp":
					alone(t, mode, "put "+quoted+quoted+";", 0)
					alone(t, mode, "get g "+quoted+";", 0)
				}
			}
		}
	}
}

// P17.2: each code of one to three digits, and each byte that a text may have, as codes.
func TestEachCode(t *testing.T) {
	for _, mode := range modes {
		for n := range 1200 {
			source(t, fmt.Sprintf("mode %s; send \"x\" \"%d\";", mode, n))
		}
		for b := range 256 {
			if b == '"' || b == '\\' {
				continue
			}
			source(t, "mode "+mode+"; if code \""+string([]byte{byte(b)})+"\" {}")
			source(t, "mode "+mode+"; greet \"2,+"+string([]byte{byte(b)})+"\";")
			source(t, "mode "+mode+"; greet \"2"+string([]byte{byte(b)})+"\";")
		}
	}
}

// P17.2: a label is told once: the second is wrong, wherever the two stand.
func TestTwice(t *testing.T) {
	for _, mode := range modes {
		head := "mode " + mode + "; "
		at := len(head)
		told(t, head+"label a;", 0, 0)
		told(t, head+"label a; label b; label ab; label a1; label a_;", 0, 0)
		told(t, head+"label a; label a;", at+9, api.ErrTwice)
		told(t, head+"label a; label a; label a;", at+9, api.ErrTwice)
		told(t, head+"label a; label b; label a; label b;", at+18, api.ErrTwice)
		told(t, head+"label a; label b; label b; label a;", at+18, api.ErrTwice)
		told(t, head+"label a; if cap \"x\" { label a; }", at+22, api.ErrTwice)
		told(t, head+"if cap \"x\" { label a; } label a;", at+24, api.ErrTwice)
		told(t, head+"if cap \"x\" { label a; } else { label a; }", at+31, api.ErrTwice)
		told(t, head+"if cap \"x\" { label a; } else { label b; }", 0, 0)
		told(t, head+"goto a; label a; goto a; on a;", 0, 0)
		told(t, head+"let a = \"\"; label a; let a = \"\";", 0, 0)
		told(t, head+"let a = \"\"; let a = \"\"; print \"$a\";", 0, 0)
		told(t, head+"goto a; goto a; on a; on a; label a;", 0, 0)
		told(t, head+"on a; label a;", 0, 0)
	}
}

// P17.2: where one goes there must be a label of that name, ahead or behind, within others or not.
func TestLabels(t *testing.T) {
	for _, mode := range modes {
		head := "mode " + mode + "; "
		at := len(head)
		for _, word := range []string{"goto", "on"} {
			told(t, head+word+" a;", at, api.ErrLabel)
			told(t, head+word+" a; label a;", 0, 0)
			told(t, head+"label a; "+word+" a;", 0, 0)
			told(t, head+word+" a; label b;", at, api.ErrLabel)
			told(t, head+word+" a; label aa;", at, api.ErrLabel)
			told(t, head+word+" aa; label a;", at, api.ErrLabel)
			told(t, head+"label a; label b; "+word+" a; "+word+" c; "+word+" b;", at+18+len(word)+4, api.ErrLabel)
			told(t, head+word+" a; let a = \"\"; goto a;", at, api.ErrLabel)
			told(t, head+word+" a; if cap \"x\" { label a; }", 0, 0)
			told(t, head+word+" a; if cap \"x\" { } else { if text \"a\" { label a; } }", 0, 0)
			told(t, head+"if cap \"x\" { "+word+" a; } label a;", 0, 0)
			told(t, head+"if cap \"x\" { "+word+" a; }", at+13, api.ErrLabel)
			told(t, head+"if cap \"x\" { } else { "+word+" a; }", at+22, api.ErrLabel)
			told(t, head+"if cap \"x\" { label a; } else { "+word+" a; }", 0, 0)
			told(t, head+word+" label; label label;", 0, 0)
			told(t, head+word+" a; on a; goto a;", at, api.ErrLabel)
		}
	}
}

// oddTexts are what stands in texts, good where a and b are set by somebody, and what is nearly so.
var oddTexts = []string{"", "x", "$", "$$", "$$$", "$$$$", "$a", "$b", "$c", "$aa", "$a_", "$a1", "$a$b", "$a$c", "$c$a", "$$a", "$$c", "$$$a", "$$$c", "$a$", "$$$a$$", "$A", "$ a", "$1", "$_", "$_a", "$a b", "$a.$", "$a-$b", "a$", "a$a", "b$$c", "$aB", "$a$$c", "$abcdefghijklm", "$let", "250 $a", "${a}", "$-"}

// P17.2: the texts of each statement that has some, where a and b are set, and where they are not.
func TestTexts(t *testing.T) {
	sets := map[string][]string{
		"smtp": {"", `let a = "";`, `let a = ""; let b = "";`, `label a; label b;`, `let c = ""; let aa = "";`},
		"pop3": {"", `let a = "";`, `body a "x" "+"; let b = "";`, `body b "x" "+"; body a "x" "+";`, `body a "x" "+"; body a "x" "+";`},
		"ftp":  {"", `get a "x";`, `get a "x"; get b "x";`, `let a = ""; get b "x";`, `put "a" "b";`},
	}
	each := map[string]string{
		"smtp": `send X "2";|caps X "2";|data X "2";|let z = X;|let a = X;|auth plain X "b";|auth plain "a" X;|auth cram X X;|print X;|if cap X {}|if text X {}|pipe 1 { send X "2"; }|if cap X { print X; }|if cap "x" {} else { print X; }`,
		"pop3": `send X "+";|caps X "+";|body z X "-";|body a X "-";|let z = X;|auth apop X "b";|auth login "a" X;|print X;|if cap X {}|if text X {}|pipe 1 { send X "-"; }`,
		"ftp":  `send X "2";|caps X "2";|get z X;|get a X;|put X "b";|put "a" X;|put X X;|let z = X;|print X;|if cap X {}|if text X {}`,
	}
	for _, mode := range modes {
		for _, set := range sets[mode] {
			for _, s := range strings.Split(each[mode], "|") {
				for _, x := range oddTexts {
					one := strings.ReplaceAll(s, "X", `"`+x+`"`)
					source(t, "mode "+mode+";"+set+one)
					source(t, "mode "+mode+";"+one+set)
					source(t, "mode "+mode+";if cap \"a\" {"+set+"} else {"+one+"}")
				}
			}
		}
	}
}

// P17.2: by hand: which names a text may tell.
func TestUnknown(t *testing.T) {
	for row, is := range map[string]api.Errno{
		`print "$a";`:                            32,
		`print "$a"; let a = "";`:                0,
		`let a = "$a";`:                          0,
		`let a = "$b";`:                          32,
		`let a = "$b"; let b = "$a";`:            0,
		`print "$$";`:                            0,
		`print "$$a";`:                           0,
		`print "$";`:                             32,
		`print "$a"; if cap "x" { let a = ""; }`: 0,
		`print "$a"; if cap "x" {} else { let a = ""; }`:     0,
		`print "$a"; label a;`:                               32,
		`print "$a"; goto a; label a;`:                       32,
		`print "$plain"; `:                                   32,
		`print "$ab"; let a = ""; let b = ""; let abc = "";`: 32,
		`if cap "$q" {}`:                                     0,
		`if cap "$" {}`:                                      0,
		`if text "$" {}`:                                     0,
		`stop;`:                                              0,
	} {
		for _, mode := range modes {
			alone(t, mode, row, is)
		}
	}
	alone(t, "smtp", `print "$plain"; auth plain "a" "b";`, 32)
	alone(t, "smtp", `auth plain "$plain" "b";`, 32)
	alone(t, "smtp", `auth plain "$a" "b"; let a = "";`, 0)
	alone(t, "smtp", `auth plain "a" "$b"; let a = "";`, 32)
	alone(t, "smtp", `auth plain "$b" "$a"; let a = "";`, 32)
	alone(t, "pop3", `print "$a"; body a "x" "+";`, 0)
	alone(t, "pop3", `body a "$a" "+";`, 0)
	alone(t, "pop3", `body a "$b" "+";`, 32)
	alone(t, "ftp", `print "$a"; get a "x";`, 0)
	alone(t, "ftp", `get a "$a";`, 0)
	alone(t, "ftp", `get a "$x";`, 32)
	alone(t, "ftp", `put "a" "b";`, 0)
	alone(t, "ftp", `put "$a" "b"; let a = "";`, 0)
	alone(t, "ftp", `put "$a" "$b"; let a = "";`, 32)
	alone(t, "ftp", `put "$b" "$a"; let a = "";`, 32)
}

// P17.2: each byte that a text may have, behind a `$` and behind a name.
func TestEachByte(t *testing.T) {
	for b := range 256 {
		if b == '"' || b == '\\' {
			continue
		}
		for _, form := range []string{"$%s", "$a%s", "%s$a", "$a$%s", "$$%s", "%s"} {
			x := strings.ReplaceAll(form, "%s", string([]byte{byte(b)}))
			source(t, `mode smtp; print "`+x+`"; let a = ""; let ab = "";`)
			source(t, `mode ftp; get a "`+x+`";`)
		}
	}
}

// P17.2, R3: of one statement the first fault that the chapter names; its fields hold any of these.
func TestFaultsOfOne(t *testing.T) {
	texts := []string{"", "plain", "apop", "cap", "code", "text", "250", "+", "a", "b", "$a", "$b", "$"}
	count := map[api.Errno]int{}
	for kind := 1; kind <= 17; kind++ {
		for proto := 1; proto <= 3; proto++ {
			for n := range len(texts) * len(texts) * len(texts) {
				s := api.Stmt{Kind: kind, S: texts[n%13], T: texts[n/13%13], U: texts[n/169], N: n % 11, At: 40}
				for _, row := range [][]api.Stmt{
					{s},
					{{Kind: 13, S: "a", At: 9}, s, {Kind: 1, S: "b", At: 50}},
					{{Kind: 16, S: "x", At: 9}, {Kind: 3, S: "x", T: "2", At: 9}, s},
				} {
					if kind == 6 {
						row[len(row)-1].L = []int{0}
						if len(row) == 1 {
							row[0].L = nil
						}
					}
					p := api.Prog{Mode: proto, Stmts: row, Top: []int{0}}
					at, is := check.Prog(p)
					wantAt, want := progWant(p)
					if at != wantAt || is != want {
						t.Fatalf("%v: %d, %d, want %d, %d", p, at, is, wantAt, want)
					}
					count[is]++
				}
			}
		}
	}
	for _, is := range append(slices.Clone(inOrder), 0) {
		if count[is] < 100 {
			t.Errorf("%d is told %d times", is, count[is])
		}
	}
}

// R3: by hand: a statement that is wrong in more than one way.
func TestFirstNamed(t *testing.T) {
	alone(t, "ftp", "pipe 0 {}", api.ErrMode)
	alone(t, "smtp", "pipe 0 { stop; }", api.ErrMode)
	alone(t, "ftp", `auth plain "$" "$";`, api.ErrMode)
	alone(t, "ftp", `auth x "$" "$";`, api.ErrMode)
	alone(t, "smtp", `auth x "$a" "b";`, api.ErrMode)
	alone(t, "pop3", `data "$a" "x";`, api.ErrMode)
	alone(t, "smtp", `data "$a" "x";`, api.ErrCodes)
	alone(t, "smtp", `data "$a" "2";`, api.ErrUnknown)
	alone(t, "smtp", `body a "$b" "x";`, api.ErrMode)
	alone(t, "pop3", `body a "$b" "x";`, api.ErrCodes)
	alone(t, "pop3", `body a "$b" "+";`, api.ErrUnknown)
	alone(t, "pop3", `get a "$b";`, api.ErrMode)
	alone(t, "ftp", `get a "$b";`, api.ErrUnknown)
	alone(t, "smtp", `put "$a" "$";`, api.ErrMode)
	alone(t, "smtp", `send "$a" "x";`, api.ErrCodes)
	alone(t, "smtp", `caps "$a" "x";`, api.ErrCodes)
}

// P17.2, R3: by hand: of more than one statement the first in the row, which has those within ahead of what they stand in.
func TestFirstInRow(t *testing.T) {
	for _, mode := range modes {
		head := "mode " + mode + "; "
		at := len(head)
		told(t, head+`print "$a"; goto b;`, at, api.ErrUnknown)
		told(t, head+`goto b; print "$a";`, at, api.ErrLabel)
		told(t, head+`goto b; goto c;`, at, api.ErrLabel)
		told(t, head+`stop; greet "x"; label a; label a;`, at+6, api.ErrCodes)
		told(t, head+`label a; label a; greet "x";`, at+9, api.ErrTwice)
		told(t, head+`if code "x" { goto b; }`, at+14, api.ErrLabel)
		told(t, head+`if code "x" {} else { goto b; }`, at+22, api.ErrLabel)
		told(t, head+`if code "x" {} goto b;`, at, api.ErrCodes)
		told(t, head+`if code "x" { if code "y" {} }`, at+14, api.ErrCodes)
		told(t, head+`if code "x" { if code "y" { stop; stop; print "$"; } stop; }`, at+40, api.ErrUnknown)
		told(t, head+`if cap "x" { print "$a"; } else { greet "x"; }`, at+13, api.ErrUnknown)
		told(t, head+`pipe 9 { send "$a" "x"; }`, at+9, api.ErrCodes)
		told(t, head+`pipe 9 { send "x" ""; }`, at+9, api.ErrCodes)
		told(t, head+"pipe 9 { print \"$a\"; }", at+9, api.ErrUnknown)
	}
	told(t, `mode ftp; pipe 9 { goto a; } label a;`, 10, api.ErrMode)
	told(t, `mode smtp; pipe 9 { goto a; } label a;`, 11, api.ErrMode)
}

// rows calls f with all rows of up to n of the pieces.
func rows(pieces []string, n int, f func(row string)) {
	f("")
	if n == 0 {
		return
	}
	for _, x := range pieces {
		rows(pieces, n-1, func(row string) { f(x + row) })
	}
}

// P17.1, P17.2, P17.3, R2, R3, R5: all short rows of statements, and of what opens and closes.
func TestShortRows(t *testing.T) {
	pieces := []string{
		`let a="";`, `let b="$a";`, `greet "2";`, `greet "+";`, `send "$b" "2";`, `caps "" "-";`, `if code "2"{`, `if code ">"{`, `if cap "$"{`, `}`, `}else{`, `pipe 1{`, `pipe 9{`,
		`auth cram "" "";`, `auth apop "$a" "";`, `auth a "" "$";`, `data "" "2";`, `data "$c" "+";`, `body a "" "+";`, `body b "$a" "2";`, `get a "";`, `get b "$c";`, `put "" "";`, `put "$a" "$b";`,
		`label a;`, `label b;`, `goto a;`, `goto b;`, `on a;`, `on b;`, `print "$a";`, `print "$$b";`, `print "$";`, `stop;`, `timeout 0;`,
	}
	count := map[api.Errno]int{}
	for _, mode := range modes {
		rows(pieces, 3, func(row string) {
			_, is := source(t, "mode "+mode+";"+row)
			count[is]++
		})
	}
	for _, is := range append(slices.Clone(inOrder), 0, api.ErrSyntax) {
		if count[is] < 50 {
			t.Errorf("%d is told %d times", is, count[is])
		}
	}
}

// P17.2: all rows of up to five labels, gotos and ons of two names, in an if and its else, too.
func TestRowsOfLabels(t *testing.T) {
	rows([]string{"label a;", "label b;", "goto a;", "on b;", "if cap \"\"{", "}", "}else{"}, 5, func(row string) {
		source(t, "mode ftp;"+row)
	})
}

// full is a script with each statement that its protocol has.
var full = map[string]string{
	"smtp": `mode smtp; timeout 9; greet "220"; let a = "x$$"; caps "EHLO $a" "250"; on z; if cap "PIPE" { pipe 8 { send "a" "2"; send "$a" "250,251"; } } else { send "b" "2,3"; goto y; } auth cram "$a" "b"; label y; data "$a" "354"; if code "5" { stop; } label z; print "$a";`,
	"pop3": `mode pop3; timeout 9; greet "+"; let a = "x$$"; caps "CAPA $a" "+"; on z; if text "hi" { pipe 1 { send "a" "+"; send "$a" "+,-"; } } else { send "b" "+"; goto y; } auth apop "$a" "b"; label y; body b "RETR $a" "+"; if code "-" { stop; } label z; print "$a$b";`,
	"ftp":  `mode ftp; timeout 9; greet "220"; let a = "x$$"; caps "FEAT $a" "211"; on z; if text "hi" { send "b" "2"; goto y; } label y; get g "RETR $a"; put "STOR $a" "$g"; if code "5" { stop; } label z; print "$a$g";`,
}

// P17.1 to P17.3: scripts with each statement may be run; and with each byte left out, put in, or in the stead of each, as the chapter's words say.
func TestFullScripts(t *testing.T) {
	for _, mode := range modes {
		src := full[mode]
		told(t, src, 0, 0)
		for i := range src {
			source(t, src[:i]+src[i+1:])
			source(t, src[:i])
			for _, b := range []byte("a$+2 \"};0") {
				source(t, src[:i]+string(b)+src[i:])
				source(t, src[:i]+string(b)+src[i+1:])
			}
		}
		for _, other := range modes {
			source(t, strings.Replace(src, mode, other, 1))
		}
		stmts := strings.SplitAfter(src, ";")
		for i := range stmts {
			source(t, strings.Join(slices.Delete(slices.Clone(stmts), i, i+1), ""))
			for j := range stmts {
				source(t, strings.Join(slices.Insert(slices.Clone(stmts), i, stmts[j]), ""))
			}
		}
	}
}

// P17.1, R2: what parse tells is told ahead of what check would, wherever it stands.
func TestOfParse(t *testing.T) {
	for src, want := range map[string]struct {
		at int
		is api.Errno
	}{
		"":                                   {0, api.ErrSyntax},
		"mode":                               {4, api.ErrSyntax},
		"mode x;":                            {5, api.ErrSyntax},
		"goto x;":                            {0, api.ErrSyntax},
		"mode smtp; goto x":                  {17, api.ErrSyntax},
		"mode smtp; goto x; ?":               {19, api.ErrByte},
		"mode smtp; goto x; \"":              {19, api.ErrText},
		"mode smtp; goto x; 1234567890":      {19, api.ErrNumber},
		"mode smtp; goto x; abcdefghijklm":   {19, api.ErrName},
		"mode smtp; goto x; }":               {19, api.ErrSyntax},
		"mode smtp; auth PLAIN \"a\" \"b\";": {16, api.ErrByte},
		"mode smtp; pipe x {}":               {16, api.ErrSyntax},
		"mode smtp; pipe 1000000000 {}":      {16, api.ErrNumber},
		"mode smtp; print \"\x00\";":         {17, api.ErrText},
		"mode smtp; goto a; label A;":        {25, api.ErrByte},
		strings.Repeat(" ", 2001):            {0, api.ErrBig},
		"mode ftp; goto x;" + strings.Repeat("stop;", 100):            {0, api.ErrBig},
		"mode ftp; goto x;" + strings.Repeat("stop;", 99):             {10, api.ErrLabel},
		"mode ftp; goto x;" + strings.Repeat(";", 500):                {0, api.ErrBig},
		"mode ftp; goto x;" + strings.Repeat("if cap \"\" {", 9):      {17 + 8*11 + 10, api.ErrDeep},
		"mode pop3;" + strings.Repeat("if cap \"\" {", 8) + "goto x;": {10 + 8*11 + 7, api.ErrSyntax},
	} {
		told(t, src, want.at, want.is)
	}
}

// P17.2: At is told, which is the statement's own: neither its place in the row nor that of its name.
func TestAt(t *testing.T) {
	for _, at := range []int{math.MinInt, -1, 0, 1, 2, 77, 1999, math.MaxInt} {
		for _, s := range []api.Stmt{{Kind: 8}, {Kind: 6}, {Kind: 3}, {Kind: 13, S: "a"}, {Kind: 14, S: "q"}, {Kind: 16, S: "$"}} {
			s.At = at
			proto, want := 2, map[int]api.Errno{8: 30, 6: 1, 3: 34, 13: 31, 14: 33, 16: 32}[s.Kind]
			p := api.Prog{Mode: proto, Stmts: []api.Stmt{{Kind: 13, S: "a", At: 5}, {Kind: 12, At: 6}, s, {Kind: 14, S: "r", At: 8}}, Top: []int{0, 1, 2, 3}}
			if got, is := check.Prog(p); got != at || is != want {
				t.Errorf("%v: %d, %d", s, got, is)
			}
		}
	}
}

// P17.2: nothing is asked of what a statement of its kind has not: greet's S, a label's texts, and so on.
func TestOfNoMatter(t *testing.T) {
	for kind, is := range looks {
		if kind == 0 {
			continue
		}
		proto := int(is.protos[0] - '0')
		good := map[int]string{1: "2", 2: "+", 3: "2"}[proto]
		s := api.Stmt{Kind: kind, S: "$", T: "$", U: "$", N: -1, At: 3}
		for _, letter := range is.codes {
			*map[rune]*string{'S': &s.S, 'T': &s.T, 'U': &s.U}[letter] = good
		}
		for _, letter := range is.texts {
			*map[rune]*string{'S': &s.S, 'T': &s.T, 'U': &s.U}[letter] = "$$"
		}
		row := []api.Stmt{s}
		switch kind {
		case 6:
			row[0].N = 1
		case 7:
			row[0].S = "plain"
		case 14, 15:
			row = append(row, api.Stmt{Kind: 13, S: "$"})
		}
		if at, is := check.Prog(api.Prog{Mode: proto, Stmts: row}); at != 0 || is != 0 {
			t.Errorf("%v: %d, %d", s, at, is)
		}
	}
}

// R1: scripts that parse tells never: other kinds, protocols and places, and none.
func TestOddProgs(t *testing.T) {
	if at, is := check.Prog(api.Prog{}); at != 0 || is != 0 {
		t.Errorf("of nothing: %d, %d", at, is)
	}
	odd := []int{math.MinInt, -1, 0, 1, 2, 3, 4, 99, math.MaxInt}
	for _, proto := range odd {
		for _, kind := range append(slices.Clone(odd), 5, 6, 7, 8, 9, 10, 11, 12, 13, 14, 15, 16, 17, 18, 19) {
			for _, within := range odd {
				s := api.Stmt{Kind: kind, S: "code", L: []int{within, 0}, M: []int{within}, N: 1, At: 4}
				p := api.Prog{Mode: proto, Stmts: []api.Stmt{s, {Kind: 3, T: "2"}, s}, Top: []int{within}}
				check.Prog(p)
				if kind < 1 || kind > 17 {
					if at, is := check.Prog(api.Prog{Mode: proto, Stmts: []api.Stmt{s}}); at != 0 || is != 0 {
						t.Errorf("a kind %d: %d, %d", kind, at, is)
					}
				}
			}
		}
	}
}

// R1: great rows and texts.
func TestGreat(t *testing.T) {
	const n = 200000
	p := api.Prog{Mode: 1}
	for i := range n {
		name := "l" + strconv.Itoa(i)
		p.Stmts = append(p.Stmts, api.Stmt{Kind: 14, S: name, At: i}, api.Stmt{Kind: 13, S: name, At: i}, api.Stmt{Kind: 1, S: name, T: "$" + name, At: i})
		p.Top = append(p.Top, 3*i, 3*i+1, 3*i+2)
	}
	if at, is := check.Prog(p); at != 0 || is != 0 {
		t.Errorf("%d labels: %d, %d", n, at, is)
	}
	p.Stmts = append(p.Stmts, api.Stmt{Kind: 13, S: "l0", At: -5})
	if at, is := check.Prog(p); at != -5 || is != api.ErrTwice {
		t.Errorf("%d labels and one again: %d, %d", n, at, is)
	}
	text := api.Stmt{Kind: 16, S: strings.Repeat("$l1$$", n), At: 8}
	p.Stmts[3*n] = text
	if at, is := check.Prog(p); at != 0 || is != 0 {
		t.Errorf("a text of %d names: %d, %d", n, at, is)
	}
	p.Stmts[3*n].S += "$"
	if at, is := check.Prog(p); at != 8 || is != api.ErrUnknown {
		t.Errorf("a text with a wrong end: %d, %d", at, is)
	}
	pipe := api.Stmt{Kind: 6, N: 8, At: 8}
	for range n {
		pipe.L = append(pipe.L, 0)
	}
	p = api.Prog{Mode: 1, Stmts: []api.Stmt{{Kind: 3, T: strings.Repeat("250,", n) + "2"}, pipe}}
	if at, is := check.Prog(p); at != 0 || is != 0 {
		t.Errorf("a pipe of %d: %d, %d", n, at, is)
	}
	if at, is := check.Prog(api.Prog{Mode: 1, Stmts: []api.Stmt{{Kind: 3, T: strings.Repeat("250,", n), At: 6}}}); at != 6 || is != api.ErrCodes {
		t.Errorf("long codes: %d, %d", at, is)
	}
}

// copied is a script that shares nothing with p.
func copied(p api.Prog) api.Prog {
	q := api.Prog{Mode: p.Mode, Top: slices.Clone(p.Top), Stmts: slices.Clone(p.Stmts)}
	for i := range q.Stmts {
		q.Stmts[i].L = slices.Clone(q.Stmts[i].L)
		q.Stmts[i].M = slices.Clone(q.Stmts[i].M)
	}
	return q
}

// roomy is p with spare room behind each list's end, in which something stands.
func roomy(p api.Prog) api.Prog {
	places := func(l []int) []int { return append(slices.Clone(l), 55, 56)[:len(l)] }
	q := api.Prog{Mode: p.Mode, Top: places(p.Top), Stmts: append(slices.Clone(p.Stmts), api.Stmt{Kind: 13, S: "z", At: 57})[:len(p.Stmts)]}
	for i := range q.Stmts {
		q.Stmts[i].L = places(q.Stmts[i].L)
		q.Stmts[i].M = places(q.Stmts[i].M)
	}
	return q
}

// whole is p with its lists up to the ends of their room.
func whole(p api.Prog) api.Prog {
	q := copied(p)
	q.Top = p.Top[:cap(p.Top)]
	q.Stmts = slices.Clone(p.Stmts[:cap(p.Stmts)])
	for i, s := range p.Stmts {
		q.Stmts[i].L = s.L[:cap(s.L)]
		q.Stmts[i].M = s.M[:cap(s.M)]
	}
	return q
}

// R6, R7: a script that is handed in stays as it is, and so does the room behind its lists, which does not matter.
func TestKeepsWhatIsGiven(t *testing.T) {
	for _, src := range []string{full["smtp"], full["pop3"], full["ftp"], "mode smtp; goto z;", "mode smtp; label a; label a;", "mode smtp; pipe 9 { send \"a\" \"2\"; }", "mode smtp; pipe 1 { stop; }", "mode smtp; print \"$z\";"} {
		p, _, fault := parse.All(src)
		if fault != 0 {
			t.Fatal(src, fault)
		}
		at, is := check.Prog(p)
		given := roomy(p)
		before := copied(whole(given))
		for range 3 {
			if gotAt, got := check.Prog(given); gotAt != at || got != is {
				t.Errorf("%q with room: %d, %d, want %d, %d", src, gotAt, got, at, is)
			}
			if !reflect.DeepEqual(whole(given), before) {
				t.Errorf("%q is changed", src)
			}
		}
	}
}

// R6, R7: what Source answers is the caller's own: spoiling it changes no other answer.
func TestAnswersAreOnesOwn(t *testing.T) {
	for _, mode := range modes {
		src := full[mode]
		p, _, _ := check.Source(src)
		want := copied(p)
		q, _, _ := check.Source(src)
		q.Mode = 9
		for i := range q.Stmts {
			for _, l := range [][]int{q.Stmts[i].L, q.Stmts[i].M, q.Top} {
				for j := range l {
					l[j] = -7
				}
				_ = append(l, -8)
			}
			q.Stmts[i] = api.Stmt{Kind: 13, S: "spoilt", L: q.Stmts[i].L}
		}
		_ = append(q.Stmts, api.Stmt{})
		r, _, _ := check.Source(src)
		if !reflect.DeepEqual(p, want) || !reflect.DeepEqual(r, want) {
			t.Errorf("%s: spoilt by what was done to another answer", mode)
		}
	}
	for range 3 {
		check.Source("mode smtp; label x; let y = \"\";")
		told(t, "mode smtp; goto x;", 11, api.ErrLabel)
		told(t, "mode smtp; print \"$y\";", 11, api.ErrUnknown)
		told(t, "mode smtp; label x;", 0, 0)
	}
}
