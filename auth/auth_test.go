package auth_test

import (
	stdhmac "crypto/hmac"
	"crypto/md5"
	"encoding/base64"
	"encoding/hex"
	"fmt"
	"strings"
	"testing"

	"rejoinder/auth"
	"rejoinder/b64"
)

// challenge2195 is that of RFC 2195, as its server sends it.
const challenge2195 = "PDE4OTYuNjk3MTcwOTUyQHBvc3RvZmZpY2UucmVzdG9uLm1jaS5uZXQ+"

// odd are texts with bytes that other ways to write them might change, part, or leave out.
var odd = []string{"", " ", "\x00", "\x00\x00", "a", "tim", "tim ", " tim", "a b c", "a\x00b", "\r\n", "a\r\nb", "\x7f", "\x80", "\xff", "\xc3", "\xc3\xa9", "\xe2\x82\xac", "\xed\xa0\x80", "\xef\xbf\xbd", "<", ">", "<a>", "=", "dGlt", "%s\\\"'"}

// letters is the library's base64.
func letters(s string) string { return base64.StdEncoding.EncodeToString([]byte(s)) }

// proof is the library's HMAC-MD5.
func proof(key, s string) string {
	mac := stdhmac.New(md5.New, []byte(key))
	mac.Write([]byte(s))
	return hex.EncodeToString(mac.Sum(nil))
}

// stampByWords is P5.2 said word for word.
func stampByWords(greeting string) (string, bool) {
	i := 0
	for i < len(greeting) && greeting[i] != '<' {
		i++
	}
	j := i + 1
	for j < len(greeting) && greeting[j] != '>' {
		j++
	}
	if j >= len(greeting) || j-i-1 < 1 {
		return "", false
	}
	return greeting[i : j+1], true
}

// stampHolds asks Stamp of a greeting, against the chapter's words.
func stampHolds(t *testing.T, greeting string) {
	t.Helper()
	want, wantOK := stampByWords(greeting)
	if got, ok := auth.Stamp(greeting); got != want || ok != wantOK {
		t.Errorf("Stamp(%q) = %q, %v, want %q, %v", greeting, got, ok, want, wantOK)
	}
}

// each calls f with all texts of n of the letters.
func each(alphabet string, n int, f func(s string)) {
	if n == 0 {
		f("")
		return
	}
	each(alphabet, n-1, func(s string) {
		for i := range len(alphabet) {
			f(s + alphabet[i:i+1])
		}
	})
}

// P5.1: Plain by examples: of RFC 4616, without a name, without a secret, without both.
func TestPlain(t *testing.T) {
	for _, x := range []struct{ user, pass, want string }{
		{"tim", "tanstaaftanstaaf", "AHRpbQB0YW5zdGFhZnRhbnN0YWFm"},
		{"Kurt", "xipj3plmq", "AEt1cnQAeGlwajNwbG1x"},
		{"", "", "AAA="},
		{"a", "", "AGEA"},
		{"", "a", "AABh"},
		{"ab", "c", "AGFiAGM="},
		{"a", "bc", "AGEAYmM="},
	} {
		if got := auth.Plain(x.user, x.pass); got != x.want {
			t.Errorf("Plain(%q, %q) = %q, want %q", x.user, x.pass, got, x.want)
		}
	}
}

// P5.1, P5.3, R1: odd names and secrets; what Plain tells is taken back as it was.
func TestPlainOdd(t *testing.T) {
	for _, user := range odd {
		for _, pass := range odd {
			want := "\x00" + user + "\x00" + pass
			got := auth.Plain(user, pass)
			if got != letters(want) {
				t.Errorf("Plain(%q, %q) = %q, want %q", user, pass, got, letters(want))
			}
			if back, ok := b64.Take(got); !ok || string(back) != want {
				t.Errorf("Plain(%q, %q) is taken as %q, %v", user, pass, back, ok)
			}
		}
	}
}

// P5.1, P5.3: Login by examples, of each byte, and of long texts; it is taken back.
func TestLogin(t *testing.T) {
	for _, x := range []struct{ s, want string }{
		{"", ""},
		{"tim", "dGlt"},
		{"f", "Zg=="},
		{"fo", "Zm8="},
		{"Username:", "VXNlcm5hbWU6"},
		{"Password:", "UGFzc3dvcmQ6"},
		{"\x00", "AA=="},
		{"\xff\xfe\xfd", "//79"},
	} {
		if got := auth.Login(x.s); got != x.want {
			t.Errorf("Login(%q) = %q, want %q", x.s, got, x.want)
		}
	}
	texts := append([]string{strings.Repeat("long \x00\xff", 5000)}, odd...)
	for c := range 256 {
		texts = append(texts, string([]byte{byte(c)}), string([]byte{'a', byte(c), 'b', byte(c)}))
	}
	for _, s := range texts {
		got := auth.Login(s)
		if got != letters(s) {
			t.Errorf("Login(%q) = %q, want %q", s, got, letters(s))
		}
		if back, ok := b64.Take(got); !ok || string(back) != s {
			t.Errorf("Login(%q) is taken as %q, %v", s, back, ok)
		}
	}
}

// P5.1: Cram by the example of RFC 2195.
func TestCram(t *testing.T) {
	const want = "dGltIGI5MTNhNjAyYzdlZGE3YTQ5NWI0ZTZlNzMzNGQzODkw"
	if got, ok := auth.Cram("tim", "tanstaaftanstaaf", challenge2195); got != want || !ok {
		t.Errorf("%q, %v, want %q", got, ok, want)
	}
	if want != letters("tim b913a602c7eda7a495b4e6e7334d3890") {
		t.Error("the example is not that of RFC 2195")
	}
}

// P5.1: odd names, secrets and challenges: the key is the secret, and what is told of is what was taken, not its letters.
func TestCramOdd(t *testing.T) {
	secrets := append([]string{strings.Repeat("k", 64), strings.Repeat("k", 65), strings.Repeat("\xff", 200)}, odd...)
	for _, user := range odd {
		for _, pass := range secrets {
			for _, said := range odd {
				want := letters(user + " " + proof(pass, said))
				if got, ok := auth.Cram(user, pass, letters(said)); got != want || !ok {
					t.Errorf("Cram(%q, %q, of %q) = %q, %v, want %q", user, pass, said, got, ok, want)
				}
			}
		}
	}
	long := strings.Repeat("<\x00\xffa>", 3000)
	if got, ok := auth.Cram(long, long, letters(long)); got != letters(long+" "+proof(long, long)) || !ok {
		t.Errorf("long texts: %d letters, %v", len(got), ok)
	}
}

// P5.1: an empty challenge is one of no bytes.
func TestCramOfNoBytes(t *testing.T) {
	want := letters("tim " + proof("secret", ""))
	if got, ok := auth.Cram("tim", "secret", ""); got != want || !ok {
		t.Errorf("%q, %v, want %q", got, ok, want)
	}
	want = letters(" 74e6f7298a9c2d168935f58c001bad88")
	if got, ok := auth.Cram("", "", ""); got != want || !ok {
		t.Errorf("%q, %v, want %q", got, ok, want)
	}
}

// P5.1, R2: a challenge that is none has no answer, whoever asks.
func TestCramOfNoChallenge(t *testing.T) {
	wrong := []string{"!", "=", "==", "===", "====", "A", "AA", "AAA", "AAAAA", "A===", "AA=A", "=AAA", "AB==", "AAB=", "Zh==", "Zg==Zg==", "Zg", "Zg=", "Zg===", " Zg==", "Zg== ", "Zg==\r\n", "Zg\r\n==", "ab-_", "ab,c", "AAA\x00", "AAA\xff", "\xc3\xa9\xc3\xa9", "+ AAAA", "334 AAAA", "<1896.697170952@postoffice.reston.mci.net>"}
	for end := 1; end < len(challenge2195); end++ {
		if end%4 != 0 {
			wrong = append(wrong, challenge2195[:end])
		}
	}
	for _, challenge := range wrong {
		for _, user := range []string{"", "tim"} {
			for _, pass := range []string{"", "tanstaaftanstaaf"} {
				if got, ok := auth.Cram(user, pass, challenge); got != "" || ok {
					t.Errorf("Cram(%q, %q, %q) = %q, %v, want none", user, pass, challenge, got, ok)
				}
			}
		}
	}
}

// P5.1: just what b64.Take takes has an answer.
func TestCramTakesAsTake(t *testing.T) {
	for n := range 6 {
		each("AQg=+ ", n, func(s string) {
			taken, want := b64.Take(s)
			got, ok := auth.Cram("u", "p", s)
			if ok != want {
				t.Errorf("Cram of %q is %v, Take is %v", s, ok, want)
			}
			if ok && got != letters("u "+proof("p", string(taken))) || !ok && got != "" {
				t.Errorf("Cram of %q is %q", s, got)
			}
		})
	}
}

// P5.2: Stamp by examples.
func TestStamp(t *testing.T) {
	for _, x := range []struct{ greeting, want string }{
		{"+OK POP3 server ready <1896.697170952@dbc.mtview.ca.us>", "<1896.697170952@dbc.mtview.ca.us>"},
		{"<a>", "<a>"},
		{"<a> behind", "<a>"},
		{"hi <a@b> <c>", "<a@b>"},
		{"<<a>", "<<a>"},
		{"<<>", "<<>"},
		{"<a>>", "<a>"},
		{"><a>", "<a>"},
		{"a > b <c>", "<c>"},
		{"< >", "< >"},
		{"<a b\t\r\n>", "<a b\t\r\n>"},
		{"<\x00>", "<\x00>"},
		{"\xff<\xff>\xff", "<\xff>"},
		{"\xe2<\x82\xac>", "<\x82\xac>"},
		{"", ""},
		{"+OK POP3 server ready", ""},
		{"<", ""},
		{">", ""},
		{"<>", ""},
		{"><", ""},
		{"a>", ""},
		{"<a", ""},
		{"> <a", ""},
		{"<><a>", ""},
		{"<> <a>", ""},
		{"hi <> and <a@b>", ""},
		{"<>>", ""},
	} {
		if got, ok := auth.Stamp(x.greeting); got != x.want || ok != (x.want != "") {
			t.Errorf("Stamp(%q) = %q, %v, want %q", x.greeting, got, ok, x.want)
		}
		stampHolds(t, x.greeting)
	}
}

// P5.2: all short texts of the two marks and others, and each byte ahead, between and behind.
func TestStampEach(t *testing.T) {
	for n := range 9 {
		each("<>a ", n, func(s string) { stampHolds(t, s) })
	}
	for c := range 256 {
		x := string([]byte{byte(c)})
		for _, s := range []string{x, "<" + x + ">", x + "<a>", "<a>" + x, "<" + x + "a>", "<a" + x + ">", x + "<", ">" + x, x + "a>", "<a" + x} {
			stampHolds(t, s)
		}
	}
	far := strings.Repeat("a", 10000)
	stampHolds(t, far+"<"+far+">"+far)
	stampHolds(t, far+"<"+far)
	stampHolds(t, far+">"+far)
}

// P5.2: Apop by the example of RFC 1939, and the sums of RFC 1321 however they are cut.
func TestApop(t *testing.T) {
	for _, x := range []struct{ stamp, pass, want string }{
		{"<1896.697170952@dbc.mtview.ca.us>", "tanstaaf", "c4c9334bac560ecc979e58001b3e22fb"},
		{"", "", "d41d8cd98f00b204e9800998ecf8427e"},
		{"abc", "", "900150983cd24fb0d6963f7d28e17f72"},
		{"", "abc", "900150983cd24fb0d6963f7d28e17f72"},
		{"a", "bc", "900150983cd24fb0d6963f7d28e17f72"},
		{"message ", "digest", "f96b697d7cb7938d525a2f31aaf161d0"},
	} {
		if got := auth.Apop(x.stamp, x.pass); got != x.want {
			t.Errorf("Apop(%q, %q) = %s, want %s", x.stamp, x.pass, got, x.want)
		}
	}
}

// P5.2, R1: odd stamps and secrets, and rows of all lengths about a block and two: nothing stands between the two, nor is left out.
func TestApopOdd(t *testing.T) {
	texts := append([]string{strings.Repeat("long \x00\xff", 5000)}, odd...)
	for n := 50; n < 70; n++ {
		texts = append(texts, strings.Repeat("<", n))
	}
	for _, stamp := range texts {
		for _, pass := range texts {
			want := fmt.Sprintf("%x", md5.Sum([]byte(stamp+pass)))
			if got := auth.Apop(stamp, pass); got != want {
				t.Errorf("Apop(%q, %q) = %s, want %s", stamp, pass, got, want)
			}
		}
	}
}

// P5.3: with another secret, name or challenge Cram's answer is another one, and with another stamp or secret Apop's.
func TestOthersAnswerOtherwise(t *testing.T) {
	names := []string{"tim", "Tim", "tim ", "ti", ""}
	secrets := []string{"tanstaaftanstaaf", "Tanstaaftanstaaf", "tanstaaftanstaa", "tanstaaftanstaaf ", "x", ""}
	seen := map[string]bool{}
	for _, user := range names {
		for _, pass := range secrets {
			for _, said := range []string{"<1@a>", "<2@a>", "<1@a> ", ""} {
				got, ok := auth.Cram(user, pass, letters(said))
				if !ok || seen[got] {
					t.Errorf("Cram(%q, %q, of %q) = %q, %v, is that of others", user, pass, said, got, ok)
				}
				seen[got] = true
			}
		}
	}
	seen = map[string]bool{}
	for _, stamp := range []string{"<1@a>", "<2@a>", "<1@b>"} {
		for _, pass := range secrets {
			got := auth.Apop(stamp, pass)
			if seen[got] {
				t.Errorf("Apop(%q, %q) = %s, is that of others", stamp, pass, got)
			}
			seen[got] = true
		}
	}
}

// R6: the same is answered again, whatever was asked between.
func TestAgain(t *testing.T) {
	ask := func() string {
		cram, ok := auth.Cram("tim", "secret", challenge2195)
		stamp, found := auth.Stamp("+OK <a@b>")
		return fmt.Sprint(auth.Plain("tim", "secret"), auth.Login("tim"), cram, ok, stamp, found, auth.Apop("<a@b>", "secret"))
	}
	first := ask()
	for _, s := range odd {
		auth.Plain(s, s)
		auth.Login(s)
		auth.Cram(s, s, s)
		auth.Stamp(s)
		auth.Apop(s, s)
		if again := ask(); again != first {
			t.Errorf("behind %q: %s, and ahead %s", s, again, first)
		}
	}
}
