package text_test

import (
	"math"
	"slices"
	"strings"
	"testing"

	"rejoinder/text"
)

// odd are texts that look like whole runes, and are not, with bytes of ASCII at once beside them.
var odd = []string{"", "\x00", "\x7f", "\x80", "\xff", "\xc3", "\xc3\xa9", "\xe0a", "\xe2\x82", "\xe2\x82\xac", "\xed\xa0\x80", "\xf0\x9f\x98\x80", "\xc1\xa1", "\xf4\x90\x80\x80", "\xef\xbf\xbd", "\u0130\u0131\u00df\u017f\u212a", "\u00a0\u2003\u3000", "\u0660\uff11", "\uff41"}

// upperByte is P1.1 said of one byte.
func upperByte(c byte) byte {
	if c >= 97 && c <= 122 {
		return c - 32
	}
	return c
}

// P1.1: each byte alone, and each behind and ahead of each other one.
func TestUpperEachByte(t *testing.T) {
	for a := range 256 {
		one := string([]byte{byte(a)})
		if got, want := text.Upper(one), string([]byte{upperByte(byte(a))}); got != want {
			t.Errorf("Upper(%q) = %q, want %q", one, got, want)
		}
		for b := range 256 {
			two := string([]byte{byte(a), byte(b)})
			if got, want := text.Upper(two), string([]byte{upperByte(byte(a)), upperByte(byte(b))}); got != want {
				t.Fatalf("Upper(%q) = %q, want %q", two, got, want)
			}
		}
	}
}

// P1.1: letters of other alphabets, and halves of runes, are bytes like others.
func TestUpperOdd(t *testing.T) {
	for _, o := range odd {
		s := "a" + o + "z" + o + "{`"
		want := []byte(s)
		for i, c := range want {
			want[i] = upperByte(c)
		}
		if got := text.Upper(s); got != string(want) {
			t.Errorf("Upper(%q) = %q, want %q", s, got, want)
		}
	}
	if got := text.Upper("the quick brown fox jumps over the lazy DOG 09"); got != "THE QUICK BROWN FOX JUMPS OVER THE LAZY DOG 09" {
		t.Error(got)
	}
}

// P1.1: words by examples; none is empty.
func TestWords(t *testing.T) {
	for _, x := range []struct {
		s    string
		want []string
	}{
		{"", nil},
		{" ", nil},
		{" \t \t", nil},
		{"a", []string{"a"}},
		{" a  bc", []string{"a", "bc"}},
		{"a b", []string{"a", "b"}},
		{"a\tb", []string{"a", "b"}},
		{"ab ", []string{"ab"}},
		{"\tab cd\t", []string{"ab", "cd"}},
		{"b a b", []string{"b", "a", "b"}},
		{"a\r\n \vb\f", []string{"a\r\n", "\vb\f"}},
		{"AUTH plain LOGIN", []string{"AUTH", "plain", "LOGIN"}},
		{"a\x00b \xff", []string{"a\x00b", "\xff"}},
		{"\u00a0 \u2003\u3000", []string{"\u00a0", "\u2003\u3000"}},
		{"\xe2\x82 \xc3\tq", []string{"\xe2\x82", "\xc3", "q"}},
	} {
		if got := text.Words(x.s); !slices.Equal(got, x.want) {
			t.Errorf("Words(%q) = %q, want %q", x.s, got, x.want)
		}
	}
}

// P1.1: a blank and a tab part words, and no other byte does.
func TestWordsEachByte(t *testing.T) {
	for c := range 256 {
		s := "x" + string([]byte{byte(c)}) + "y"
		want := []string{s}
		if c == 32 || c == 9 {
			want = []string{"x", "y"}
		}
		if got := text.Words(s); !slices.Equal(got, want) {
			t.Errorf("Words(%q) = %q, want %q", s, got, want)
		}
	}
}

// R7: what is answered is the caller's own.
func TestWordsAreOnesOwn(t *testing.T) {
	a, b := text.Words("a b"), text.Words("a b")
	a[0] = "x"
	_ = append(a[:1], "y")
	if !slices.Equal(b, []string{"a", "b"}) || !slices.Equal(text.Words("a b"), b) {
		t.Error(a, b)
	}
}

// P1.1: each byte, at the beginning, in the middle, and at the end.
func TestPlainEachByte(t *testing.T) {
	for c := range 256 {
		b := string([]byte{byte(c)})
		want := c >= 32 && c <= 126
		for _, s := range []string{b, b + "ab", "a" + b + "b", "ab" + b} {
			if got := text.Plain(s); got != want {
				t.Errorf("Plain(%q) = %v, want %v", s, got, want)
			}
		}
	}
}

// P1.1: no bytes are all plain; runes that can be printed are not.
func TestPlainOdd(t *testing.T) {
	if !text.Plain("") || !text.Plain(" !\"~") {
		t.Error("plain ones")
	}
	for _, o := range odd[1:] {
		if text.Plain(o) {
			t.Errorf("Plain(%q)", o)
		}
	}
}

// P1.2: what is a number, and what is none.
func TestNumber(t *testing.T) {
	for _, x := range []struct {
		s    string
		most int
		n    int
		ok   bool
	}{
		{"0", 0, 0, true},
		{"7", 7, 7, true},
		{"8", 7, 0, false},
		{"007", 9, 7, true},
		{"10", 9, 0, false},
		{"255", 255, 255, true},
		{"256", 255, 0, false},
		{"123456789", math.MaxInt, 123456789, true},
		{"999999999", 999999999, 999999999, true},
		{"999999999", 999999998, 0, false},
		{"000000000", 0, 0, true},
		{"000000001", 1, 1, true},
		{"0000000001", 9, 0, false},
		{"1000000000", math.MaxInt, 0, false},
		{"18446744073709551617", math.MaxInt, 0, false},
		{"0", -1, 0, false},
		{"5", math.MinInt, 0, false},
		{"", 9, 0, false},
		{"", -1, 0, false},
		{"-1", 9, 0, false},
		{"-0", 9, 0, false},
		{"+1", 9, 0, false},
		{" 1", 9, 0, false},
		{"1 ", 9, 0, false},
		{"1\n", 9, 0, false},
		{"1_0", 99, 0, false},
		{"0x1", 99, 0, false},
		{"1e1", 99, 0, false},
		{"1.0", 99, 0, false},
		{"\u0661", 99, 0, false},
		{"\uff11", 99, 0, false},
	} {
		if n, ok := text.Number(x.s, x.most); n != x.n || ok != x.ok {
			t.Errorf("Number(%q, %d) = %d, %v, want %d, %v", x.s, x.most, n, ok, x.n, x.ok)
		}
	}
}

// P1.2: a digit, and no other byte, wherever it stands.
func TestNumberEachByte(t *testing.T) {
	for c := range 256 {
		b := string([]byte{byte(c)})
		for _, x := range []struct {
			s string
			n int
		}{{b, c - '0'}, {b + "23", (c-'0')*100 + 23}, {"1" + b + "3", 103 + (c-'0')*10}, {"12" + b, 120 + c - '0'}} {
			ok := c >= '0' && c <= '9'
			if !ok {
				x.n = 0
			}
			if n, is := text.Number(x.s, 999); n != x.n || is != ok {
				t.Errorf("Number(%q, 999) = %d, %v, want %d, %v", x.s, n, is, x.n, ok)
			}
		}
	}
}

// P1.2: from one to nine bytes, with no most that is in the way.
func TestNumberLengths(t *testing.T) {
	for k := range 30 {
		n, ok := text.Number(strings.Repeat("0", k), 0)
		if n != 0 || ok != (k >= 1 && k <= 9) {
			t.Errorf("%d noughts: %d, %v", k, n, ok)
		}
	}
}

// P1.2: digits, of the greatest and the least numbers too.
func TestDigits(t *testing.T) {
	for _, x := range []struct {
		n    int
		want string
	}{
		{0, "0"},
		{5, "5"},
		{-5, "-5"},
		{9, "9"},
		{10, "10"},
		{99, "99"},
		{100, "100"},
		{-120, "-120"},
		{1000000000, "1000000000"},
		{1 << 30, "1073741824"},
		{math.MaxInt32, "2147483647"},
		{math.MinInt32, "-2147483648"},
		{math.MaxInt, "9223372036854775807"},
		{math.MinInt + 1, "-9223372036854775807"},
		{math.MinInt, "-9223372036854775808"},
	} {
		if got := text.Digits(x.n); got != x.want {
			t.Errorf("Digits(%d) = %q, want %q", x.n, got, x.want)
		}
	}
}

// P1.3: part may stand anywhere, in capitals or not.
func TestHas(t *testing.T) {
	for _, x := range []struct {
		s, part string
		want    bool
	}{
		{"", "", true},
		{"a", "", true},
		{"", "a", false},
		{"a", "ab", false},
		{"ab OK", "b ok", true},
		{"ok", "OK", true},
		{"OK", "ok", true},
		{"xoKy", "Ok", true},
		{"begin here", "BEGIN", true},
		{"at the end", "END", true},
		{"aab", "AB", true},
		{"abab", "ba", true},
		{"acb", "ab", false},
		{"a b", "ab", false},
		{"a-b", "a_b", false},
		{"[", "{", false},
		{"@", "`", false},
		{"\xe9", "\xc9", false},
		{"\u00e9", "\u00c9", false},
		{"k", "\u212a", false},
		{"\xff\xfe", "\xfe", true},
		{"\xff", "\xfe", false},
		{"\xff", "\ufffd", false},
		{"\x00a", "\x00A", true},
	} {
		if got := text.Has(x.s, x.part); got != x.want {
			t.Errorf("Has(%q, %q) = %v, want %v", x.s, x.part, got, x.want)
		}
	}
}

// P1.3: each byte is found in each that has the same capitals, and in no other.
func TestHasEachByte(t *testing.T) {
	for a := range 256 {
		for b := range 256 {
			s, part := string([]byte{byte(a)}), string([]byte{byte(b)})
			if got, want := text.Has(s, part), upperByte(byte(a)) == upperByte(byte(b)); got != want {
				t.Fatalf("Has(%q, %q) = %v, want %v", s, part, got, want)
			}
		}
	}
}

// P1.4: a number's digits are that number.
func TestNumberOfDigits(t *testing.T) {
	try := func(n int) {
		if m, ok := text.Number(text.Digits(n), n); m != n || !ok {
			t.Errorf("%d: %d, %v", n, m, ok)
		}
		if m, ok := text.Number(text.Digits(n), n-1); m != 0 || ok {
			t.Errorf("%d, most %d: %d, %v", n, n-1, m, ok)
		}
	}
	for n := range 12000 {
		try(n)
	}
	for n := 1; n <= 999999999; n = n*3 + 1 {
		try(n)
	}
	for p := 10; p <= 1000000000; p *= 10 {
		try(p - 1)
		if p < 1000000000 {
			try(p)
			try(p + 1)
		}
	}
	for _, n := range []int{-1, -999999999, 1000000000, math.MaxInt, math.MinInt} {
		if m, ok := text.Number(text.Digits(n), math.MaxInt); m != 0 || ok {
			t.Errorf("%d: %d, %v", n, m, ok)
		}
	}
}

// P1.4: all short texts of some bytes have the words that a plain count tells, and these have themselves.
func TestWordsAgain(t *testing.T) {
	const bytes = " \tab\r\xe2\x82"
	texts := []string{""}
	for k := 0; k < len(texts) && len(texts[k]) < 5; k++ {
		for i := range len(bytes) {
			texts = append(texts, texts[k]+bytes[i:i+1])
		}
	}
	for _, s := range texts {
		words := text.Words(s)
		want := strings.FieldsFunc(s, func(r rune) bool { return r == ' ' || r == '\t' })
		if !slices.Equal(words, want) {
			t.Fatalf("Words(%q) = %q, want %q", s, words, want)
		}
		if again := text.Words(strings.Join(words, " ")); !slices.Equal(again, words) {
			t.Fatalf("Words(%q) = %q, and again %q", s, words, again)
		}
	}
}
